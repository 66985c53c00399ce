/- Keys: the document's children, secrets and points. -/
import Derived.Test.YtkifchjpgdmcoaaDoorKyD
import Derived.Test.YtkifchjpgdmcoaaDoorSdJ
import Derived.Test.YtkifchjpgdmcoaaDoorRMkAll
namespace Go.Proofs.YtkifchjpgdmcoaaDoor
open Go.RowKit

theorem st_mid (c : UInt8) (d : Bs) (e : UInt8) : (⟨(c :: (d ++ [e])).toArray⟩ : ByteArray).extract 1 (d.length + 1) = ⟨d.toArray⟩ := by
  apply ByteArray.ext
  simp

set_option maxHeartbeats 1000000 in
theorem rkyc_any (root word : Bs) (n : Nat) (hw : word.length ≤ 20000) (hn : n ≤ 9223372036854775807) (w : World) :
    Calls Tryd.prog 29 #[St root, St word, .int .i64 (n : Int)] w fun en w' => en = made (kidRes root word n) ∧ Below w.heap.size w w' := by
  have HT := hid (rtext_any word w hw)
  have hdl := dec_len n (by omega)
  have HN : Hid (∀ W, Calls Tryd.prog 52 #[.int .i64 (n : Int)] W fun en w' => en = made (110 :: (dec n ++ [59]), 0) ∧ Below W.heap.size W w') := hid (fun W => by
    have h := rname_any (n : Int) (by omega) (by omega) W
    have e : nameRes (n : Int) = (110 :: (dec n ++ [59]), 0) := by
      unfold nameRes
      rw [if_neg (by omega), Int.toNat_natCast]
      exact bres_none 110 _ (by simp; omega)
    rw [e] at h
    exact h)
  have HD : Hid (∀ W, Calls Tryd.prog 51 #[St (dec n)] W fun en w' => en = made (textRes (dec n)) ∧ Below W.heap.size W w') := hid (fun W => rtext_any (dec n) W (by omega))
  have HR : Hid (kidRes root word n = bRes 68 [] [root, (tupRes [(textRes word).1, (textRes (dec n)).1]).1]) := hid rfl
  have HDL := hid hdl
  clear hw hn hdl
  rw [HR.out]
  clear HR
  generalize dec n = D at HN HD HDL
  generalize textRes D = T2 at HD
  generalize textRes word = T1 at HT
  obtain ⟨t1, n1⟩ := T1
  obtain ⟨t2, n2⟩ := T2
  obtain ⟨U, hU⟩ : ∃ U, tupRes [t1, t2] = U := ⟨_, rfl⟩
  have HU := hid hU
  show Calls Tryd.prog 29 #[St root, St word, .int .i64 (n : Int)] w fun en w' => en = made (bRes 68 [] [root, (tupRes [t1, t2]).1]) ∧ Below w.heap.size w w'
  rw [hU]
  clear hU
  obtain ⟨u, n3⟩ := U
  have hsz : (⟨(110 :: (D ++ [59])).toArray⟩ : ByteArray).size = D.length + 2 := by rw [st_size]; simp
  have hml : D.length + 2 ≤ 30 := by have := HDL.out; omega
  go_enter Tryd.func29, Tryd.ntmps29
  go_wp2_with fail
  refine HT.out.mono ?_
  rintro e w1 ⟨rfl, hb1⟩
  have HB1 := hid hb1
  clear hb1 HT
  go_wp2_with fail
  refine (HN.out _).mono ?_
  rintro e w2 ⟨rfl, hb2⟩
  have HB2 := hid (HB1.out.trans (hb2.mono HB1.out.size))
  clear hb2 HN
  go_wp2_with fail
  rw [st_mid 110 D 59]
  refine (HD.out _).mono ?_
  rintro e w3 ⟨rfl, hb3⟩
  have HB3 := hid (HB2.out.trans (hb3.mono HB2.out.size))
  clear hb3 HD
  have HB4 := hid (HB3.out.alloc HB3.out.size (.cells #[St t1, St t2] 22))
  have HTU := hid (rtuple_any [t1, t2] _ _ (texts_two w3 t1 t2) (by simp))
  rw [HU.out] at HTU
  go_wp2_with fail
  refine HTU.out.mono ?_
  rintro e w4 ⟨rfl, hb4⟩
  have HB5 := hid (HB4.out.trans (hb4.mono HB4.out.size))
  clear hb4 HTU HB4
  have HTW := hid (rtwo_any 68 root u w4)
  rw [twoRes_two (by decide)] at HTW
  go_wp2_with fail
  refine HTW.out.mono ?_
  rintro e w5 ⟨rfl, hb5⟩
  have HB6 := hid (HB5.out.trans (hb5.mono HB5.out.size))
  clear hb5
  go_wp2_with fail
  go_ret2
  exact ⟨rfl, HB6.out⟩

theorem rnode_any (root : Bs) (w : World) : Calls Tryd.prog 8 #[St root] w fun en w' => en = made (kidRes root wNode 0) ∧ Below w.heap.size w w' := by
  have HC : Hid (Calls Tryd.prog 29 #[St root, .string { data := #[110, 111, 100, 101] }, .int .i64 0] w fun en w' => en = made (kidRes root wNode 0) ∧ Below w.heap.size w w') := hid (rkyc_any root wNode 0 (by decide) (by decide) w)
  go_enter Tryd.func8, Tryd.ntmps8
  go_wp2_with fail
  refine HC.out.mono ?_
  rintro e w1 ⟨rfl, hb1⟩
  have HB1 := hid hb1
  clear hb1 HC
  go_wp2_with fail
  go_ret2
  exact ⟨rfl, HB1.out⟩
theorem rcoin_any (root : Bs) (n : Int) (hn : n ≤ 9223372036854775807) (w : World) : Calls Tryd.prog 10 #[St root, .int .i64 n] w fun en w' => en = made (numRes root wCoin n) ∧ Below w.heap.size w w' := by
  by_cases h0 : n < 0
  · have HR : Hid (numRes root wCoin n = ([], 2)) := by apply hid; unfold numRes; rw [if_pos h0]
    go_enter Tryd.func10, Tryd.ntmps10
    go_wp2_with fail
    go_ret2
    exact ⟨by rw [HR.out]; rfl, Below.refl _ _⟩
  · obtain ⟨m, rfl⟩ : ∃ m : Nat, n = (m : Int) := ⟨n.toNat, by omega⟩
    have HR : Hid (numRes root wCoin (m : Int) = kidRes root wCoin m) := by apply hid; unfold numRes; rw [if_neg h0]; simp
    have HC : Hid (Calls Tryd.prog 29 #[St root, .string { data := #[99, 111, 105, 110] }, .int .i64 (m : Int)] w fun en w' => en = made (kidRes root wCoin m) ∧ Below w.heap.size w w') := hid (rkyc_any root wCoin m (by decide) (by omega) w)
    go_enter Tryd.func10, Tryd.ntmps10
    go_wp2_with fail
    refine HC.out.mono ?_
    rintro e w1 ⟨rfl, hb1⟩
    have HB1 := hid hb1
    clear hb1 HC
    go_wp2_with fail
    go_ret2
    exact ⟨by rw [HR.out]; rfl, HB1.out⟩
theorem rbind_any (a b : Bs) (w : World) : Calls Tryd.prog 23 #[St a, St b] w fun en w' => en = made (bRes 75 [] [a, b]) ∧ Below w.heap.size w w' := by
  have HTW := hid (rtwo_any 75 a b w)
  rw [twoRes_two (by decide)] at HTW
  go_enter Tryd.func23, Tryd.ntmps23
  go_wp2_with fail
  refine HTW.out.mono ?_
  rintro e w1 ⟨rfl, hb1⟩
  have HB1 := hid hb1
  clear hb1
  go_wp2_with fail
  go_ret2
  exact ⟨rfl, HB1.out⟩
theorem rrevoke_any (a b : Bs) (w : World) : Calls Tryd.prog 25 #[St a, St b] w fun en w' => en = made (bRes 86 [] [a, b]) ∧ Below w.heap.size w w' := by
  have HTW := hid (rtwo_any 86 a b w)
  rw [twoRes_two (by decide)] at HTW
  go_enter Tryd.func25, Tryd.ntmps25
  go_wp2_with fail
  refine HTW.out.mono ?_
  rintro e w1 ⟨rfl, hb1⟩
  have HB1 := hid hb1
  clear hb1
  go_wp2_with fail
  go_ret2
  exact ⟨rfl, HB1.out⟩

set_option maxHeartbeats 1000000 in
theorem rreveal_any (s : S6) (n : Int) (h1 : -9223372036854775808 ≤ n) (h2 : n ≤ 9223372036854775807) (w : World) :
    Calls Tryd.prog 17 #[s.v, .int .i64 n] w fun en w' => en = made (secRes s.s (1048575 - n)) ∧ Below w.heap.size w w' := by
  obtain ⟨f, r, p, l, h, s⟩ := s
  by_cases h0 : n < 0
  · have HR : Hid (secRes s (1048575 - n) = ([], 2)) := by apply hid; unfold secRes; rw [if_pos (by omega)]
    unfold S6.v
    go_enter Tryd.func17, Tryd.ntmps17
    go_wp2_with fail
    go_ret2
    exact ⟨by rw [HR.out]; rfl, bel_alloc w _⟩
  · by_cases h3 : 1048575 < n
    · have HR : Hid (secRes s (1048575 - n) = ([], 2)) := by apply hid; unfold secRes; rw [if_pos (by omega)]
      unfold S6.v
      go_enter Tryd.func17, Tryd.ntmps17
      go_wp2_with fail
      go_ret2
      exact ⟨by rw [HR.out]; rfl, bel_alloc w _⟩
    · have HB0 := hid (bel_alloc w (.cells #[St f, St r, St p, St l, St h, St s] 28))
      have HC := hid (rsecret_any s (1048575 - n) (w.alloc (.cells #[St f, St r, St p, St l, St h, St s] 28)))
      unfold S6.v
      go_enter Tryd.func17, Tryd.ntmps17
      go_wp2_with fail
      refine HC.out.mono ?_
      rintro e w1 ⟨rfl, hb1⟩
      have HB1 := hid (HB0.out.trans (hb1.mono HB0.out.size))
      clear hb1 HC
      go_wp2_with fail
      go_ret2
      exact ⟨rfl, HB1.out⟩

set_option maxHeartbeats 1000000 in
theorem rpoint_any (s : S6) (n : Int) (h1 : -9223372036854775808 ≤ n) (h2 : n ≤ 9223372036854775807) (w : World) :
    Calls Tryd.prog 19 #[s.v, .int .i64 n] w fun en w' => en = made (pntRes s.s n) ∧ Below w.heap.size w w' := by
  obtain ⟨f, r, p, l, h, s⟩ := s
  have HB0 := hid (bel_alloc w (.cells #[St f, St r, St p, St l, St h, St s] 28))
  have HC := hid (rreveal_any ⟨f, r, p, l, h, s⟩ n h1 h2 (w.alloc (.cells #[St f, St r, St p, St l, St h, St s] 28)))
  unfold S6.v at HC
  have HR : Hid (pntRes s n = if (secRes s (1048575 - n)).2 = 0 then pubRes (secRes s (1048575 - n)).1 else ([], (secRes s (1048575 - n)).2)) := hid rfl
  rw [HR.out]
  clear h1 h2 HR
  dsimp only at HC
  generalize secRes s (1048575 - n) = R at HC
  obtain ⟨t, m⟩ := R
  dsimp only
  by_cases hm : m = 0
  · subst hm
    rw [if_pos rfl]
    unfold S6.v
    go_enter Tryd.func19, Tryd.ntmps19
    go_wp2_with fail
    refine HC.out.mono ?_
    rintro e w1 ⟨rfl, hb1⟩
    have HB1 := hid (HB0.out.trans (hb1.mono HB0.out.size))
    clear hb1 HC
    go_wp2_with fail
    refine (rpubs_any t w1).mono ?_
    rintro e w2 ⟨rfl, hb2⟩
    have HB2 := hid (HB1.out.trans (hb2.mono HB1.out.size))
    clear hb2
    go_wp2_with fail
    go_ret2
    exact ⟨rfl, HB2.out⟩
  · rw [if_neg hm]
    have hm1 : ((m : Int) == 0) = false := by simpa using hm
    have hm2 : ¬ (m : Int) = 0 := by omega
    unfold S6.v
    go_enter Tryd.func19, Tryd.ntmps19
    go_wp2_with fail
    refine HC.out.mono ?_
    rintro e w1 ⟨rfl, hb1⟩
    have HB1 := hid (HB0.out.trans (hb1.mono HB0.out.size))
    clear hb1 HC
    go_wp2_with fail
    go_ret2
    exact ⟨rfl, HB1.out⟩

end Go.Proofs.YtkifchjpgdmcoaaDoor
