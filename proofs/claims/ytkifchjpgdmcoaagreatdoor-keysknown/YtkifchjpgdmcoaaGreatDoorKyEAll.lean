import Derived.Test.YtkifchjpgdmcoaaGreatDoorKyD
import Derived.Test.YtkifchjpgdmcoaaGreatDoorSdIAll
import Derived.Test.YtkifchjpgdmcoaaGreatDoorRMkAll
import Derived.Test.YtkifchjpgdmcoaaGreatDoorKyBAll
/- Keys: the document's children, secrets and points. -/
namespace Go.Proofs.YtkifchjpgdmcoaaGreatDoor
open Go.RowKit
theorem st_mid (c : UInt8) (d : Bs) (e : UInt8) : (⟨(c :: (d ++ [e])).toArray⟩ : ByteArray).extract 1 (d.length + 1) = ⟨d.toArray⟩ := by
 apply ByteArray.ext
 simp
set_option maxHeartbeats 1000000 in
theorem rkyc_any (root word : Bs) (n : Nat) (hw : word.length ≤ 20000) (hn : n ≤ 9223372036854775807) (w : World) :
   Calls Tryz.prog 65 #[St root, St word, .int .i64 (n : Int)] w fun en w' => en = made (kidRes root word n) ∧ Below w.heap.size w w' := by
 have HT := hid (rtext_any word w hw)
 have hdl := dec_len n (by omega)
 have HN : Hid (∀ W, Calls Tryz.prog 88 #[.int .i64 (n : Int)] W fun en w' => en = made (110 :: (dec n ++ [59]), 0) ∧ Below W.heap.size W w') := hid (fun W => by
   have h := rname_any (n : Int) (by omega) (by omega) W
   have e : nameRes (n : Int) = (110 :: (dec n ++ [59]), 0) := by
     unfold nameRes
     rw [if_neg (by omega), Int.toNat_natCast]
     exact bres_none 110 _ (by simp; omega)
   rw [e] at h
   exact h)
 have HD : Hid (∀ W, Calls Tryz.prog 87 #[St (dec n)] W fun en w' => en = made (textRes (dec n)) ∧ Below W.heap.size W w') := hid (fun W => rtext_any (dec n) W (by omega))
 have HR : Hid (kidRes root word n = bRes 68 [] [root, (tupRes [(textRes word).1, (textRes (dec n)).1]).1]) := hid rfl
 have HDL := hid hdl
 clear hw hn hdl
 rw [HR.out]
 clear HR
 generalize dec n = D at HN HD HDL
 generalize textRes D = T2 at HD
 generalize textRes word = T1 at HT
 obtain ⟨t1, n1⟩ := T1
 obtain ⟨t2, n2⟩ := T2
 obtain ⟨U, hU⟩ : ∃ U, tupRes [t1, t2] = U := ⟨_, rfl⟩
 have HU := hid hU
 show Calls Tryz.prog 65 #[St root, St word, .int .i64 (n : Int)] w fun en w' => en = made (bRes 68 [] [root, (tupRes [t1, t2]).1]) ∧ Below w.heap.size w w'
 rw [hU]
 clear hU
 obtain ⟨u, n3⟩ := U
 have hsz : (⟨(110 :: (D ++ [59])).toArray⟩ : ByteArray).size = D.length + 2 := by rw [st_size]; simp
 have hml : D.length + 2 ≤ 30 := by have := HDL.out; omega
 go_enter Tryz.func65, Tryz.ntmps65
 go_wp2_with fail
 refine HT.out.mono ?_
 rintro e w1 ⟨rfl, hb1⟩
 have HB1 := hid hb1
 clear hb1 HT
 go_wp2_with fail
 refine (HN.out _).mono ?_
 rintro e w2 ⟨rfl, hb2⟩
 have HB2 := hid (HB1.out.trans (hb2.mono HB1.out.size))
 clear hb2 HN
 go_wp2_with fail
 rw [st_mid 110 D 59]
 refine (HD.out _).mono ?_
 rintro e w3 ⟨rfl, hb3⟩
 have HB3 := hid (HB2.out.trans (hb3.mono HB2.out.size))
 clear hb3 HD
 have HB4 := hid (HB3.out.alloc HB3.out.size (.cells #[St t1, St t2] 22))
 have HTU := hid (rtuple_any [t1, t2] _ _ (texts_two w3 t1 t2) (by simp))
 rw [HU.out] at HTU
 go_wp2_with fail
 refine HTU.out.mono ?_
 rintro e w4 ⟨rfl, hb4⟩
 have HB5 := hid (HB4.out.trans (hb4.mono HB4.out.size))
 clear hb4 HTU HB4
 have HTW := hid (rtwo_any 68 root u w4)
 rw [twoRes_two (by decide)] at HTW
 go_wp2_with fail
 refine HTW.out.mono ?_
 rintro e w5 ⟨rfl, hb5⟩
 have HB6 := hid (HB5.out.trans (hb5.mono HB5.out.size))
 clear hb5
 go_wp2_with fail
 go_ret2
 exact ⟨rfl, HB6.out⟩
theorem rnode_any (root : Bs) (w : World) : Calls Tryz.prog 37 #[St root] w fun en w' => en = made (kidRes root wNode 0) ∧ Below w.heap.size w w' := by
 have HC : Hid (Calls Tryz.prog 65 #[St root, .string { data := #[110, 111, 100, 101] }, .int .i64 0] w fun en w' => en = made (kidRes root wNode 0) ∧ Below w.heap.size w w') := hid (rkyc_any root wNode 0 (by decide) (by decide) w)
 go_enter Tryz.func37, Tryz.ntmps37
 go_wp2_with fail
 refine HC.out.mono ?_
 rintro e w1 ⟨rfl, hb1⟩
 have HB1 := hid hb1
 clear hb1 HC
 go_wp2_with fail
 go_ret2
 exact ⟨rfl, HB1.out⟩
theorem rcoin_any (root : Bs) (n : Int) (hn : n ≤ 9223372036854775807) (w : World) : Calls Tryz.prog 38 #[St root, .int .i64 n] w fun en w' => en = made (numRes root wCoin n) ∧ Below w.heap.size w w' := by
 by_cases h0 : n < 0
 · have HR : Hid (numRes root wCoin n = ([], 2)) := by apply hid; unfold numRes; rw [if_pos h0]
   go_enter Tryz.func38, Tryz.ntmps38
   go_wp2_with fail
   go_ret2
   exact ⟨by rw [HR.out]; rfl, Below.refl _ _⟩
 · obtain ⟨m, rfl⟩ : ∃ m : Nat, n = (m : Int) := ⟨n.toNat, by omega⟩
   have HR : Hid (numRes root wCoin (m : Int) = kidRes root wCoin m) := by apply hid; unfold numRes; rw [if_neg h0]; simp
   have HC : Hid (Calls Tryz.prog 65 #[St root, .string { data := #[99, 111, 105, 110] }, .int .i64 (m : Int)] w fun en w' => en = made (kidRes root wCoin m) ∧ Below w.heap.size w w') := hid (rkyc_any root wCoin m (by decide) (by omega) w)
   go_enter Tryz.func38, Tryz.ntmps38
   go_wp2_with fail
   refine HC.out.mono ?_
   rintro e w1 ⟨rfl, hb1⟩
   have HB1 := hid hb1
   clear hb1 HC
   go_wp2_with fail
   go_ret2
   exact ⟨by rw [HR.out]; rfl, HB1.out⟩
theorem rbind_any (a b : Bs) (w : World) : Calls Tryz.prog 44 #[St a, St b] w fun en w' => en = made (bRes 75 [] [a, b]) ∧ Below w.heap.size w w' := by
 have HTW := hid (rtwo_any 75 a b w)
 rw [twoRes_two (by decide)] at HTW
 go_enter Tryz.func44, Tryz.ntmps44
 go_wp2_with fail
 refine HTW.out.mono ?_
 rintro e w1 ⟨rfl, hb1⟩
 have HB1 := hid hb1
 clear hb1
 go_wp2_with fail
 go_ret2
 exact ⟨rfl, HB1.out⟩
theorem rrevoke_any (a b : Bs) (w : World) : Calls Tryz.prog 45 #[St a, St b] w fun en w' => en = made (bRes 86 [] [a, b]) ∧ Below w.heap.size w w' := by
 have HTW := hid (rtwo_any 86 a b w)
 rw [twoRes_two (by decide)] at HTW
 go_enter Tryz.func45, Tryz.ntmps45
 go_wp2_with fail
 refine HTW.out.mono ?_
 rintro e w1 ⟨rfl, hb1⟩
 have HB1 := hid hb1
 clear hb1
 go_wp2_with fail
 go_ret2
 exact ⟨rfl, HB1.out⟩
set_option maxHeartbeats 1000000 in
theorem rreveal_any (s : S6) (n : Int) (h1 : -9223372036854775808 ≤ n) (h2 : n ≤ 9223372036854775807) (w : World) :
   Calls Tryz.prog 41 #[s.v, .int .i64 n] w fun en w' => en = made (secRes s.s (1048575 - n)) ∧ Below w.heap.size w w' := by
 obtain ⟨f, r, p, l, h, s⟩ := s
 by_cases h0 : n < 0
 · have HR : Hid (secRes s (1048575 - n) = ([], 2)) := by apply hid; unfold secRes; rw [if_pos (by omega)]
   unfold S6.v
   go_enter Tryz.func41, Tryz.ntmps41
   go_wp2_with fail
   go_ret2
   exact ⟨by rw [HR.out]; rfl, bel_alloc w _⟩
 · by_cases h3 : 1048575 < n
   · have HR : Hid (secRes s (1048575 - n) = ([], 2)) := by apply hid; unfold secRes; rw [if_pos (by omega)]
     unfold S6.v
     go_enter Tryz.func41, Tryz.ntmps41
     go_wp2_with fail
     go_ret2
     exact ⟨by rw [HR.out]; rfl, bel_alloc w _⟩
   · have HB0 := hid (bel_alloc w (.cells #[St f, St r, St p, St l, St h, St s] 24))
     have HC := hid (rsecret_any s (1048575 - n) (w.alloc (.cells #[St f, St r, St p, St l, St h, St s] 24)))
     unfold S6.v
     go_enter Tryz.func41, Tryz.ntmps41
     go_wp2_with fail
     refine HC.out.mono ?_
     rintro e w1 ⟨rfl, hb1⟩
     have HB1 := hid (HB0.out.trans (hb1.mono HB0.out.size))
     clear hb1 HC
     go_wp2_with fail
     go_ret2
     exact ⟨rfl, HB1.out⟩
set_option maxHeartbeats 1000000 in
theorem rpoint_any (s : S6) (n : Int) (h1 : -9223372036854775808 ≤ n) (h2 : n ≤ 9223372036854775807) (w : World) :
   Calls Tryz.prog 42 #[s.v, .int .i64 n] w fun en w' => en = made (pntRes s.s n) ∧ Below w.heap.size w w' := by
 obtain ⟨f, r, p, l, h, s⟩ := s
 have HB0 := hid (bel_alloc w (.cells #[St f, St r, St p, St l, St h, St s] 24))
 have HC := hid (rreveal_any ⟨f, r, p, l, h, s⟩ n h1 h2 (w.alloc (.cells #[St f, St r, St p, St l, St h, St s] 24)))
 unfold S6.v at HC
 have HR : Hid (pntRes s n = if (secRes s (1048575 - n)).2 = 0 then pubRes (secRes s (1048575 - n)).1 else ([], (secRes s (1048575 - n)).2)) := hid rfl
 rw [HR.out]
 clear h1 h2 HR
 dsimp only at HC
 generalize secRes s (1048575 - n) = R at HC
 obtain ⟨t, m⟩ := R
 dsimp only
 by_cases hm : m = 0
 · subst hm
   rw [if_pos rfl]
   unfold S6.v
   go_enter Tryz.func42, Tryz.ntmps42
   go_wp2_with fail
   refine HC.out.mono ?_
   rintro e w1 ⟨rfl, hb1⟩
   have HB1 := hid (HB0.out.trans (hb1.mono HB0.out.size))
   clear hb1 HC
   go_wp2_with fail
   refine (rpubs_any t w1).mono ?_
   rintro e w2 ⟨rfl, hb2⟩
   have HB2 := hid (HB1.out.trans (hb2.mono HB1.out.size))
   clear hb2
   go_wp2_with fail
   go_ret2
   exact ⟨rfl, HB2.out⟩
 · rw [if_neg hm]
   have hm1 : ((m : Int) == 0) = false := by simpa using hm
   have hm2 : ¬ (m : Int) = 0 := by omega
   unfold S6.v
   go_enter Tryz.func42, Tryz.ntmps42
   go_wp2_with fail
   refine HC.out.mono ?_
   rintro e w1 ⟨rfl, hb1⟩
   have HB1 := hid (HB0.out.trans (hb1.mono HB0.out.size))
   clear hb1 HC
   go_wp2_with fail
   go_ret2
   exact ⟨rfl, HB1.out⟩
end Go.Proofs.YtkifchjpgdmcoaaGreatDoor

/- A region that draws its order, reads what lies there and stores it once. -/
namespace Go.Proofs.YtkifchjpgdmcoaaGreatDoor
open Go.RowKit
structure Rp (ops : Array Oper) (D : List Nat) (dst : Nat → Nat) (val : Nat → Value) (z : Nat) (a0 : Act) (w1 w2 : World) (l : Array Bool) (a : Act) (w : World) : Prop where
 size : l.size = ops.size
 off : Off D a0 a
 wor : w = if l.getD z false = true then w2 else w1.drew
 has : ∀ j, j < ops.size → j ≠ z → dn l j → gt a (dst j) = val j
theorem region_put {P : Program} {ops : Array Oper} {Q : Exit → Act → World → Prop} {id : Nat} {a0 : Act} {w1 : World} (D : List Nat) (dst : Nat → Nat) (val : Nat → Value) (z : Nat) (w2 : World)
   (hm : P.follows .mixedOrders = true)
   (hb : ∀ (i : Nat) (o : Oper), ops[i]? = some o → ∀ e ∈ o.after, e.on < i)
   (hD : ∀ i, i < ops.size → i ≠ z → dst i ∈ D ∧ dst i < a0.tmps.size)
   (hinj : ∀ i j, i < ops.size → j < ops.size → i ≠ z → j ≠ z → i ≠ j → dst i ≠ dst j)
   (hp : ∀ (i : Nat) (o : Oper) (a : Act) (w : World), ops[i]? = some o → i ≠ z → (w = w1.drew ∨ w = w2) → Off D a0 a → (∀ e ∈ o.after, Region.binds .any e = true → e.on ≠ z → gt a (dst e.on) = val e.on) → wpOp P ops Q i (fun a' w' => a' = a.put (some (dst i)) (val i) ∧ w' = w) a w)
   (hz : ∀ (o : Oper) (a : Act), ops[z]? = some o → Off D a0 a → (∀ e ∈ o.after, Region.binds .any e = true → e.on ≠ z → gt a (dst e.on) = val e.on) → wpOp P ops Q z (fun a' w' => a' = a ∧ w' = w2) a w1.drew)
   (hd : ∀ (a : Act), Off D a0 a → (∀ i, i < ops.size → i ≠ z → gt a (dst i) = val i) → Q .normal a w2) (hzs : z < ops.size := by decide) : (Code.region id ops true).wp P Q a0 w1 := by
 refine region_inv (Rp ops D dst val z a0 w1 w2) hm hb ?_ ?_ ?_
 · have hno : ∀ j : Nat, ¬ dn (Array.replicate ops.size false) j := fun j hj => by
     rcases Nat.lt_or_ge j ops.size with h | h
     · simp [dn, h] at hj
     · simp [dn, h] at hj
   exact ⟨by simp, Off.refl _ _, by rw [if_neg (hno z)], fun j _ _ hj => absurd hj (hno j)⟩
 · intro l a w i o hI ho hf hw
   have hi : i < ops.size := (Array.getElem?_eq_some_iff.1 ho).1
   have hil : i < l.size := by rw [hI.size]; exact hi
   have hu := undone hf
   have hdep : ∀ e ∈ o.after, Region.binds .any e = true → e.on ≠ z → gt a (dst e.on) = val e.on := fun e he hbd hne => hI.has e.on (Nat.lt_trans (hb i o ho e he) hi) hne (hw e he hbd)
   by_cases hiz : i = z
   · subst hiz
     have hw1 := hI.wor
     rw [if_neg hu] at hw1
     subst hw1
     refine wpOp_mono ?_ (hz o a ho hI.off hdep)
     rintro a' w' ⟨rfl, rfl⟩
     exact ⟨by simpa using hI.size, hI.off, by rw [if_pos (dn_here hil)], fun j h1 h2 h3 => hI.has j h1 h2 (dn_set (Ne.symm h2) h3)⟩
   · have hw1 : w = w1.drew ∨ w = w2 := by
       have := hI.wor
       split at this
       · exact .inr this
       · exact .inl this
     refine wpOp_mono ?_ (hp i o a w ho hiz hw1 hI.off hdep)
     rintro a' w' ⟨rfl, rfl⟩
     refine ⟨by simpa using hI.size, hI.off.put (hD i hi hiz).1 _, by rw [getD_set_other hiz]; exact hI.wor, fun j h1 h2 h3 => ?_⟩
     by_cases e : i = j
     · subst e
       exact get_put_same (by rw [hI.off.size]; exact (hD i hi hiz).2)
     · exact (get_put_ne (hinj i j hi h1 hiz h2 e)).trans (hI.has j h1 h2 (dn_set e h3))
 · intro l a w hI hl
   have hall : ∀ i, i < ops.size → dn l i := fun i hi => by
     have h := hl i
     have hs : i < l.size := by rw [hI.size]; exact hi
     simpa [dn, hs] using h
   have hw := hI.wor
   rw [if_pos (hall z hzs)] at hw
   subst hw
   exact hd a hI.off (fun i h1 h2 => hI.has i h1 h2 (hall i h1))
end Go.Proofs.YtkifchjpgdmcoaaGreatDoor
