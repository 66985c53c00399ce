/- The law BechOne. -/
import Derived.Test.YtelfogdcijmenaaDoorMathB
import Derived.Test.YtelfogdcijmenaaDoorWork
namespace Go.Proofs.YtelfogdcijmenaaDoor
open Go.RowKit

theorem Ow.frozen {w : World} {B g cap n : Nat} {xs : Bs} (h : Ow w B (.slice (some ⟨g, 0, none⟩) n cap) xs) {i : Nat} (hi : i < xs.length) : w.frozen? ⟨g, i, none⟩ = false := by
  obtain ⟨g, cap, cur, fr, h1, _, h3, h4, h5, _⟩ := h
  cases h1
  simp only [World.frozen?, h3]
  rcases h4 with rfl | h4
  · simp
  · simp; omega
theorem Ow.set {w : World} {B g cap n : Nat} {xs : Bs} (h : Ow w B (.slice (some ⟨g, 0, none⟩) n cap) xs) (i : Nat) (c : UInt8) : Ow (w.setCell ⟨g, i, none⟩ (By c)) B (.slice (some ⟨g, 0, none⟩) n cap) (xs.set i c) := by
  obtain ⟨g, cap, cur, fr, h1, h2, h3, h4, h5, h6, h7, h8⟩ := h
  cases h1
  refine ⟨g, cap, cur.setIfInBounds i (By c), fr, by rw [List.length_set], h2, by simp [World.setCell, Array.getElem?_modify, h3], h4, by rw [List.length_set]; exact h5, h6, by rw [Array.size_setIfInBounds]; exact h7, ?_⟩
  rw [List.length_set, Array.toList_setIfInBounds, List.take_set, h8]
  simp [Lib.byteCells, List.map_set]
theorem enc_err {h ws t : Bs} {er : Nat} (he : encB h ws = (t, er)) (h0 : er ≠ 0) : t = [] := by
  unfold encB at he
  split at he
  · exact (Prod.mk.inj he).1.symm
  · split at he
    · exact (Prod.mk.inj he).1.symm
    · exact absurd (Prod.mk.inj he).2.symm h0
theorem enc_len {h ws t : Bs} (he : encB h ws = (t, 0)) : t.length = h.length + 1 + (ws.length + 6) := by
  obtain ⟨_, _, _, _, _, rfl⟩ := enc_ok he
  unfold textB
  have : (encW h ws).length = 6 := rfl
  simp [this]
  omega
set_option maxRecDepth 100000 in
set_option maxHeartbeats 8000000 in
theorem one_any (h ws : Bs) (v : Value) (at_ : Int) (by_ : UInt8) (w : World) (hs : Sl w v ws) (hx : Mx w) (_ha : -9223372036854775808 ≤ at_ ∧ at_ ≤ 9223372036854775807) :
    Calls Tryd.prog 7 #[St h, v, .int .i64 at_, By by_] w fun e w' => e = .returned (.bool true) ∧ Below w.heap.size w w' := by
  have HS := hid hs
  have HX := hid hx
  obtain ⟨av, cv, rfl⟩ := hs.shape
  have HW := hid (fun W (hb : Below w.heap.size w W) => works_any W (hx.below hb))
  have HW0 := hid (works_any w hx)
  have hs0 := st_size h
  obtain ⟨n, hn⟩ : ∃ n, n = ws.length := ⟨_, rfl⟩
  obtain ⟨m, hm⟩ : ∃ m, m = h.length := ⟨_, rfl⟩
  rw [← hn]
  rw [← hm] at hs0
  have HN := hid hn
  have HM := hid hm
  clear hs hx hn hm
  by_cases hm2 : 2000 < m
  · have hc : (2000 : Int) < (m : Int) := by omega
    go_enter Tryd.func7, Tryd.ntmps7
    go_wp2_with fail
    refine HW0.out.mono ?_
    rintro e w1 ⟨rfl, hb⟩
    have HB := hid hb
    clear hb
    go_wp2_with fail
    go_ret
    exact ⟨rfl, HB.out⟩
  · have hc : ¬ (2000 : Int) < (m : Int) := by omega
    by_cases hn2 : 2000 < n
    · have hc2 : (2000 : Int) < (n : Int) := by omega
      go_enter Tryd.func7, Tryd.ntmps7
      go_wp2_with fail
      refine HW0.out.mono ?_
      rintro e w1 ⟨rfl, hb⟩
      have HB := hid hb
      clear hb
      go_wp2_with fail
      go_ret
      exact ⟨rfl, HB.out⟩
    · have hc2 : ¬ (2000 : Int) < (n : Int) := by omega
      have HE := hid (enc_any h ws _ w HS.out (by rw [← HN.out]; omega) (by rw [← HM.out]; omega) HX.out)
      rw [← HN.out] at HE
      generalize hen : encB h ws = en at *
      obtain ⟨t, er⟩ := en
      have HEN := hid hen
      clear hen
      simp only [encoded] at HE
      go_enter Tryd.func7, Tryd.ntmps7
      go_wp2_with fail
      refine HE.out.mono ?_
      rintro e w1 ⟨rfl, hb1⟩
      have HB1 := hid hb1
      clear hb1 HE
      by_cases her : er = 0
      · subst her
        have HLT := hid (enc_len HEN.out)
        rw [← HN.out, ← HM.out] at HLT
        have hst := st_size t
        rw [HLT.out] at hst
        have hc3 : ¬ ((m : Int) + 1 + (n + 6)) < (n : Int) + 6 := by omega
        obtain ⟨c2, w2, hr2, ho2, hb2⟩ := text_bytes w1 t (by rw [HLT.out]; omega)
        rw [HLT.out] at hr2 ho2
        have HO2 := hid ho2
        have HB2 := hid (two_below HB1.out hb2)
        clear ho2 hb2
        obtain ⟨j, hj, hjn⟩ : ∃ j : Nat, (IntKind.u64.wrap at_).tmod ((n : Int) + 6) = (j : Int) ∧ j < n + 6 := by
          rw [IntKind.wrap_u64]
          have h0 : 0 ≤ at_ % 18446744073709551616 := Int.emod_nonneg _ (by decide)
          rw [Int.tmod_eq_emod_of_nonneg h0]
          have h1 := Int.emod_nonneg (at_ % 18446744073709551616) (show ((n : Int) + 6) ≠ 0 by omega)
          have h2 := Int.emod_lt_of_pos (at_ % 18446744073709551616) (show 0 < ((n : Int) + 6) by omega)
          exact ⟨((at_ % 18446744073709551616) % ((n : Int) + 6)).toNat, by omega, by omega⟩
        obtain ⟨p, hp, hpj⟩ : ∃ p, p < n + 6 ∧ m + 1 + (n + 6) - 1 - j = m + 1 + p := ⟨n + 6 - 1 - j, by omega, by omega⟩
        have HE12 : Hid (wrap64 ((m : Int) + 1 + ((n : Int) + 6) - 1 - wrap64 ((IntKind.u64.wrap at_).tmod ((n : Int) + 6))) = ((m + 1 + p : Nat) : Int)) := hid (by
          rw [hj]
          unfold wrap64
          omega)
        obtain ⟨x, hx⟩ : ∃ x : UInt8, (x.toNat : Int) = (by_.toNat : Int) % 32 := ⟨UInt8.ofNat (by_.toNat % 32), by rw [UInt8.toNat_ofNat']; omega⟩
        have hx32 : x.toNat < 32 := by omega
        have hix := letter_at x hx32
        unfold By at hix
        rw [hx] at hix
        have HIX := hid hix
        have hlt : m + 1 + p < t.length := by rw [HLT.out]; omega
        have hcell := HO2.out.cell hlt
        have hfz := HO2.out.frozen hlt
        have HSE := hid (HO2.out.set (m + 1 + p) (letterOf x))
        have hlt2 := HO2.out.lt
        have hcap : m + 1 + (n + 6) ≤ c2 := by rw [← HLT.out]; exact hlt2.2.2.1
        have HDO := hid (fun hne => dec_one HEN.out p (by rw [← HN.out]; exact hp) x hx32 hne)
        have hgd : t.getD (m + 1 + p) 0 = t[m + 1 + p] := by simp [List.getD, hlt]
        rw [← HM.out] at HDO
        rw [hgd] at HDO
        clear hgd hj hjn hpj hx hix hlt2
        obtain ⟨K, hK⟩ : ∃ K, K = m + 1 + p := ⟨_, rfl⟩
        have hKl : K < m + 1 + (n + 6) := by omega
        generalize t[m + 1 + p] = y at *
        rw [← hK] at hcell hfz HSE HDO HE12
        generalize letterOf x = z at *
        clear hK hlt
        by_cases hyz : y = z
        · subst hyz
          go_wp2_with (first | (refine wpList_index_run rfl _ (.tmp 60) 9 rfl (St letters) _ (By y) rfl rfl HIX.out ?_; rw [HE12.out]) | fail)
          refine (HW.out _ HB2.out).mono ?_
          rintro e w3 ⟨rfl, hb⟩
          have HB := hid (two_below HB2.out hb)
          clear hb
          go_wp2_with fail
          go_ret
          exact ⟨rfl, HB.out⟩
        · have hne : ((y.toNat : Int) == (z.toNat : Int)) = false := by
            simp
            intro e
            exact hyz (UInt8.toNat_inj.1 (by omega))
          have HD := hid (HDO.out hyz)
          have hsl := HSE.out.sl
          have hstr := hsl.string
          have HB3 := hid (below_set HB2.out HB1.out.size K (By z))
          have HDC := hid (dec_any (t.set K z) (w2.setCell ⟨w1.heap.size, K, none⟩ (By z)) (by rw [List.length_set, HLT.out]; omega) (HX.out.below HB3.out))
          rw [HD.out] at HDC
          clear HSE HDO HD hsl HO2
          generalize t.set K z = t2 at *
          go_wp2_with (first | (refine wpList_index_run rfl _ (.tmp 60) 9 rfl (St letters) _ (By z) rfl rfl HIX.out ?_; rw [HE12.out]) | fail)
          refine HDC.out.mono ?_
          rintro e w4 ⟨v4, rfl, hs4, hb4⟩
          obtain ⟨a4, c4, rfl⟩ := hs4.shape
          have HB4 := hid (two_below HB3.out hb4)
          clear hs4 hb4 hstr hcell hfz
          go_wp2_with fail
          refine (HW.out _ HB4.out).mono ?_
          rintro e w5 ⟨rfl, hb⟩
          have HB := hid (two_below HB4.out hb)
          clear hb
          go_wp2_with fail
          go_ret
          exact ⟨rfl, HB.out⟩
      · have HT := hid (enc_err HEN.out her)
        have her' : (er : Int) ≠ 0 := by omega
        have her2 : ((er : Int) == 0) = false := by simpa using her'
        have hT := HT.out
        subst hT
        go_wp2_with fail
        refine (HW.out _ HB1.out).mono ?_
        rintro e w2 ⟨rfl, hb⟩
        have HB := hid (two_below HB1.out hb)
        clear hb
        go_wp2_with fail
        go_ret
        exact ⟨rfl, HB.out⟩
end Go.Proofs.YtelfogdcijmenaaDoor
