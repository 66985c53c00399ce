/- Keys: a public key in new memory. -/
import Derived.Test.YtkifchjpgdmcoaaDoorKyA
import Derived.Test.YtkifchjpgdmcoaaDoorOpen
namespace Go.Proofs.YtkifchjpgdmcoaaDoor
open Go.RowKit

theorem parts_agg_below {w w1 : World} (hb : Below w.heap.size w w1) (o : Obj) : Below w.heap.size w (w1.alloc o) := hb.alloc hb.size o

set_option maxHeartbeats 2000000 in
theorem pk_any (k : Bs) (w : World) : Calls Tryd.prog 37 #[St k] w fun en w' => en = made (pkRes k) ∧ Below w.heap.size w w' := by
  by_cases hd : Tm.deep k = 0
  · have HR : Hid (pkRes k = ([], 10)) := hid (by unfold pkRes; rw [if_neg (fun h => h.1 hd)])
    have HO := hid (open_no k w hd)
    clear hd
    go_enter Tryd.func37, Tryd.ntmps37
    go_wp2_with fail
    refine HO.out.mono ?_
    rintro e w1 ⟨rfl, hb1⟩
    have HB1 := hid (parts_agg_below hb1 (.cells #[.int .u8 0, .int .i64 0, .string ⟨#[]⟩, .slice none 0 0] 71))
    clear hb1 HO
    go_wp2_with fail
    go_ret2
    exact ⟨by rw [HR.out]; rfl, HB1.out⟩
  · have HL := hid (deep_len hd)
    match k, hd with
    | [], hd => exact absurd rfl hd
    | c :: l, hd =>
      have HO := hid (open_yes c l w hd)
      have HF := hid (fun W => fterm_any (c :: l) W HL.out)
      have hpk : Tm.isPk (c :: l).head? = true ↔ ((c.toNat : Int) = 80 ∨ (c.toNat : Int) = 87 ∨ (c.toNat : Int) = 76) := by
        have h1 : ∀ d : UInt8, (c = d ↔ (c.toNat : Int) = (d.toNat : Int)) := fun d => by
          rw [← UInt8.toNat_inj]; omega
        have e1 := h1 80
        have e2 := h1 87
        have e3 := h1 76
        have i1 : ((80 : UInt8).toNat : Int) = 80 := rfl
        have i2 : ((87 : UInt8).toNat : Int) = 87 := rfl
        have i3 : ((76 : UInt8).toNat : Int) = 76 := rfl
        rw [i1] at e1
        rw [i2] at e2
        rw [i3] at e3
        unfold Tm.isPk
        simp [e1, e2, e3, or_assoc]
      have hr : pkRes (c :: l) = if Tm.isPk (c :: l).head? = true then (c :: l, 0) else ([], 10) := by
        unfold pkRes
        by_cases h : Tm.isPk (c :: l).head? = true
        · rw [if_pos ⟨hd, h⟩, if_pos h]
        · rw [if_neg (fun x => h x.2), if_neg h]
      rw [hr]
      clear hr hd HL
      generalize Tm.kidsOf 63 (c :: l) = ks at HO
      generalize setN (c :: l) 0 = N at HO
      generalize setX (c :: l) ⟨#[]⟩ = X at HO
      generalize Tm.isPk (c :: l).head? = q at hpk
      generalize (c.toNat : Int) = cn at HO hpk
      generalize hcl : c :: l = t at HO HF
      clear hcl
      by_cases h80 : cn = 80
      · subst h80
        have hq : q = true := hpk.2 (Or.inl rfl)
        subst hq
        clear hpk
        go_enter Tryd.func37, Tryd.ntmps37
        go_wp2_with fail
        refine HO.out.mono ?_
        rintro e w1 ⟨kids, rfl, ho, hb1⟩
        obtain ⟨ao, kn, kc, rfl⟩ := own_slice ho
        have HB1 := hid (parts_agg_below hb1 (.cells #[.int .u8 80, .int .i64 N, .string X, .slice ao kn kc] 71))
        clear hb1 HO ho
        go_wp2_with fail
        refine (HF.out _).mono ?_
        rintro e w2 ⟨rfl, hb2⟩
        have HB2 := hid (HB1.out.trans (hb2.mono HB1.out.size))
        clear hb2
        go_wp2_with fail
        go_ret2
        exact ⟨rfl, HB2.out⟩
      · have q80 : (cn == 80) = false := by simpa using h80
        by_cases h87 : cn = 87
        · subst h87
          have hq : q = true := hpk.2 (Or.inr (Or.inl rfl))
          subst hq
          clear hpk
          go_enter Tryd.func37, Tryd.ntmps37
          go_wp2_with fail
          refine HO.out.mono ?_
          rintro e w1 ⟨kids, rfl, ho, hb1⟩
          obtain ⟨ao, kn, kc, rfl⟩ := own_slice ho
          have HB1 := hid (parts_agg_below hb1 (.cells #[.int .u8 87, .int .i64 N, .string X, .slice ao kn kc] 71))
          clear hb1 HO ho
          go_wp2_with fail
          refine (HF.out _).mono ?_
          rintro e w2 ⟨rfl, hb2⟩
          have HB2 := hid (HB1.out.trans (hb2.mono HB1.out.size))
          clear hb2
          go_wp2_with fail
          go_ret2
          exact ⟨rfl, HB2.out⟩
        · have q87 : (cn == 87) = false := by simpa using h87
          by_cases h76 : cn = 76
          · subst h76
            have hq : q = true := hpk.2 (Or.inr (Or.inr rfl))
            subst hq
            clear hpk
            go_enter Tryd.func37, Tryd.ntmps37
            go_wp2_with fail
            refine HO.out.mono ?_
            rintro e w1 ⟨kids, rfl, ho, hb1⟩
            obtain ⟨ao, kn, kc, rfl⟩ := own_slice ho
            have HB1 := hid (parts_agg_below hb1 (.cells #[.int .u8 76, .int .i64 N, .string X, .slice ao kn kc] 71))
            clear hb1 HO ho
            go_wp2_with fail
            refine (HF.out _).mono ?_
            rintro e w2 ⟨rfl, hb2⟩
            have HB2 := hid (HB1.out.trans (hb2.mono HB1.out.size))
            clear hb2
            go_wp2_with fail
            go_ret2
            exact ⟨rfl, HB2.out⟩
          · have q76 : (cn == 76) = false := by simpa using h76
            have hq : q = false := by
              cases q with
              | false => rfl
              | true => rcases hpk.1 rfl with h | h | h <;> contradiction
            subst hq
            clear hpk
            go_enter Tryd.func37, Tryd.ntmps37
            go_wp2_with fail
            refine HO.out.mono ?_
            rintro e w1 ⟨kids, rfl, ho, hb1⟩
            obtain ⟨ao, kn, kc, rfl⟩ := own_slice ho
            have HB1 := hid (parts_agg_below hb1 (.cells #[.int .u8 cn, .int .i64 N, .string X, .slice ao kn kc] 71))
            clear hb1 HO ho
            go_wp2_with fail
            go_ret2
            exact ⟨rfl, HB1.out⟩
end Go.Proofs.YtkifchjpgdmcoaaDoor
