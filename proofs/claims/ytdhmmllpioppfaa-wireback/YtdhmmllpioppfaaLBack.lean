/- The law WireBack. -/
import Derived.Test.YtdhmmllpioppfaaWWork
namespace Go.Proofs.Ytdhmmllpioppfaa.V
open Go.RowKit

theorem dec_len {b : Bs} {m : Msg} (h : decR b = (m, 0)) (hb : b.length ≤ 40000) : MLen m := by
  unfold decR at h
  split at h
  · cases h
  · split at h
    · rename_i m' hr
      split at h
      · cases h
        exact read_len hr hb
      · cases h
    · cases h
theorem noM_len : MLen noM := ⟨by decide, by decide, by decide, by decide, by decide, ⟨by decide, fun i hi => by simp [noM] at hi⟩⟩
set_option maxRecDepth 100000 in
set_option maxHeartbeats 16000000 in
theorem back_main (w : World) (nv tv mv v : Value) (m : Msg) (b : Bs) (h : Ms w nv tv mv m) (hl : MLen m) (hf : MFit m) (hlt : ∀ t ∈ m.ts, t.length ≤ 140737488355328) (hs : Sl w v b) (hb : b.length ≤ 140737488355328) :
    Calls Try.prog 3 #[Mv m.k m.ch nv tv m.tx mv, v] w fun e w' => e = .returned (.bool true) ∧ Below w.heap.size w w' := by
  obtain ⟨an, cn, rfl, _⟩ := h.ns
  obtain ⟨at', ct, rfl, _⟩ := h.ts
  obtain ⟨am, cm, rfl⟩ := h.mo.shape
  obtain ⟨av, cv, rfl⟩ := hs.shape
  have HSZ := hid (fun W (hb : Below w.heap.size w W) => msize_any W _ _ _ m (h.below hb) hl hlt)
  have HWK := hid (fun W => works_any W)
  have HEN := hid (fun W (hb : Below w.heap.size w W) => enc_any W _ _ _ m (h.below hb) hl)
  have HDC := hid (fun W (hbw : Below w.heap.size w W) => dec_any W _ b (hs.below hbw) hb)
  have HMS := hid h
  have HSL := hid hs
  have HB0 := hid ((Below.refl w.heap.size w).alloc (Nat.le_refl _) (.cells #[.int .u16 (m.k : Int), St m.ch, .slice an m.ns.length cn, .slice at' m.ts.length ct, St m.tx, .slice am m.mo.length cm] 27))
  have HML := hid hl
  have hE : ∀ c e, encR m = (c, e) → (e ≠ 0 → c = []) ∧ (e = 0 → decR c = (m, 0) ∧ c.length ≤ 140737488355328) := fun c e h1 => ⟨fun h2 => enc_err h1 h2, fun h2 => by
    subst h2
    refine ⟨dec_enc hf h1, ?_⟩
    unfold encR at h1
    split at h1
    · cases h1
    · split at h1
      · cases h1
      · cases h1
        omega⟩
  obtain ⟨c, ec, hce⟩ : ∃ c e, encR m = (c, e) := ⟨_, _, rfl⟩
  have HEC := hid (hE c ec hce)
  rw [hce] at HEN
  obtain ⟨m2, e2, hd2⟩ : ∃ m e, decR b = (m, e) := ⟨_, _, rfl⟩
  have HD2 : Hid ((e2 ≠ 0 → m2 = noM) ∧ (e2 = 0 → b.length ≤ 40000 → encR m2 = (b, 0) ∧ MLen m2)) := hid ⟨fun h => dec_err hd2 h, fun h hq => by
    subst h
    exact ⟨(enc_dec hd2).1, dec_len hd2 hq⟩⟩
  rw [hd2] at HDC
  have hbl : b.length ≤ 140737488355328 := hb
  clear h hl hf hlt hs hb hE hce hd2
  obtain ⟨q, hq⟩ : ∃ q, q = b.length := ⟨_, rfl⟩
  have HQ := hid hq
  rw [← hq] at HDC hbl HSL ⊢
  clear hq
  go_enter Try.func3, Try.ntmps3
  go_wp2_with fail
  refine (HSZ.out _ HB0.out).mono ?_
  rintro e w1 ⟨⟨r, rfl⟩, hb1⟩
  have HX1 := hid (box_at hb1)
  have HB1 := hid (box_below hb1)
  clear hb1 HSZ HB0
  by_cases hr : r ≤ 4000
  rotate_left
  · have hr1 : (4000 : Int) < (r : Int) := by omega
    go_wp2_with fail
    refine (HWK.out _).mono ?_
    rintro e w2 ⟨rfl, hb2⟩
    have HB2 := hid (two_low HB1.out hb2)
    clear hb2
    go_wp2_with fail
    go_ret
    exact ⟨rfl, HB2.out⟩
  have hr1 : ¬ (4000 : Int) < (r : Int) := by omega
  by_cases hq : q ≤ 4000
  rotate_left
  · have hq1 : (4000 : Int) < (q : Int) := by omega
    go_wp2_with fail
    refine (HWK.out _).mono ?_
    rintro e w2 ⟨rfl, hb2⟩
    have HB2 := hid (two_low HB1.out hb2)
    clear hb2
    go_wp2_with fail
    go_ret
    exact ⟨rfl, HB2.out⟩
  have hq1 : ¬ (4000 : Int) < (q : Int) := by omega
  have HBQ : Hid (b.length ≤ 40000) := hid (by rw [← HQ.out]; omega)
  have a0 : w1.cell? ⟨w.heap.size, 0, none⟩ = some (.int .u16 (m.k : Int)) := (cell_of_heap HX1.out 0).trans rfl
  have a1 : w1.cell? ⟨w.heap.size, 1, none⟩ = some (St m.ch) := (cell_of_heap HX1.out 1).trans rfl
  have a2 : w1.cell? ⟨w.heap.size, 2, none⟩ = some (.slice an m.ns.length cn) := (cell_of_heap HX1.out 2).trans rfl
  have a3 : w1.cell? ⟨w.heap.size, 3, none⟩ = some (.slice at' m.ts.length ct) := (cell_of_heap HX1.out 3).trans rfl
  have a4 : w1.cell? ⟨w.heap.size, 4, none⟩ = some (St m.tx) := (cell_of_heap HX1.out 4).trans rfl
  have a5 : w1.cell? ⟨w.heap.size, 5, none⟩ = some (.slice am m.mo.length cm) := (cell_of_heap HX1.out 5).trans rfl
  go_wp2_with fail
  refine (HEN.out _ HB1.out).mono ?_
  rintro e w2 ⟨ao, cap, rfl, hown, hb2⟩
  have HSC : Hid (Sl w2 (.slice ao c.length cap) c) := hid (Sl.own hown rfl)
  have HX2 := hid ((hb2.block _ (lt_of_block HX1.out)).trans HX1.out)
  have HB2 := hid (two_low HB1.out hb2)
  clear hown hb2 HEN a0 a1 a2 a3 a4 a5
  by_cases he : ec = 0
  · subst he
    obtain ⟨hdc, hcl⟩ := HEC.out.2 rfl
    have HDM := hid (dec_any w2 (.slice ao c.length cap) c HSC.out hcl)
    rw [hdc] at HDM
    clear hdc hcl HEC
    go_wp2_with fail
    refine HDM.out.mono ?_
    rintro e w3 ⟨nv3, tv3, mv3, rfl, hmo, hb3⟩
    obtain ⟨an3, cn3, rfl⟩ := own_slice hmo.ns
    obtain ⟨at3, ct3, rfl⟩ := own_slice hmo.ts
    obtain ⟨am3, cm3, rfl⟩ := hmo.mo.shape
    have hba : Below w3.heap.size w3 (w3.alloc (.cells #[.int .u16 (m.k : Int), St m.ch, .slice an3 m.ns.length cn3, .slice at3 m.ts.length ct3, St m.tx, .slice am3 m.mo.length cm3] 27)) := (Below.refl _ _).alloc (Nat.le_refl _) _
    have hx3 := (hb3.block _ (lt_of_block HX2.out)).trans HX2.out
    have hx4 := (hba.block _ (lt_of_block hx3)).trans hx3
    have HB3 := hid (two_low HB2.out hb3)
    have HB4 := hid (two_low HB3.out hba)
    have HSM := hid (msame_yes (w3.alloc (.cells #[.int .u16 (m.k : Int), St m.ch, .slice an3 m.ns.length cn3, .slice at3 m.ts.length ct3, St m.tx, .slice am3 m.mo.length cm3] 27)) _ _ _ _ _ _ m (HMS.out.below HB4.out) (hmo.ms.below hba) HML.out)
    have d0 : (w3.alloc (.cells #[.int .u16 (m.k : Int), St m.ch, .slice an3 m.ns.length cn3, .slice at3 m.ts.length ct3, St m.tx, .slice am3 m.mo.length cm3] 27)).cell? ⟨w.heap.size, 0, none⟩ = some (.int .u16 (m.k : Int)) := (cell_of_heap hx4 0).trans rfl
    have d1 : (w3.alloc (.cells #[.int .u16 (m.k : Int), St m.ch, .slice an3 m.ns.length cn3, .slice at3 m.ts.length ct3, St m.tx, .slice am3 m.mo.length cm3] 27)).cell? ⟨w.heap.size, 1, none⟩ = some (St m.ch) := (cell_of_heap hx4 1).trans rfl
    have d2 : (w3.alloc (.cells #[.int .u16 (m.k : Int), St m.ch, .slice an3 m.ns.length cn3, .slice at3 m.ts.length ct3, St m.tx, .slice am3 m.mo.length cm3] 27)).cell? ⟨w.heap.size, 2, none⟩ = some (.slice an m.ns.length cn) := (cell_of_heap hx4 2).trans rfl
    have d3 : (w3.alloc (.cells #[.int .u16 (m.k : Int), St m.ch, .slice an3 m.ns.length cn3, .slice at3 m.ts.length ct3, St m.tx, .slice am3 m.mo.length cm3] 27)).cell? ⟨w.heap.size, 3, none⟩ = some (.slice at' m.ts.length ct) := (cell_of_heap hx4 3).trans rfl
    have d4 : (w3.alloc (.cells #[.int .u16 (m.k : Int), St m.ch, .slice an3 m.ns.length cn3, .slice at3 m.ts.length ct3, St m.tx, .slice am3 m.mo.length cm3] 27)).cell? ⟨w.heap.size, 4, none⟩ = some (St m.tx) := (cell_of_heap hx4 4).trans rfl
    have d5 : (w3.alloc (.cells #[.int .u16 (m.k : Int), St m.ch, .slice an3 m.ns.length cn3, .slice at3 m.ts.length ct3, St m.tx, .slice am3 m.mo.length cm3] 27)).cell? ⟨w.heap.size, 5, none⟩ = some (.slice am m.mo.length cm) := (cell_of_heap hx4 5).trans rfl
    clear hx3 hx4 hba hmo hb3 HDM
    go_wp2_with fail
    refine HSM.out.mono ?_
    rintro e w5 ⟨rfl, hb5⟩
    have HB5 := hid (two_low HB4.out hb5)
    clear hb5 d0 d1 d2 d3 d4 d5 HSM
    go_wp2_with fail
    refine (HDC.out _ HB5.out).mono ?_
    rintro e w6 ⟨nv6, tv6, mv6, rfl, hmo, hb6⟩
    obtain ⟨an6, cn6, rfl⟩ := own_slice hmo.ns
    obtain ⟨at6, ct6, rfl⟩ := own_slice hmo.ts
    obtain ⟨am6, cm6, rfl⟩ := hmo.mo.shape
    have HB6 := hid (two_low HB5.out hb6)
    have HM6 := hid hmo.ms
    clear hmo hb6
    by_cases h2 : e2 = 0
    · subst h2
      obtain ⟨hen, hml⟩ := HD2.out.2 rfl HBQ.out
      have hba : Below w6.heap.size w6 (w6.alloc (.cells #[.int .u16 (m2.k : Int), St m2.ch, .slice an6 m2.ns.length cn6, .slice at6 m2.ts.length ct6, St m2.tx, .slice am6 m2.mo.length cm6] 27)) := (Below.refl _ _).alloc (Nat.le_refl _) _
      have HE2 := hid (enc_any (w6.alloc (.cells #[.int .u16 (m2.k : Int), St m2.ch, .slice an6 m2.ns.length cn6, .slice at6 m2.ts.length ct6, St m2.tx, .slice am6 m2.mo.length cm6] 27)) _ _ _ m2 (HM6.out.below hba) hml)
      rw [hen, ← HQ.out] at HE2
      have HB7 := hid (two_low HB6.out hba)
      clear hen hml hba
      go_wp2_with fail
      refine HE2.out.mono ?_
      rintro e w8 ⟨ao8, cap8, rfl, hown, hb8⟩
      have hcv1 := (Sl.own hown HQ.out).string
      have hcv2 := (HSL.out.below (two_low HB7.out hb8)).string
      have HB8 := hid (two_low HB7.out hb8)
      clear hown hb8 HE2
      go_wp2_with fail
      refine (HWK.out _).mono ?_
      rintro e w9 ⟨rfl, hb9⟩
      have HB9 := hid (two_low HB8.out hb9)
      clear hb9
      go_wp2_with fail
      go_ret
      exact ⟨rfl, HB9.out⟩
    · have h20 := HD2.out.1 h2
      subst h20
      have h21 : ((e2 : Int) == 0) = false := by simpa using h2
      have h22 : ¬ (e2 : Int) = 0 := by omega
      have hba : Below w6.heap.size w6 (w6.alloc (.cells (#[.int .u16 (noM.k : Int), St noM.ch, .slice an6 noM.ns.length cn6, .slice at6 noM.ts.length ct6, St noM.tx, .slice am6 noM.mo.length cm6] : Array Value) 27)) := (Below.refl _ _).alloc (Nat.le_refl _) _
      have HSM := hid (msame_yes (w6.alloc (.cells #[.int .u16 (noM.k : Int), St noM.ch, .slice an6 noM.ns.length cn6, .slice at6 noM.ts.length ct6, St noM.tx, .slice am6 noM.mo.length cm6] 27)) _ _ _ _ _ _ noM (HM6.out.below hba) (Mo.none 0 (w6.alloc (.cells #[.int .u16 (noM.k : Int), St noM.ch, .slice an6 noM.ns.length cn6, .slice at6 noM.ts.length ct6, St noM.tx, .slice am6 noM.mo.length cm6] 27))).ms noM_len)
      have HB7 := hid (two_low HB6.out hba)
      clear hba h2
      go_wp2_with fail
      refine HSM.out.mono ?_
      rintro e w8 ⟨rfl, hb8⟩
      have HB8 := hid (two_low HB7.out hb8)
      clear hb8 HSM
      go_wp2_with fail
      refine (HWK.out _).mono ?_
      rintro e w9 ⟨rfl, hb9⟩
      have HB9 := hid (two_low HB8.out hb9)
      clear hb9
      go_wp2_with fail
      go_ret
      exact ⟨rfl, HB9.out⟩
  · have hc0 := HEC.out.1 he
    subst hc0
    have he1 : ((ec : Int) == 0) = false := by simpa using he
    have he2 : ¬ (ec : Int) = 0 := by omega
    have HB5 := HB2
    obtain ⟨w5, rfl⟩ : ∃ w5, w5 = w2 := ⟨_, rfl⟩
    clear HEC he
    go_wp2_with fail
    refine (HDC.out _ HB5.out).mono ?_
    rintro e w6 ⟨nv6, tv6, mv6, rfl, hmo, hb6⟩
    obtain ⟨an6, cn6, rfl⟩ := own_slice hmo.ns
    obtain ⟨at6, ct6, rfl⟩ := own_slice hmo.ts
    obtain ⟨am6, cm6, rfl⟩ := hmo.mo.shape
    have HB6 := hid (two_low HB5.out hb6)
    have HM6 := hid hmo.ms
    clear hmo hb6
    by_cases h2 : e2 = 0
    · subst h2
      obtain ⟨hen, hml⟩ := HD2.out.2 rfl HBQ.out
      have hba : Below w6.heap.size w6 (w6.alloc (.cells #[.int .u16 (m2.k : Int), St m2.ch, .slice an6 m2.ns.length cn6, .slice at6 m2.ts.length ct6, St m2.tx, .slice am6 m2.mo.length cm6] 27)) := (Below.refl _ _).alloc (Nat.le_refl _) _
      have HE2 := hid (enc_any (w6.alloc (.cells #[.int .u16 (m2.k : Int), St m2.ch, .slice an6 m2.ns.length cn6, .slice at6 m2.ts.length ct6, St m2.tx, .slice am6 m2.mo.length cm6] 27)) _ _ _ m2 (HM6.out.below hba) hml)
      rw [hen, ← HQ.out] at HE2
      have HB7 := hid (two_low HB6.out hba)
      clear hen hml hba
      go_wp2_with fail
      refine HE2.out.mono ?_
      rintro e w8 ⟨ao8, cap8, rfl, hown, hb8⟩
      have hcv1 := (Sl.own hown HQ.out).string
      have hcv2 := (HSL.out.below (two_low HB7.out hb8)).string
      have HB8 := hid (two_low HB7.out hb8)
      clear hown hb8 HE2
      go_wp2_with fail
      refine (HWK.out _).mono ?_
      rintro e w9 ⟨rfl, hb9⟩
      have HB9 := hid (two_low HB8.out hb9)
      clear hb9
      go_wp2_with fail
      go_ret
      exact ⟨rfl, HB9.out⟩
    · have h20 := HD2.out.1 h2
      subst h20
      have h21 : ((e2 : Int) == 0) = false := by simpa using h2
      have h22 : ¬ (e2 : Int) = 0 := by omega
      have hba : Below w6.heap.size w6 (w6.alloc (.cells (#[.int .u16 (noM.k : Int), St noM.ch, .slice an6 noM.ns.length cn6, .slice at6 noM.ts.length ct6, St noM.tx, .slice am6 noM.mo.length cm6] : Array Value) 27)) := (Below.refl _ _).alloc (Nat.le_refl _) _
      have HSM := hid (msame_yes (w6.alloc (.cells #[.int .u16 (noM.k : Int), St noM.ch, .slice an6 noM.ns.length cn6, .slice at6 noM.ts.length ct6, St noM.tx, .slice am6 noM.mo.length cm6] 27)) _ _ _ _ _ _ noM (HM6.out.below hba) (Mo.none 0 (w6.alloc (.cells #[.int .u16 (noM.k : Int), St noM.ch, .slice an6 noM.ns.length cn6, .slice at6 noM.ts.length ct6, St noM.tx, .slice am6 noM.mo.length cm6] 27))).ms noM_len)
      have HB7 := hid (two_low HB6.out hba)
      clear hba h2
      go_wp2_with fail
      refine HSM.out.mono ?_
      rintro e w8 ⟨rfl, hb8⟩
      have HB8 := hid (two_low HB7.out hb8)
      clear hb8 HSM
      go_wp2_with fail
      refine (HWK.out _).mono ?_
      rintro e w9 ⟨rfl, hb9⟩
      have HB9 := hid (two_low HB8.out hb9)
      clear hb9
      go_wp2_with fail
      go_ret
      exact ⟨rfl, HB9.out⟩
end Go.Proofs.Ytdhmmllpioppfaa.V
