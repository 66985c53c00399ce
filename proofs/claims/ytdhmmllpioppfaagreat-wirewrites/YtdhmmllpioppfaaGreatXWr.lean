/- The law WireWrites. -/
import Derived.Test.YtdhmmllpioppfaaGreatXEnc
import Derived.Test.YtdhmmllpioppfaaGreatXLentAll
import Derived.Test.YtdhmmllpioppfaaGreatXSize
import Derived.Test.YtdhmmllpioppfaaGreatWEncE
import Derived.Test.YtdhmmllpioppfaaGreatWSame
import Derived.Test.YtdhmmllpioppfaaGreatWWork
namespace Go.Proofs.YtdhmmllpioppfaaGreat.V
open Go.RowKit

set_option maxRecDepth 100000 in
set_option maxHeartbeats 8000000 in
theorem writes_main (w : World) (nv tv mv : Value) (m : Msg) (kd : Int) (h : Ms w nv tv mv m) (hl : MLen m) (hlt : ∀ t ∈ m.ts, t.length ≤ 140737488355328) :
    Calls Tryz.prog 3 #[Mv m.k m.ch nv tv m.tx mv, .int .u16 kd] w fun e w' => e = .returned (.bool true) ∧ Below w.heap.size w w' := by
  obtain ⟨an, cn, rfl, hu1⟩ := h.ns
  clear hu1
  obtain ⟨at', ct, rfl, hu2⟩ := h.ts
  clear hu2
  obtain ⟨am, cm, rfl⟩ := h.mo.shape
  have HB0 := hid ((Below.refl w.heap.size w).alloc (Nat.le_refl _) (.cells #[.int .u16 (m.k : Int), St m.ch, .slice an m.ns.length cn, .slice at' m.ts.length ct, St m.tx, .slice am m.mo.length cm] 27))
  have HSZ := hid (fun W (hb : Below w.heap.size w W) => msize_lent W _ _ _ m (h.below hb) hl hlt)
  have HWK := hid (fun W => works_any W)
  have HMS := hid h
  have HML := hid hl
  obtain ⟨a, b, f, hce⟩ : ∃ a b f, cntK kd = (a, b, f) := ⟨_, _, _, rfl⟩
  have HC1 := hid (fun W => counts_any kd W)
  have HC2 := hid (fun W => rcounts_any kd W)
  rw [hce] at HC1 HC2
  obtain ⟨c, ec, hee⟩ : ∃ c e, encR m = (c, e) := ⟨_, _, rfl⟩
  have HEE := hid hee
  clear h hl hlt hce hee
  go_enter Tryz.func3, Tryz.ntmps3
  go_wp2_with fail
  refine (HSZ.out _ HB0.out).mono ?_
  rintro e w1 ⟨⟨r, rfl, hrs⟩, hb1⟩
  have HRS := hid hrs
  have HX1 := hid (box_at hb1)
  have HB1 := hid (box_below hb1)
  clear hb1 hrs HSZ HB0
  by_cases hr : r ≤ 4000
  rotate_left
  · have hr1 : (4000 : Int) < (r : Int) := by omega
    go_wp2_with fail
    refine (HWK.out _).mono ?_
    rintro e w2 ⟨rfl, hb2⟩
    have HB2 := hid (two_low HB1.out hb2)
    clear hb2
    go_wp2_with fail
    go_ret
    exact ⟨rfl, HB2.out⟩
  · have hr1 : ¬ (4000 : Int) < (r : Int) := by omega
    have HRR := hid (HRS.out hr)
    clear HRS
    go_wp2_with fail
    refine (HC1.out _).mono ?_
    rintro e w2 ⟨rfl, hb2⟩
    have HB2 := hid (two_low HB1.out hb2)
    have HX2 := hid ((hb2.block _ (lt_of_block HX1.out)).trans HX1.out)
    clear hb2
    go_wp2_with fail
    refine (HC2.out _).mono ?_
    rintro e w3 ⟨rfl, hb3⟩
    have HB3 := hid (two_low HB2.out hb3)
    have hx3 := (hb3.block _ (lt_of_block HX2.out)).trans HX2.out
    have HX3 := hid hx3
    have c0 : w3.cell? ⟨w.heap.size, 0, none⟩ = some (.int .u16 (m.k : Int)) := (cell_of_heap hx3 0).trans rfl
    have c1 : w3.cell? ⟨w.heap.size, 1, none⟩ = some (St m.ch) := (cell_of_heap hx3 1).trans rfl
    have c2 : w3.cell? ⟨w.heap.size, 2, none⟩ = some (.slice an m.ns.length cn) := (cell_of_heap hx3 2).trans rfl
    have c3 : w3.cell? ⟨w.heap.size, 3, none⟩ = some (.slice at' m.ts.length ct) := (cell_of_heap hx3 3).trans rfl
    have c4 : w3.cell? ⟨w.heap.size, 4, none⟩ = some (St m.tx) := (cell_of_heap hx3 4).trans rfl
    have c5 : w3.cell? ⟨w.heap.size, 5, none⟩ = some (.slice am m.mo.length cm) := (cell_of_heap hx3 5).trans rfl
    have HLE := hid (rlent_any w3 _ _ _ m (HMS.out.below HB3.out) HRR.out.1 HRR.out.2.1 HRR.out.2.2)
    clear hb3 hx3 HB1 HB2 HX1 HX2 HC1 HC2
    go_wp2_with fail
    refine HLE.out.mono ?_
    rintro e w4 ⟨nv', tv', mv', rfl, hmo, hb4⟩
    obtain ⟨an', cn', rfl⟩ := own_slice hmo.ns
    obtain ⟨at2, ct', rfl⟩ := own_slice hmo.ts
    obtain ⟨am', cm', rfl⟩ := hmo.mo.shape
    have hb4' : Below w4.heap.size w4 (w4.alloc (.cells #[.int .u16 (m.k : Int), St m.ch, .slice an' m.ns.length cn', .slice at2 m.ts.length ct', St m.tx, .slice am' m.mo.length cm'] 27)) := (Below.refl _ _).alloc (Nat.le_refl _) _
    have HEN := hid (enc_any _ _ _ _ m (hmo.ms.below hb4') HML.out)
    rw [HEE.out] at HEN
    have HM4 := hid hmo.ms
    have HB4 := hid (two_low HB3.out hb4)
    have HX4 := hid ((hb4.block _ (lt_of_block HX3.out)).trans HX3.out)
    clear hmo hb4 hb4' HLE HB3 HX3 c0 c1 c2 c3 c4 c5
    go_wp2_with fail
    refine HEN.out.mono ?_
    rintro e w5 ⟨ao5, cap5, rfl, ho5, hb5⟩
    have hy5 := box_at hb5
    have hz5 := box_below hb5
    have hx5 := (hz5.block _ (lt_of_block HX4.out)).trans HX4.out
    have HS5 := hid (Sl.own ho5 rfl)
    have HM5 := hid (HM4.out.below hz5)
    have HB5 := hid (two_low HB4.out hz5)
    have HY5 := hid hy5
    have HX5 := hid hx5
    have c0 : w5.cell? ⟨w.heap.size, 0, none⟩ = some (.int .u16 (m.k : Int)) := (cell_of_heap hx5 0).trans rfl
    have c1 : w5.cell? ⟨w.heap.size, 1, none⟩ = some (St m.ch) := (cell_of_heap hx5 1).trans rfl
    have c2 : w5.cell? ⟨w.heap.size, 2, none⟩ = some (.slice an m.ns.length cn) := (cell_of_heap hx5 2).trans rfl
    have c3 : w5.cell? ⟨w.heap.size, 3, none⟩ = some (.slice at' m.ts.length ct) := (cell_of_heap hx5 3).trans rfl
    have c4 : w5.cell? ⟨w.heap.size, 4, none⟩ = some (St m.tx) := (cell_of_heap hx5 4).trans rfl
    have c5 : w5.cell? ⟨w.heap.size, 5, none⟩ = some (.slice am m.mo.length cm) := (cell_of_heap hx5 5).trans rfl
    have HRE := hid (renc_any w5 _ _ _ m (HMS.out.below HB5.out) HML.out)
    rw [HEE.out] at HRE
    clear ho5 hb5 hy5 hz5 hx5 HEN HM4 HB4 HX4
    go_wp2_with fail
    refine HRE.out.mono ?_
    rintro e w6 ⟨ao6, cap6, rfl, hs6, hb6⟩
    have hy6 := (hb6.block _ (lt_of_block HY5.out)).trans HY5.out
    have hx6 := (hb6.block _ (lt_of_block HX5.out)).trans HX5.out
    have hcv1 : (convert 33 9 (.slice ao5 c.length cap5)).run Tryz.prog w6 = .ok (St c) w6 := (HS5.out.below hb6).string
    have hcv2 : (convert 33 9 (.slice ao6 c.length cap6)).run Tryz.prog w6 = .ok (St c) w6 := hs6.string
    have HB6 := hid (two_low HB5.out hb6)
    have HSA := hid (msame_yes w6 _ _ _ _ _ _ m (HM5.out.below hb6) (HMS.out.below HB6.out) HML.out)
    clear c0 c1 c2 c3 c4 c5
    have c0 : w6.cell? ⟨w.heap.size, 0, none⟩ = some (.int .u16 (m.k : Int)) := (cell_of_heap hx6 0).trans rfl
    have c1 : w6.cell? ⟨w.heap.size, 1, none⟩ = some (St m.ch) := (cell_of_heap hx6 1).trans rfl
    have c2 : w6.cell? ⟨w.heap.size, 2, none⟩ = some (.slice an m.ns.length cn) := (cell_of_heap hx6 2).trans rfl
    have c3 : w6.cell? ⟨w.heap.size, 3, none⟩ = some (.slice at' m.ts.length ct) := (cell_of_heap hx6 3).trans rfl
    have c4 : w6.cell? ⟨w.heap.size, 4, none⟩ = some (St m.tx) := (cell_of_heap hx6 4).trans rfl
    have c5 : w6.cell? ⟨w.heap.size, 5, none⟩ = some (.slice am m.mo.length cm) := (cell_of_heap hx6 5).trans rfl
    have d0 : w6.cell? ⟨w4.heap.size, 0, none⟩ = some (.int .u16 (m.k : Int)) := (cell_of_heap hy6 0).trans rfl
    have d1 : w6.cell? ⟨w4.heap.size, 1, none⟩ = some (St m.ch) := (cell_of_heap hy6 1).trans rfl
    have d2 : w6.cell? ⟨w4.heap.size, 2, none⟩ = some (.slice an' m.ns.length cn') := (cell_of_heap hy6 2).trans rfl
    have d3 : w6.cell? ⟨w4.heap.size, 3, none⟩ = some (.slice at2 m.ts.length ct') := (cell_of_heap hy6 3).trans rfl
    have d4 : w6.cell? ⟨w4.heap.size, 4, none⟩ = some (St m.tx) := (cell_of_heap hy6 4).trans rfl
    have d5 : w6.cell? ⟨w4.heap.size, 5, none⟩ = some (.slice am' m.mo.length cm') := (cell_of_heap hy6 5).trans rfl
    clear hs6 hb6 hy6 hx6 HRE HS5 HM5 HB5 HY5 HX5 HEE
    go_wp2_with fail
    refine HSA.out.mono ?_
    rintro e w7 ⟨rfl, hb7⟩
    have HB7 := hid (two_low HB6.out hb7)
    clear hb7 c0 c1 c2 c3 c4 c5 d0 d1 d2 d3 d4 d5 hcv1 hcv2
    go_wp2_with fail
    refine (HWK.out _).mono ?_
    rintro e w8 ⟨rfl, hb8⟩
    have HB8 := hid (two_low HB7.out hb8)
    clear hb8
    go_wp2_with fail
    go_ret
    exact ⟨rfl, HB8.out⟩
end Go.Proofs.YtdhmmllpioppfaaGreat.V
