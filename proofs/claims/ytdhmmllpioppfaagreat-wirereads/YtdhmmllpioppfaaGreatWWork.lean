/- works: a message is written and read. -/
import Derived.Test.YtdhmmllpioppfaaGreatWSame
namespace Go.Proofs.YtdhmmllpioppfaaGreat.V
open Go.RowKit

def wm : Msg := ⟨130, [99], [1], [[110, 55, 59]], [], []⟩
def wb : Bs := [0, 130, 1, 99, 1, 0, 0, 0, 0, 0, 0, 0, 1, 1, 3, 110, 55, 59, 0]
theorem wm_enc : encR wm = (wb, 0) := by decide +kernel
theorem wm_fit : MFit wm := ⟨by decide, by decide, fun _ h => by cases h⟩
theorem wm_len : MLen wm := ⟨by decide, by decide, by decide, by decide, by decide, ⟨by decide, fun i hi => by simp [wm] at hi⟩⟩
theorem wm_dec : decR wb = (wm, 0) := dec_enc wm_fit wm_enc
theorem ns_one (W : World) (g : Nat) (x : Int) (h : W.heap[g]? = some (.cells #[.int .i64 x] 2 (0, 0))) : Ns W (.slice (some ⟨g, 0, none⟩) 1 1) [x] :=
  ⟨_, _, rfl, fun _ => ⟨g, 0, rfl, lt_of_block h, fun i hi => by
    have : i = 0 := by simpa using hi
    subst this
    exact (cell_of_heap h 0).trans rfl⟩⟩
theorem ts_one (W : World) (g : Nat) (x : Bs) (h : W.heap[g]? = some (.cells #[St x] 46 (0, 0))) : Ts W (.slice (some ⟨g, 0, none⟩) 1 1) [x] :=
  ⟨_, _, rfl, fun _ => ⟨g, 0, rfl, lt_of_block h, fun i hi => by
    have : i = 0 := by simpa using hi
    subst this
    exact (cell_of_heap h 0).trans rfl⟩⟩
/-- the world in which the message is laid -/
abbrev wW (w : World) : World := ((w.alloc (.cells #[.int .i64 1] 2)).alloc (.cells #[St [110, 55, 59]] 46)).alloc (.cells #[.int .u16 130, St [99], .slice (some ⟨w.heap.size, 0, none⟩) 1 1, .slice (some ⟨w.heap.size + 1, 0, none⟩) 1 1, St [], .slice none 0 0] 27)
theorem wW_below (w : World) : Below w.heap.size w (wW w) := (((Below.refl _ w).alloc (Nat.le_refl _) _).alloc (by simp) _).alloc (by simp; omega) _
theorem wW_ms (w : World) : Ms (wW w) (.slice (some ⟨w.heap.size, 0, none⟩) 1 1) (.slice (some ⟨w.heap.size + 1, 0, none⟩) 1 1) (.slice none 0 0) wm := by
  refine ⟨ns_one _ _ _ ?_, ts_one _ _ _ ?_, Rcs.nil _⟩
  · rw [Below.heap_alloc _ _ _ (by simp; omega), Below.heap_alloc _ _ _ (by simp)]
    exact heap_alloc_new w _
  · rw [Below.heap_alloc _ _ _ (by simp)]
    have := heap_alloc_new (w.alloc (.cells #[.int .i64 1] 2)) (.cells #[St [110, 55, 59]] 46)
    simpa using this
theorem wW_box (w : World) : (wW w).heap[w.heap.size + 2]? = some (.cells #[.int .u16 130, St [99], .slice (some ⟨w.heap.size, 0, none⟩) 1 1, .slice (some ⟨w.heap.size + 1, 0, none⟩) 1 1, St [], .slice none 0 0] 27 (0, 0)) := by
  have := heap_alloc_new ((w.alloc (.cells #[.int .i64 1] 2)).alloc (.cells #[St [110, 55, 59]] 46)) (.cells #[.int .u16 130, St [99], .slice (some ⟨w.heap.size, 0, none⟩) 1 1, .slice (some ⟨w.heap.size + 1, 0, none⟩) 1 1, St [], .slice none 0 0] 27)
  simpa using this
set_option maxRecDepth 100000 in
set_option maxHeartbeats 8000000 in
theorem works_any (w : World) : Calls Tryz.prog 6 #[] w fun e w' => e = .returned (.bool true) ∧ Below w.heap.size w w' := by
  have HE := hid (enc_any (wW w) _ _ _ wm (wW_ms w) wm_len)
  rw [wm_enc] at HE
  have HB0 := hid (wW_below w)
  have HX0 := hid (wW_box w)
  have HM0 := hid (wW_ms w)
  go_enter Tryz.func6, Tryz.ntmps6
  go_wp2_with fail
  refine HE.out.mono ?_
  rintro e w1 ⟨ao, cap, rfl, hown, hb1⟩
  have HSL : Hid (Sl w1 (.slice ao 19 cap) wb) := hid (Sl.own hown rfl)
  have HB1 := hid (two_low HB0.out hb1)
  have HX1 := hid ((hb1.block _ (lt_of_block HX0.out)).trans HX0.out)
  have HM1 := hid (HM0.out.below hb1)
  have HD := hid (dec_any w1 (.slice ao 19 cap) wb HSL.out (by decide))
  rw [wm_dec] at HD
  clear hown hb1 HE
  go_wp2_with fail
  refine HD.out.mono ?_
  rintro e w2 ⟨nv, tv, mv, rfl, hmo, hb2⟩
  obtain ⟨an, cn, rfl⟩ := own_slice hmo.ns
  obtain ⟨at', ct, rfl⟩ := own_slice hmo.ts
  obtain ⟨am, cm, rfl⟩ := hmo.mo.shape
  have HB2 := hid (two_low HB1.out hb2)
  have HX2 := hid ((hb2.block _ (lt_of_block HX1.out)).trans HX1.out)
  have HM2 := hid (HM1.out.below hb2)
  have HN2 := hid hmo.ms
  have HS2 := hid (HSL.out.below hb2)
  clear hmo hb2 HD
  have hba : Below w2.heap.size w2 (w2.alloc (.cells #[.int .u16 (wm.k : Int), St wm.ch, .slice an wm.ns.length cn, .slice at' wm.ts.length ct, St wm.tx, .slice am wm.mo.length cm] 27)) := (Below.refl _ _).alloc (Nat.le_refl _) _
  have hcv : (convert 33 9 (.slice ao wb.length cap)).run Tryz.prog (w2.alloc (.cells #[.int .u16 (wm.k : Int), St wm.ch, .slice an wm.ns.length cn, .slice at' wm.ts.length ct, St wm.tx, .slice am wm.mo.length cm] 27)) = .ok (.string ⟨#[0, 130, 1, 99, 1, 0, 0, 0, 0, 0, 0, 0, 1, 1, 3, 110, 55, 59, 0]⟩) _ := (HS2.out.below hba).string
  have hx3 := (hba.block _ (lt_of_block HX2.out)).trans HX2.out
  have d0 : (w2.alloc (.cells #[.int .u16 (wm.k : Int), St wm.ch, .slice an wm.ns.length cn, .slice at' wm.ts.length ct, St wm.tx, .slice am wm.mo.length cm] 27)).cell? ⟨w.heap.size + 1 + 1, 0, none⟩ = some (.int .u16 130) := (cell_of_heap hx3 0).trans rfl
  have d1 : (w2.alloc (.cells #[.int .u16 (wm.k : Int), St wm.ch, .slice an wm.ns.length cn, .slice at' wm.ts.length ct, St wm.tx, .slice am wm.mo.length cm] 27)).cell? ⟨w.heap.size + 1 + 1, 1, none⟩ = some (St [99]) := (cell_of_heap hx3 1).trans rfl
  have d2 : (w2.alloc (.cells #[.int .u16 (wm.k : Int), St wm.ch, .slice an wm.ns.length cn, .slice at' wm.ts.length ct, St wm.tx, .slice am wm.mo.length cm] 27)).cell? ⟨w.heap.size + 1 + 1, 2, none⟩ = some (.slice (some ⟨w.heap.size, 0, none⟩) 1 1) := (cell_of_heap hx3 2).trans rfl
  have d3 : (w2.alloc (.cells #[.int .u16 (wm.k : Int), St wm.ch, .slice an wm.ns.length cn, .slice at' wm.ts.length ct, St wm.tx, .slice am wm.mo.length cm] 27)).cell? ⟨w.heap.size + 1 + 1, 3, none⟩ = some (.slice (some ⟨w.heap.size + 1, 0, none⟩) 1 1) := (cell_of_heap hx3 3).trans rfl
  have d4 : (w2.alloc (.cells #[.int .u16 (wm.k : Int), St wm.ch, .slice an wm.ns.length cn, .slice at' wm.ts.length ct, St wm.tx, .slice am wm.mo.length cm] 27)).cell? ⟨w.heap.size + 1 + 1, 4, none⟩ = some (St []) := (cell_of_heap hx3 4).trans rfl
  have d5 : (w2.alloc (.cells #[.int .u16 (wm.k : Int), St wm.ch, .slice an wm.ns.length cn, .slice at' wm.ts.length ct, St wm.tx, .slice am wm.mo.length cm] 27)).cell? ⟨w.heap.size + 1 + 1, 5, none⟩ = some (.slice none 0 0) := (cell_of_heap hx3 5).trans rfl
  have HSM := hid (msame_yes (w2.alloc (.cells #[.int .u16 (wm.k : Int), St wm.ch, .slice an wm.ns.length cn, .slice at' wm.ts.length ct, St wm.tx, .slice am wm.mo.length cm] 27)) _ _ _ _ _ _ wm (HM2.out.below hba) (HN2.out.below hba) wm_len)
  have HB3 := hid (two_low HB2.out hba)
  clear hx3 hba
  go_wp2_with fail
  refine HSM.out.mono ?_
  rintro e w4 ⟨rfl, hb4⟩
  have HB4 := hid (two_low HB3.out hb4)
  clear hb4
  go_wp2_with fail
  go_ret
  exact ⟨rfl, HB4.out⟩
end Go.Proofs.YtdhmmllpioppfaaGreat.V
