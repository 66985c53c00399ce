/- slices.choosePivotOrdered of numbers. -/
import Derived.Test.YtcmbijckhcckpaaMed
namespace Go.Proofs.Ytcmbijckhcckpaa
open Go.RowKit Go.Sort

theorem med_bound (d : Array Int) (a b c k : Nat) : ((Sort.median ltInt d a b c k).1 = a ∨ (Sort.median ltInt d a b c k).1 = b ∨ (Sort.median ltInt d a b c k).1 = c) ∧ (Sort.median ltInt d a b c k).2 ≤ k + 3 := by
  unfold Sort.median
  simp only []
  have L1 := ord_lt d a b k
  generalize Sort.order2 ltInt d a b k = r1 at *
  have L2 := ord_lt d r1.2.1 c r1.2.2
  generalize Sort.order2 ltInt d r1.2.1 c r1.2.2 = r2 at *
  have L3 := ord_lt d r1.1 r2.1 r2.2.2
  generalize Sort.order2 ltInt d r1.1 r2.1 r2.2.2 = r3 at *
  omega
/-- a hint as Go writes it -/
def hintN : Hint → Int
  | .unknown => 0
  | .increasing => 1
  | .decreasing => 2
theorem ctr_new (w : World) : Ctr (w.alloc (.cells #[.int .i64 0] 3)) w.heap.size 0 := by
  have h := heap_alloc_new w (.cells #[.int .i64 0] 3)
  refine ⟨?_, ?_⟩
  · rw [cell_of_heap h]; rfl
  · exact frozen_of_heap h 0
theorem ctr_below {w w1 w2 : World} {B z n : Nat} {v : Value} (hb : Below B w w1) (hz : B ≤ z) (h : w2 = (Sort.ahead w1 n).setCell ⟨z, 0, none⟩ v) : Below B w w2 := by
  subst h
  refine ⟨hb.os, hb.tape, hb.output, by have := hb.size; simpa [World.setCell, Sort.ahead] using this, fun i hi => ?_⟩
  rw [← hb.block i hi]
  show (w1.heap.modify z _)[i]? = _
  rw [Array.getElem?_modify, if_neg (by omega)]
set_option maxRecDepth 100000 in
set_option maxHeartbeats 8000000 in
theorem piv_few (w : World) (g c a b : Nat) (d : Array Int) (hH : Holds (Value.int .u64) w g 0 d) (hg : g < w.heap.size) (hab : a + 12 < b) (hlt : b < a + 50) (hb : b ≤ d.size) (hsz : d.size ≤ 100) :
    Calls Try.prog 46 #[.slice (some ⟨g, 0, none⟩) d.size c, .int .i64 (a : Int), .int .i64 (b : Int)] w fun e w' =>
      e = .returned (.tuple #[.int .i64 ((Sort.choosePivot ltInt d a b).1 : Int), .int .i64 (hintN (Sort.choosePivot ltInt d a b).2)]) ∧ Below w.heap.size w w' := by
  obtain ⟨l, hl⟩ : ∃ l, l = b - a := ⟨_, rfl⟩
  obtain ⟨q, hq⟩ : ∃ q, q = l / 4 := ⟨_, rfl⟩
  have hB0 := (Below.refl w.heap.size w).alloc (Nat.le_refl _) (.cells #[.int .i64 0] 3)
  have hH1 : Holds (Value.int .u64) (w.alloc (.cells #[.int .i64 0] 3)) g 0 d := fun j hj => by
    have h := hH j hj
    have e1 := Below.heap_alloc w (.cells #[.int .i64 0] 3) g hg
    refine ⟨(World.cell?_of_block e1).trans h.1, ?_⟩
    have h2 := h.2
    unfold World.frozen? at h2 ⊢
    rw [e1]
    exact h2
  have hM := med_any (w.alloc (.cells #[.int .i64 0] 3)) g c (a + q * 1) (a + q * 2) (a + q * 3) w.heap.size 0 d hH1 (ctr_new w) (by omega) (by omega) (by omega) (by omega) (by omega) hsz
  have hcp : Sort.choosePivot ltInt d a b = ((Sort.median ltInt d (a + q * 1) (a + q * 2) (a + q * 3) 0).1, if (Sort.median ltInt d (a + q * 1) (a + q * 2) (a + q * 3) 0).2 = 0 then .increasing else if (Sort.median ltInt d (a + q * 1) (a + q * 2) (a + q * 3) 0).2 = 12 then .decreasing else .unknown) := by
    unfold Sort.choosePivot
    simp only [← hl, ← hq]
    rw [if_pos (by omega), if_neg (by omega)]
  rw [hcp]
  have MB := (med_bound d (a + q * 1) (a + q * 2) (a + q * 3) 0).2
  generalize Sort.median ltInt d (a + q * 1) (a + q * 2) (a + q * 3) 0 = r at *
  obtain ⟨m, sw⟩ := r
  simp only [] at hM MB ⊢
  obtain ⟨ht, hht⟩ : ∃ t, t = (if sw = 0 then Hint.increasing else if sw = 12 then Hint.decreasing else Hint.unknown) := ⟨_, rfl⟩
  rw [← hht]
  have HHT := hid hht
  clear hht
  obtain ⟨s, hs⟩ : ∃ s, s = d.size := ⟨_, rfl⟩
  rw [← hs] at hM ⊢
  have HKE := hid (fun (w2 : World) (n : Nat) (h : w2 = (Sort.ahead (w.alloc (.cells #[.int .i64 0] 3)) n).setCell ⟨w.heap.size, 0, none⟩ (.int .i64 (sw : Int))) => (ctr_keep hH1 (ctr_new w) (by omega) h).2.cell)
  have HBE := hid (fun (w2 : World) (n : Nat) (h : w2 = (Sort.ahead (w.alloc (.cells #[.int .i64 0] 3)) n).setCell ⟨w.heap.size, 0, none⟩ (.int .i64 (sw : Int))) => ctr_below hB0 (Nat.le_refl _) h)
  rw [show ((a + q * 1 : Nat) : Int) = (a : Int) + (q : Int) by omega, show ((a + q * 2 : Nat) : Int) = (a : Int) + (q : Int) * 2 by omega, show ((a + q * 3 : Nat) : Int) = (a : Int) + (q : Int) * 3 by omega] at hM
  have HM := hid hM
  have HQ : Hid ((l : Int) / 4 = (q : Int)) := hid (by omega)
  have e1 : IntKind.i64.wrap ((b : Int) - (a : Int)) = (l : Int) := by rw [IntKind.wrap_i64]; omega
  have e2 : IntKind.i64.wrap ((l : Int).tdiv 4) = (q : Int) := by rw [show (l : Int).tdiv 4 = ((l / 4 : Nat) : Int) from rfl, ← hq, IntKind.wrap_i64]; omega
  have e3 : (8 : Int) ≤ (l : Int) := by omega
  have e4 : ¬ (50 : Int) ≤ (l : Int) := by omega
  have hq2 : q ≤ 25 := by omega
  have ha2 : a ≤ 100 := by omega
  clear hB0 hM hs hcp hH hH1 hb hsz hab hlt hl hq
  go_enter Try.func46, Try.ntmps46
  go_wp2_with fail
  rw [HQ.out]
  refine HM.out.mono ?_
  rintro e w2 ⟨rfl, n, hw2⟩
  have hcell := HKE.out w2 n hw2
  have HB2 := hid (HBE.out w2 n hw2)
  clear hw2 HKE HBE HM e1 e2 e3 e4
  by_cases h0 : sw = 0
  · subst h0
    go_wp2_with fail
    go_ret2
    exact ⟨by rw [HHT.out]; rfl, HB2.out⟩
  · have h1 : ((sw : Int) == 0) = false := by simp; omega
    have h2 : ¬ (sw : Int) = 0 := by omega
    by_cases h12 : sw = 12
    · subst h12
      go_wp2_with fail
      go_ret2
      exact ⟨by rw [HHT.out]; rfl, HB2.out⟩
    · have h3 : ((sw : Int) == 12) = false := by simp; omega
      have h4 : ¬ (sw : Int) = 12 := by omega
      go_wp2_with fail
      go_ret2
      exact ⟨by rw [HHT.out, if_neg h0, if_neg h12]; rfl, HB2.out⟩
end Go.Proofs.Ytcmbijckhcckpaa
