/- slices.choosePivotOrdered of fifty numbers and more. -/
import Derived.Test.YtcmbijckhcckpaaPiv
namespace Go.Proofs.Ytcmbijckhcckpaa
open Go.RowKit Go.Sort

theorem madj_bound (d : Array Int) (a k : Nat) (ha : 1 ≤ a ∧ a + 1 < d.size) : (Sort.medianAdjacent ltInt d a k).1 < d.size ∧ (Sort.medianAdjacent ltInt d a k).2 ≤ k + 3 := by
  have h := med_bound d (a - 1) a (a + 1) k
  unfold Sort.medianAdjacent
  omega
set_option maxRecDepth 100000 in
set_option maxHeartbeats 8000000 in
theorem piv_many (w : World) (g c a b : Nat) (d : Array Int) (hH : Holds (Value.int .u64) w g 0 d) (hg : g < w.heap.size) (hge : a + 50 ≤ b) (hb : b ≤ d.size) (hsz : d.size ≤ 100) :
    Calls Try.prog 46 #[.slice (some ⟨g, 0, none⟩) d.size c, .int .i64 (a : Int), .int .i64 (b : Int)] w fun e w' =>
      e = .returned (.tuple #[.int .i64 ((Sort.choosePivot ltInt d a b).1 : Int), .int .i64 (hintN (Sort.choosePivot ltInt d a b).2)]) ∧ Below w.heap.size w w' := by
  obtain ⟨l, hl⟩ : ∃ l, l = b - a := ⟨_, rfl⟩
  obtain ⟨q, hq⟩ : ∃ q, q = l / 4 := ⟨_, rfl⟩
  have hB0 := (Below.refl w.heap.size w).alloc (Nat.le_refl _) (.cells #[.int .i64 0] 3)
  have hH1 : Holds (Value.int .u64) (w.alloc (.cells #[.int .i64 0] 3)) g 0 d := fun j hj => by
    have h := hH j hj
    have e1 := Below.heap_alloc w (.cells #[.int .i64 0] 3) g hg
    refine ⟨(World.cell?_of_block e1).trans h.1, ?_⟩
    have h2 := h.2
    unfold World.frozen? at h2 ⊢
    rw [e1]
    exact h2
  have hgz : g ≠ w.heap.size := by omega
  have hC1 := ctr_new w
  generalize hw1 : w.alloc (.cells #[.int .i64 0] 3) = w1 at hB0 hH1 hC1
  have hcp : Sort.choosePivot ltInt d a b = ((Sort.median ltInt d (Sort.medianAdjacent ltInt d (a + q * 1) 0).1 (Sort.medianAdjacent ltInt d (a + q * 2) (Sort.medianAdjacent ltInt d (a + q * 1) 0).2).1 (Sort.medianAdjacent ltInt d (a + q * 3) (Sort.medianAdjacent ltInt d (a + q * 2) (Sort.medianAdjacent ltInt d (a + q * 1) 0).2).2).1 (Sort.medianAdjacent ltInt d (a + q * 3) (Sort.medianAdjacent ltInt d (a + q * 2) (Sort.medianAdjacent ltInt d (a + q * 1) 0).2).2).2).1, if (Sort.median ltInt d (Sort.medianAdjacent ltInt d (a + q * 1) 0).1 (Sort.medianAdjacent ltInt d (a + q * 2) (Sort.medianAdjacent ltInt d (a + q * 1) 0).2).1 (Sort.medianAdjacent ltInt d (a + q * 3) (Sort.medianAdjacent ltInt d (a + q * 2) (Sort.medianAdjacent ltInt d (a + q * 1) 0).2).2).1 (Sort.medianAdjacent ltInt d (a + q * 3) (Sort.medianAdjacent ltInt d (a + q * 2) (Sort.medianAdjacent ltInt d (a + q * 1) 0).2).2).2).2 = 0 then .increasing else if (Sort.median ltInt d (Sort.medianAdjacent ltInt d (a + q * 1) 0).1 (Sort.medianAdjacent ltInt d (a + q * 2) (Sort.medianAdjacent ltInt d (a + q * 1) 0).2).1 (Sort.medianAdjacent ltInt d (a + q * 3) (Sort.medianAdjacent ltInt d (a + q * 2) (Sort.medianAdjacent ltInt d (a + q * 1) 0).2).2).1 (Sort.medianAdjacent ltInt d (a + q * 3) (Sort.medianAdjacent ltInt d (a + q * 2) (Sort.medianAdjacent ltInt d (a + q * 1) 0).2).2).2).2 = 12 then .decreasing else .unknown) := by
    unfold Sort.choosePivot
    simp only [← hl, ← hq]
    rw [if_pos (by omega), if_pos (by omega)]
  rw [hcp]
  clear hcp
  have H1 := hid (fun W (h1 : Holds (Value.int .u64) W g 0 d) (h2 : Ctr W w.heap.size 0) => madj_any W g c (a + q * 1) w.heap.size 0 d h1 h2 hgz ⟨by omega, by omega⟩ (by omega) hsz)
  have B1 := madj_bound d (a + q * 1) 0 ⟨by omega, by omega⟩
  generalize Sort.medianAdjacent ltInt d (a + q * 1) 0 = r1 at *
  obtain ⟨m1, k1⟩ := r1
  simp only [] at H1 B1 ⊢
  have H2 := hid (fun W (h1 : Holds (Value.int .u64) W g 0 d) (h2 : Ctr W w.heap.size k1) => madj_any W g c (a + q * 2) w.heap.size k1 d h1 h2 hgz ⟨by omega, by omega⟩ (by omega) hsz)
  have B2 := madj_bound d (a + q * 2) k1 ⟨by omega, by omega⟩
  generalize Sort.medianAdjacent ltInt d (a + q * 2) k1 = r2 at *
  obtain ⟨m2, k2⟩ := r2
  simp only [] at H2 B2 ⊢
  have H3 := hid (fun W (h1 : Holds (Value.int .u64) W g 0 d) (h2 : Ctr W w.heap.size k2) => madj_any W g c (a + q * 3) w.heap.size k2 d h1 h2 hgz ⟨by omega, by omega⟩ (by omega) hsz)
  have B3 := madj_bound d (a + q * 3) k2 ⟨by omega, by omega⟩
  generalize Sort.medianAdjacent ltInt d (a + q * 3) k2 = r3 at *
  obtain ⟨m3, k3⟩ := r3
  simp only [] at H3 B3 ⊢
  have H4 := hid (fun W (h1 : Holds (Value.int .u64) W g 0 d) (h2 : Ctr W w.heap.size k3) => med_any W g c m1 m2 m3 w.heap.size k3 d h1 h2 hgz (by omega) (by omega) (by omega) (by omega) hsz)
  have MB := (med_bound d m1 m2 m3 k3).2
  generalize Sort.median ltInt d m1 m2 m3 k3 = r at *
  obtain ⟨m, sw⟩ := r
  simp only [] at H4 MB ⊢
  have hsw : sw ≤ 100 := by omega
  obtain ⟨ht, hht⟩ : ∃ t, t = (if sw = 0 then Hint.increasing else if sw = 12 then Hint.decreasing else Hint.unknown) := ⟨_, rfl⟩
  rw [← hht]
  have HHT := hid hht
  clear hht
  rw [show ((a + q * 1 : Nat) : Int) = (a : Int) + (q : Int) by omega] at H1
  rw [show ((a + q * 2 : Nat) : Int) = (a : Int) + (q : Int) * 2 by omega] at H2
  rw [show ((a + q * 3 : Nat) : Int) = (a : Int) + (q : Int) * 3 by omega] at H3
  have HQ : Hid ((l : Int) / 4 = (q : Int)) := hid (by omega)
  have e1 : IntKind.i64.wrap ((b : Int) - (a : Int)) = (l : Int) := by rw [IntKind.wrap_i64]; omega
  have e3 : (8 : Int) ≤ (l : Int) := by omega
  have e4 : (50 : Int) ≤ (l : Int) := by omega
  have hq2 : q ≤ 25 := by omega
  have ha2 : a ≤ 100 := by omega
  have hl2 : l ≤ 100 := by omega
  obtain ⟨s, hs⟩ : ∃ s, s = d.size := ⟨_, rfl⟩
  rw [← hs] at H1 H2 H3 H4 ⊢
  have HB1 := hid hB0
  have HH1 := hid hH1
  have HC1 := hid hC1
  have HG := hid hgz
  have HW1 := hid hw1
  clear hB0 hH1 hC1 hgz hw1 hs hH hb hsz hge hl hq B1 B2 B3 MB hg
  go_enter Try.func46, Try.ntmps46
  go_wp2_with fail
  rw [HQ.out, HW1.out]
  refine (H1.out w1 HH1.out HC1.out).mono ?_
  rintro e w2 ⟨rfl, n, hw2⟩
  have HK2 := hid (ctr_keep HH1.out HC1.out HG.out hw2)
  have HB2 := hid (ctr_below HB1.out (Nat.le_refl _) hw2)
  clear hw2 H1 e1 e3 e4
  go_wp2_with fail
  refine (H2.out w2 HK2.out.1 HK2.out.2).mono ?_
  rintro e w3 ⟨rfl, n3, hw2⟩
  have HK3 := hid (ctr_keep HK2.out.1 HK2.out.2 HG.out hw2)
  have HB3 := hid (ctr_below HB2.out (Nat.le_refl _) hw2)
  clear hw2 H2
  go_wp2_with fail
  refine (H3.out w3 HK3.out.1 HK3.out.2).mono ?_
  rintro e w4 ⟨rfl, n4, hw2⟩
  have HK4 := hid (ctr_keep HK3.out.1 HK3.out.2 HG.out hw2)
  have HB4 := hid (ctr_below HB3.out (Nat.le_refl _) hw2)
  clear hw2 H3
  go_wp2_with fail
  refine (H4.out w4 HK4.out.1 HK4.out.2).mono ?_
  rintro e w5 ⟨rfl, n5, hw2⟩
  have hcell := (ctr_keep HK4.out.1 HK4.out.2 HG.out hw2).2.cell
  have HB5 := hid (ctr_below HB4.out (Nat.le_refl _) hw2)
  clear hw2 H4 HK2 HK3 HK4 HB1 HB2 HB3 HB4
  by_cases h0 : sw = 0
  · subst h0
    go_wp2_with fail
    go_ret2
    exact ⟨by rw [HHT.out]; rfl, HB5.out⟩
  · have h1 : ((sw : Int) == 0) = false := by simp; omega
    have h2 : ¬ (sw : Int) = 0 := by omega
    by_cases h12 : sw = 12
    · subst h12
      go_wp2_with fail
      go_ret2
      exact ⟨by rw [HHT.out]; rfl, HB5.out⟩
    · have h3 : ((sw : Int) == 12) = false := by simp; omega
      have h4 : ¬ (sw : Int) = 12 := by omega
      go_wp2_with fail
      go_ret2
      exact ⟨by rw [HHT.out, if_neg h0, if_neg h12]; rfl, HB5.out⟩
theorem piv_any (w : World) (g c a b : Nat) (d : Array Int) (hH : Holds (Value.int .u64) w g 0 d) (hg : g < w.heap.size) (hab : a + 12 < b) (hb : b ≤ d.size) (hsz : d.size ≤ 100) :
    Calls Try.prog 46 #[.slice (some ⟨g, 0, none⟩) d.size c, .int .i64 (a : Int), .int .i64 (b : Int)] w fun e w' =>
      e = .returned (.tuple #[.int .i64 ((Sort.choosePivot ltInt d a b).1 : Int), .int .i64 (hintN (Sort.choosePivot ltInt d a b).2)]) ∧ Below w.heap.size w w' := by
  by_cases h : b < a + 50
  · exact piv_few w g c a b d hH hg hab h hb hsz
  · exact piv_many w g c a b d hH hg (by omega) hb hsz
end Go.Proofs.Ytcmbijckhcckpaa
