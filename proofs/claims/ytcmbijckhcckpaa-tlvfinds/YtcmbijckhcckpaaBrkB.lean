/- slices.breakPatternsOrdered of numbers. -/
import Derived.Test.YtcmbijckhcckpaaAtU
import Derived.Test.YtcmbijckhcckpaaPis
namespace Go.Proofs.Ytcmbijckhcckpaa
open Go.RowKit Go.Sort

theorem seed_new (w : World) (v : Value) (t : TypeId) : (w.alloc (.cells #[v] t)).cell? ⟨w.heap.size, 0, none⟩ = some v ∧ (w.alloc (.cells #[v] t)).frozen? ⟨w.heap.size, 0, none⟩ = false := by
  have h := heap_alloc_new w (.cells #[v] t)
  refine ⟨?_, ?_⟩
  · rw [cell_of_heap h]; rfl
  · exact frozen_of_heap h 0
theorem seed_again {w w1 : World} {z n : Nat} {u v : Value} (hc : w.cell? ⟨z, 0, none⟩ = some u) (hf : w.frozen? ⟨z, 0, none⟩ = false) (hw : w1 = (Sort.ahead w n).setCell ⟨z, 0, none⟩ v) : w1.cell? ⟨z, 0, none⟩ = some v ∧ w1.frozen? ⟨z, 0, none⟩ = false := by
  subst hw
  obtain ⟨c, e, fr, hb, h0⟩ := cells_of_cell? hc
  have hl : 0 < c.size := by
    apply Classical.byContradiction
    intro h
    rw [Array.getElem?_eq_none (by omega)] at h0
    cases h0
  have e1 : ((Sort.ahead w n).setCell ⟨z, 0, none⟩ v).heap[z]? = some (.cells (c.setIfInBounds 0 v) e fr) := by
    show (w.heap.modify z _)[z]? = _
    rw [Array.getElem?_modify, if_pos rfl, hb]
    rfl
  refine ⟨?_, ?_⟩
  · unfold World.cell?
    rw [e1]
    simp [hl]
  · unfold World.frozen? at hf ⊢
    rw [hb] at hf
    rw [e1]
    simpa using hf
set_option maxRecDepth 100000 in
set_option maxHeartbeats 8000000 in
theorem brk_any (w : World) (g c a b : Nat) (d : Array Int) (hH : Holds (Value.int .u64) w g 0 d) (hg : g < w.heap.size) (hab : a + 12 < b) (hb : b ≤ d.size) (hsz : d.size ≤ 100) :
    Calls Try.prog 45 #[.slice (some ⟨g, 0, none⟩) d.size c, .int .i64 (a : Int), .int .i64 (b : Int)] w fun e w' =>
      e = .returned (.tuple #[]) ∧ ∃ d', PermIn a b d d' ∧ AtU w g d' w' := by
  obtain ⟨L, hL⟩ : ∃ l, l = b - a := ⟨_, rfl⟩
  obtain ⟨q, hq⟩ : ∃ q, q = L / 4 := ⟨_, rfl⟩
  obtain ⟨M, hM⟩ : ∃ m, m = 2 ^ bitsLen L := ⟨_, rfl⟩
  have hM1 : L < M := by rw [hM]; exact lt_two_pow_bitsLen L
  have hM2 : M ≤ 2 * L := by rw [hM]; exact two_pow_bitsLen_le (by omega)
  have HP := hid (fun W => pow_any L (by omega) W)
  rw [← hM] at HP
  have HA := hid (fun r => and_le r (M - 1) (by omega))
  rw [show (((M - 1 : Nat)) : Int) = (M : Int) - 1 by omega] at HA
  clear hM
  have e1 : (L : Int).tdiv 4 = (q : Int) := by rw [hq]; rfl
  have e2 : (b : Int) - (a : Int) = (L : Int) := by omega
  obtain ⟨I, hI⟩ : ∃ i, i = a + q * 2 - 1 := ⟨_, rfl⟩
  have hI2 : a + 5 ≤ I ∧ I + 5 < b := by omega
  have HIq : Hid (I + 1 = a + q * 2) := hid (by omega)
  have hL1 : a + L ≤ b ∧ b ≤ a + L := by omega
  have hq1 : q * 4 ≤ L ∧ L ≤ q * 4 + 3 := by omega
  have hI1 : I + 1 ≤ a + q * 2 ∧ a + q * 2 ≤ I + 1 := by omega
  have h8 : (8 : Int) ≤ (L : Int) := by omega
  have hiw : IntKind.i64.wrap ((a : Int) + (q : Int) * 2 - 1) = (I : Int) := by rw [IntKind.wrap_i64]; omega
  clear hL hq hI
  have HH := hid hH
  have HAT : Hid (AtU w g d (w.alloc (.cells #[.int .u64 (L : Int)] 85))) := hid ((AtU.self hH).other hg ((Go.RowKit.Below.refl _ _).alloc (Nat.le_refl _) _))
  obtain ⟨hc0, hf0⟩ := seed_new w (.int .u64 (L : Int)) 85
  obtain ⟨s, hs⟩ : ∃ s, s = d.size := ⟨_, rfl⟩
  rw [← hs] at hb hsz
  rw [← hs]
  have HS := hid hs
  clear hH hs
  go_enter Try.func45, Try.ntmps45
  go_wp2_with (first | (go_at_call 55; (try rw [e2]); refine (HP.out _).mono ?_; rintro e w' ⟨rfl, rfl⟩))
  go_loopg [9, 10] 3 (fun gg v9 _v10 wr => ∃ (t k : Nat) (r : Int) (dk : Array Int), k = gg ∧ v9 = .int .i64 ((I + t : Nat) : Int) ∧ t + k = 3 ∧ PermIn a b d dk ∧ AtU w g dk wr ∧ wr.cell? ⟨w.heap.size, 0, none⟩ = some (.int .u64 r) ∧ wr.frozen? ⟨w.heap.size, 0, none⟩ = false)
  case atStart => exact ⟨0, 3, L, d, rfl, by go_num, rfl, permIn_refl _ _ _, HAT.out, hc0, hf0⟩
  case round =>
    clear HAT hc0 hf0
    obtain ⟨t, k, r, dk, rfl, rfl, htk, hpm, hat, hc, hf⟩ := hrel
    have HPM := hid hpm
    have HAT := hid hat
    have HN := hid (xor_any w.heap.size r wr hc hf)
    have HC := hid hc
    have HF := hid hf
    clear hpm hat hc hf
    by_cases ht : t ≤ 2
    · have ht1 : (I : Int) + (t : Int) ≤ (a : Int) + (q : Int) * 2 + 1 := by omega
      have ht2 : ((I + t : Nat) : Int) ≤ (a : Int) + (q : Int) * 2 + 1 := by omega
      obtain ⟨k2, rfl⟩ : ∃ k2, k = k2 + 1 := ⟨k - 1, by omega⟩
      go_upto_if 43 with (first | (go_at_call 56; refine HN.out.mono ?_; rintro e w1 ⟨r', rfl, n, hw1⟩; obtain ⟨O, hO, eAnd⟩ := HA.out r'; have HW1 := hid hw1; clear hw1))
      have HAT1 : Hid (AtU w g dk w1) := hid (HAT.out.set hg (Nat.le_refl _) HW1.out)
      have HZ := hid (seed_again HC.out HF.out HW1.out)
      by_cases hLO : L ≤ O
      · obtain ⟨o, rfl⟩ : ∃ o, O = o + L := ⟨O - L, by omega⟩
        have hLO1 : (L : Int) ≤ (o : Int) + (L : Int) := by omega
        have hLO2 : (L : Int) ≤ ((o + L : Nat) : Int) := by omega
        have hLO3 : IntKind.i64.wrap (((o + L : Nat) : Int) - (L : Int)) = (o : Int) := by rw [IntKind.wrap_i64]; omega
        have hoL : o < L := by omega
        have HSE : Hid (dk.size = s) := hid (by rw [HPM.out.1]; exact HS.out.symm)
        obtain ⟨hc1, hf1⟩ := HAT1.out.holds (I + t) (by rw [HSE.out]; omega)
        obtain ⟨hc2, hf2⟩ := HAT1.out.holds (a + o) (by rw [HSE.out]; omega)
        rw [Nat.zero_add] at hc1 hf1 hc2 hf2
        obtain ⟨hc3, hf3⟩ := half_swap (w := w1) (wr := w1) (n := 0) (d := dk) (dk := dk) (a := I + t) (j := a + o) HAT1.out.holds rfl (putRow_self _ _ _ _ _ HAT1.out.holds).symm (by rw [HSE.out]; omega) (by rw [HSE.out]; omega) rfl
        have HSW : Hid (((w1.setCell ⟨g, I + t, none⟩ (.int .u64 dk[a + o]!)).setCell ⟨g, a + o, none⟩ (.int .u64 dk[I + t]!)).drew = putRow (Value.int .u64) (Sort.ahead w1 1) g 0 (Sort.swp dk (I + t) (a + o))) := hid (by
          have h := putRow_swp (Value.int .u64) w1 g 0 dk (I + t) (a + o) (by rw [HSE.out]; omega) (by rw [HSE.out]; omega)
          rw [putRow_self _ _ _ _ _ HAT1.out.holds, Nat.zero_add, Nat.zero_add] at h
          rw [h]
          rfl)
        generalize dk[I + t]! = x at hc1 HSW
        generalize dk[a + o]! = y at hc2 hc3 hf3 HSW
        have hps : (I : Int) + (t : Int) < (s : Int) := by omega
        have hap : (a : Int) + (o : Int) < (s : Int) := by omega
        go_wp2_with fail
        go_region
        all_goals go_wp2_with fail
        go_roundg k2
        case measure => omega
        case rel =>
          refine ⟨t + 1, k2, r', Sort.swp dk (I + t) (a + o), rfl, by go_num, by omega, permIn_trans _ _ _ _ _ HPM.out (swp_permIn dk a b (I + t) (a + o) (by omega) (by omega) (by omega) (by omega) (by rw [HSE.out]; exact hb)), HAT1.out.put (size_swp _ _ _) HSW.out, ?_, ?_⟩
          · rw [HSW.out, cell?_putRow_other _ _ _ _ _ _ (Or.inl (by show w.heap.size ≠ g; omega))]
            exact HZ.out.1
          · rw [HSW.out, frozen?_putRow]
            exact HZ.out.2
      · obtain ⟨o, rfl⟩ : ∃ o, o = O := ⟨_, rfl⟩
        have hLO1 : ¬ (L : Int) ≤ (o : Int) := by omega
        have hoL : o < L := by omega
        have HSE : Hid (dk.size = s) := hid (by rw [HPM.out.1]; exact HS.out.symm)
        obtain ⟨hc1, hf1⟩ := HAT1.out.holds (I + t) (by rw [HSE.out]; omega)
        obtain ⟨hc2, hf2⟩ := HAT1.out.holds (a + o) (by rw [HSE.out]; omega)
        rw [Nat.zero_add] at hc1 hf1 hc2 hf2
        obtain ⟨hc3, hf3⟩ := half_swap (w := w1) (wr := w1) (n := 0) (d := dk) (dk := dk) (a := I + t) (j := a + o) HAT1.out.holds rfl (putRow_self _ _ _ _ _ HAT1.out.holds).symm (by rw [HSE.out]; omega) (by rw [HSE.out]; omega) rfl
        have HSW : Hid (((w1.setCell ⟨g, I + t, none⟩ (.int .u64 dk[a + o]!)).setCell ⟨g, a + o, none⟩ (.int .u64 dk[I + t]!)).drew = putRow (Value.int .u64) (Sort.ahead w1 1) g 0 (Sort.swp dk (I + t) (a + o))) := hid (by
          have h := putRow_swp (Value.int .u64) w1 g 0 dk (I + t) (a + o) (by rw [HSE.out]; omega) (by rw [HSE.out]; omega)
          rw [putRow_self _ _ _ _ _ HAT1.out.holds, Nat.zero_add, Nat.zero_add] at h
          rw [h]
          rfl)
        generalize dk[I + t]! = x at hc1 HSW
        generalize dk[a + o]! = y at hc2 hc3 hf3 HSW
        have hps : (I : Int) + (t : Int) < (s : Int) := by omega
        have hap : (a : Int) + (o : Int) < (s : Int) := by omega
        go_wp2_with fail
        go_region
        all_goals go_wp2_with fail
        go_roundg k2
        case measure => omega
        case rel =>
          refine ⟨t + 1, k2, r', Sort.swp dk (I + t) (a + o), rfl, by go_num, by omega, permIn_trans _ _ _ _ _ HPM.out (swp_permIn dk a b (I + t) (a + o) (by omega) (by omega) (by omega) (by omega) (by rw [HSE.out]; exact hb)), HAT1.out.put (size_swp _ _ _) HSW.out, ?_, ?_⟩
          · rw [HSW.out, cell?_putRow_other _ _ _ _ _ _ (Or.inl (by show w.heap.size ≠ g; omega))]
            exact HZ.out.1
          · rw [HSW.out, frozen?_putRow]
            exact HZ.out.2
    · have ht1 : ¬ (I : Int) + (t : Int) ≤ (a : Int) + (q : Int) * 2 + 1 := by omega
      have ht2 : ¬ ((I + t : Nat) : Int) ≤ (a : Int) + (q : Int) * 2 + 1 := by omega
      go_wp2_with fail
      refine bodyPost_end (results_none rfl _ _ _) rfl ?_
      exact ⟨rfl, dk, HPM.out, HAT.out⟩
end Go.Proofs.Ytcmbijckhcckpaa
