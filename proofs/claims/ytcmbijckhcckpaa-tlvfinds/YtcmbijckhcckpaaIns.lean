/- slices.insertionSortOrdered of numbers. -/
import Derived.Test.YtcmbijckhcckpaaUnkB
import Derived.Sort.WalkA
namespace Go.Proofs.Ytcmbijckhcckpaa
open Go.RowKit Go.Sort

set_option maxHeartbeats 400000 in
set_option maxRecDepth 100000 in
theorem less_int (x y : Int) (w : World) : Calls Try.prog 41 #[.int .u64 x, .int .u64 y] w fun e w' => e = .returned (.bool (decide (x < y))) ∧ w' = w := by
  by_cases h : x < y
  · rw [decide_eq_true h]
    go_enter Try.func41, Try.ntmps41
    go_wp2
    go_ret
    exact ⟨rfl, rfl⟩
  · rw [decide_eq_false h]
    go_enter Try.func41, Try.ntmps41
    go_wp2
    go_ret
    exact ⟨rfl, rfl⟩
set_option maxRecDepth 100000 in
set_option maxHeartbeats 4000000 in
theorem ins_any (w : World) (g c a b : Nat) (d : Array Int) (hH : Holds (Value.int .u64) w g 0 d) (hab : a ≤ b) (hb : b ≤ d.size) (hsz : d.size ≤ 100) :
    Calls Try.prog 43 #[.slice (some ⟨g, 0, none⟩) d.size c, .int .i64 (a : Int), .int .i64 (b : Int)] w fun e w' => e = .returned (.tuple #[]) ∧ ∃ n, w' = putRow (Value.int .u64) (Sort.ahead w n) g 0 (Sort.insertionSort ltInt d a b) := by
  have HH := hid hH
  obtain ⟨s, hs⟩ : ∃ s, s = d.size := ⟨_, rfl⟩
  rw [← hs] at hb hsz
  rw [← hs]
  have HS := hid hs
  clear hH hs
  go_enter Try.func43, Try.ntmps43
  go_wp2_with fail
  go_loopg [6, 7] (b - a) (fun gg v6 v7 wr => ∃ (i n : Nat) (dk : Array Int), v6 = .int .i64 (i : Int) ∧ gg = b + 1 - i ∧ a < i ∧ i ≤ b + 1 ∧ dk.size = s ∧ wr = putRow (Value.int .u64) (Sort.ahead w n) g 0 dk ∧ insOuter ltInt a b i dk = Sort.insertionSort ltInt d a b)
  case atStart => exact ⟨a + 1, 0, d, by go_num, by omega, by omega, by omega, HS.out.symm, (putRow_self _ _ _ _ _ HH.out).symm, rfl⟩
  case round =>
    obtain ⟨i, n, dk, rfl, rfl, hai, hib, hsk, hwr, hO⟩ := hrel
    have HO := hid hO
    have HW0 := hid hwr
    have HSK := hid hsk
    clear hO hwr hsk
    by_cases hil : i < b
    · have hi1 : (i : Int) < (b : Int) := by omega
      obtain ⟨w1, rfl⟩ : ∃ w1, w1 = wr := ⟨_, rfl⟩
      go_wp2_with fail
      go_loopg [7] i (fun gg v7 wr => ∃ (j m : Nat) (dj : Array Int), v7 = .int .i64 (j : Int) ∧ j = gg ∧ a ≤ j ∧ j ≤ i ∧ dj.size = s ∧ wr = putRow (Value.int .u64) (Sort.ahead w m) g 0 dj ∧ insInner ltInt a j dj = insInner ltInt a i dk)
      case atStart => exact ⟨i, n, dk, rfl, rfl, by omega, by omega, HSK.out, HW0.out, rfl⟩
      case round =>
        obtain ⟨j, m, dj, rfl, rfl, haj, hji, hsj, hw2, hI⟩ := hrel
        have HI := hid hI
        have HW := hid hw2
        have HSJ := hid hsj
        have HCELL : Hid (∀ t, t < s → wr.cell? ⟨g, t, none⟩ = some (.int .u64 dj[t]!) ∧ wr.frozen? ⟨g, t, none⟩ = false) := hid (fun t ht => by
          rw [hw2]
          have := holds_putRow (Value.int .u64) (Sort.ahead w m) g 0 d dj (holds_ahead _ _ _ _ _ _ HH.out) (by rw [hsj, HS.out]) t (by omega)
          simpa using this)
        have HOUT : Hid ((j ≤ a ∨ ltInt dj[j]! dj[j - 1]! = false) → ∀ q, wr.drewN q = putRow (Value.int .u64) (Sort.ahead w (m + q)) g 0 dj ∧ insOuter ltInt a b (i + 1) dj = Sort.insertionSort ltInt d a b) := hid (fun hst q =>
          ⟨by rw [hw2]; exact putRow_drewN _ _ _ _ _ _ _, by rw [← HO.out, insOuter_go _ _ _ _ _ hil, ← hI, insInner_stop _ _ _ _ hst]⟩)
        clear hI hw2 hsj
        by_cases hja : a < j
        · have hj1 : (a : Int) < (j : Int) := by omega
          obtain ⟨k, rfl⟩ : ∃ k, j = k + 1 := ⟨j - 1, by omega⟩
          obtain ⟨hc1, hf1⟩ := HCELL.out (k + 1) (by omega)
          obtain ⟨hc2, hf2⟩ := HCELL.out k (by omega)
          have hk1 : IntKind.i64.wrap (((k + 1 : Nat) : Int) - 1) = (k : Int) := by rw [IntKind.wrap_i64]; omega
          have hd : decide ((a : Int) < (k : Int) + 1) = true := by simp; omega
          have hj2 : (a : Int) < (k : Int) + 1 := by omega
          simp only [Nat.add_sub_cancel] at HOUT
          obtain ⟨x, hx⟩ : ∃ x, x = dj[k + 1]! := ⟨_, rfl⟩
          obtain ⟨y, hy⟩ : ∃ y, y = dj[k]! := ⟨_, rfl⟩
          rw [← hx] at hc1 HOUT
          rw [← hy] at hc2 HOUT
          have HX := hid hx
          have HY := hid hy
          clear hx hy
          by_cases hxy : x < y
          · have HLS := hid (fun W => less_int x y W)
            rw [decide_eq_true hxy] at HLS
            go_wp2_with fail
            go_quiet (first | (go_at_call 41; refine Calls.quiet_of_same (HLS.out _)))
            go_wp2_with fail
            go_region
            all_goals go_wp2
            have HSW := hid (swap_worldA (Value.int .u64) w m (nq + 1) g 0 dj (k + 1) k (by rw [HSJ.out]; omega) (by rw [HSJ.out]; omega))
            rw [← HW.out, ← HX.out, ← HY.out, Nat.zero_add, Nat.zero_add] at HSW
            have HIN := hid (insInner_go ltInt a (k + 1) dj (by omega) (by rw [Nat.add_sub_cancel, ← HX.out, ← HY.out]; unfold ltInt; exact decide_eq_true (by omega)))
            go_roundg k
            case measure => omega
            case rel => exact ⟨k, m + (nq + 1), swp dj (k + 1) k, rfl, rfl, by omega, by omega, by rw [size_swp]; exact HSJ.out, HSW.out, by rw [← HI.out, HIN.out]; rfl⟩
          · have HLS := hid (fun W => less_int x y W)
            rw [decide_eq_false hxy] at HLS
            go_wp2_with fail
            go_quiet (first | (go_at_call 41; refine Calls.quiet_of_same (HLS.out _)))
            go_wp2_with fail
            have HO2 := hid (HOUT.out (Or.inr (by unfold ltInt; exact decide_eq_false (by omega))) nq)
            go_roundg (b + 1 - (i + 1))
            case measure => omega
            case rel => exact ⟨i + 1, m + nq, dj, by go_num, rfl, by omega, by omega, HSJ.out, HO2.out.1, HO2.out.2⟩
        · have hj1 : ¬ (a : Int) < (j : Int) := by omega
          go_wp2_with fail
          go_quiet (fail)
          go_wp2_with fail
          have HO2 := hid (HOUT.out (Or.inl (by omega)) nq)
          go_roundg (b + 1 - (i + 1))
          case measure => omega
          case rel => exact ⟨i + 1, m + nq, dj, by go_num, rfl, by omega, by omega, HSJ.out, HO2.out.1, HO2.out.2⟩
    · have hi1 : ¬ (i : Int) < (b : Int) := by omega
      go_wp2_with fail
      refine bodyPost_end (results_none rfl _ _ _) rfl ?_
      exact ⟨rfl, n, by rw [HW0.out, ← HO.out, insOuter_stop _ _ _ _ _ hil]⟩
end Go.Proofs.Ytcmbijckhcckpaa
