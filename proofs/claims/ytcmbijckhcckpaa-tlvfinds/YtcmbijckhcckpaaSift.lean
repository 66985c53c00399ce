/- slices.siftDownOrdered of numbers. -/
import Derived.Test.YtcmbijckhcckpaaRev
namespace Go.Proofs.Ytcmbijckhcckpaa
open Go.RowKit Go.Sort

theorem sift_b {hi f r : Nat} {d : Array Int} (h2 : 2 * r + 1 + 1 < hi) (hyz : d[f + (2 * r + 1)]! < d[f + (2 * r + 1) + 1]!) (hx : d[f + r]! < d[f + (2 * r + 2)]!) : Sort.siftDown ltInt hi f r d = Sort.siftDown ltInt hi f (2 * r + 2) (swp d (f + r) (f + (2 * r + 2))) := by
  rw [Sort.siftDown, dif_neg (by omega), if_pos (by rw [decide_eq_true h2]; exact decide_eq_true hyz), if_neg (by unfold ltInt; rw [decide_eq_true hx]; decide), dif_pos (by omega)]
theorem sift_b0 {hi f r : Nat} {d : Array Int} (h2 : 2 * r + 1 + 1 < hi) (hyz : d[f + (2 * r + 1)]! < d[f + (2 * r + 1) + 1]!) (hx : ¬ d[f + r]! < d[f + (2 * r + 2)]!) : Sort.siftDown ltInt hi f r d = d := by
  rw [Sort.siftDown, dif_neg (by omega), if_pos (by rw [decide_eq_true h2]; exact decide_eq_true hyz), if_pos (by unfold ltInt; rw [decide_eq_false hx]; decide)]
theorem sift_c {hi f r : Nat} {d : Array Int} (h1 : 2 * r + 1 < hi) (h2 : ¬ (2 * r + 1 + 1 < hi ∧ d[f + (2 * r + 1)]! < d[f + (2 * r + 1) + 1]!)) : Sort.siftDown ltInt hi f r d = if (!ltInt d[f + r]! d[f + (2 * r + 1)]!) = true then d else Sort.siftDown ltInt hi f (2 * r + 1) (swp d (f + r) (f + (2 * r + 1))) := by
  rw [Sort.siftDown, dif_neg (by omega), if_neg]
  intro h
  rw [Bool.and_eq_true] at h
  exact h2 ⟨of_decide_eq_true h.1, of_decide_eq_true h.2⟩
theorem sift_a {hi f r : Nat} {d : Array Int} (h1 : 2 * r + 1 < hi) (h2 : ¬ (2 * r + 1 + 1 < hi ∧ d[f + (2 * r + 1)]! < d[f + (2 * r + 1) + 1]!)) (hx : d[f + r]! < d[f + (2 * r + 1)]!) : Sort.siftDown ltInt hi f r d = Sort.siftDown ltInt hi f (2 * r + 1) (swp d (f + r) (f + (2 * r + 1))) := by
  rw [sift_c h1 h2, if_neg (by unfold ltInt; rw [decide_eq_true hx]; decide)]
theorem sift_a0 {hi f r : Nat} {d : Array Int} (h1 : 2 * r + 1 < hi) (h2 : ¬ (2 * r + 1 + 1 < hi ∧ d[f + (2 * r + 1)]! < d[f + (2 * r + 1) + 1]!)) (hx : ¬ d[f + r]! < d[f + (2 * r + 1)]!) : Sort.siftDown ltInt hi f r d = d := by
  rw [sift_c h1 h2, if_pos (by unfold ltInt; rw [decide_eq_false hx]; decide)]
set_option maxRecDepth 100000 in
set_option maxHeartbeats 4000000 in
theorem sift_any (w : World) (g c lo hi f : Nat) (d : Array Int) (hH : Holds (Value.int .u64) w g 0 d) (hf : f + hi ≤ d.size) (hlo : lo ≤ hi) (hsz : d.size ≤ 100) :
    Calls Try.prog 54 #[.slice (some ⟨g, 0, none⟩) d.size c, .int .i64 (lo : Int), .int .i64 (hi : Int), .int .i64 (f : Int)] w fun e w' => e = .returned (.tuple #[]) ∧ ∃ n, w' = putRow (Value.int .u64) (Sort.ahead w n) g 0 (Sort.siftDown ltInt hi f lo d) := by
  have HH := hid hH
  obtain ⟨s, hs⟩ : ∃ s, s = d.size := ⟨_, rfl⟩
  rw [← hs] at hf hsz
  rw [← hs]
  have HS := hid hs
  clear hH hs
  go_enter Try.func54, Try.ntmps54
  go_wp2_with fail
  go_loopg [8, 9] (hi - lo) (fun gg v8 v9 wr => ∃ (r n : Nat) (dk : Array Int), v8 = .int .i64 (r : Int) ∧ gg = hi - r ∧ r ≤ hi ∧ dk.size = s ∧ wr = putRow (Value.int .u64) (Sort.ahead w n) g 0 dk ∧ Sort.siftDown ltInt hi f r dk = Sort.siftDown ltInt hi f lo d)
  case atStart => exact ⟨lo, 0, d, rfl, rfl, by omega, HS.out.symm, (putRow_self _ _ _ _ _ HH.out).symm, rfl⟩
  case round =>
    obtain ⟨r, n, dk, rfl, rfl, hrh, hsk, hw2, hO⟩ := hrel
    have HO := hid hO
    have HW := hid hw2
    have HSK := hid hsk
    have HCELL : Hid (∀ t, t < s → wr.cell? ⟨g, t, none⟩ = some (.int .u64 dk[t]!) ∧ wr.frozen? ⟨g, t, none⟩ = false) := hid (fun t ht => by
      rw [hw2]
      have := holds_putRow (Value.int .u64) (Sort.ahead w n) g 0 d dk (holds_ahead _ _ _ _ _ _ HH.out) (by rw [hsk, HS.out]) t (by omega)
      simpa using this)
    clear hO hw2 hsk
    by_cases hch : 2 * r + 1 < hi
    · have hch1 : ¬ (hi : Int) ≤ 2 * (r : Int) + 1 := by omega
      obtain ⟨hcx, hfx⟩ := HCELL.out (f + r) (by omega)
      obtain ⟨hcy, hfy⟩ := HCELL.out (f + (2 * r + 1)) (by omega)
      obtain ⟨x, hx⟩ : ∃ x, x = dk[f + r]! := ⟨_, rfl⟩
      obtain ⟨y, hy⟩ : ∃ y, y = dk[f + (2 * r + 1)]! := ⟨_, rfl⟩
      rw [← hx] at hcx
      rw [← hy] at hcy
      have HX := hid hx
      have HY := hid hy
      clear hx hy
      by_cases hc2 : 2 * r + 1 + 1 < hi
      · have hc3 : 2 * (r : Int) + 1 + 1 < (hi : Int) := by omega
        obtain ⟨hcz, hfz⟩ := HCELL.out (f + (2 * r + 1) + 1) (by omega)
        obtain ⟨z, hz⟩ : ∃ z, z = dk[f + (2 * r + 1) + 1]! := ⟨_, rfl⟩
        rw [← hz] at hcz
        have hcz2 : wr.cell? ⟨g, f + (2 * r + 1 + 1), none⟩ = some (.int .u64 z) := hcz
        have hfz2 : wr.frozen? ⟨g, f + (2 * r + 1 + 1), none⟩ = false := hfz
        have HZ := hid hz
        clear hz
        have HLS := hid (fun W => less_int y z W)
        by_cases hyz : y < z
        · rw [decide_eq_true hyz] at HLS
          go_wp2_with fail
          go_quiet (first | (go_at_call 41; refine Calls.quiet_of_same (HLS.out _)))
          go_wp2_with fail
          obtain ⟨nq0, hnq0⟩ : ∃ k, k = nq := ⟨_, rfl⟩
          rw [← hnq0]
          clear hnq0
          obtain ⟨w9, hw9⟩ : ∃ w9, w9 = wr.drewN nq0 := ⟨_, rfl⟩
          rw [← hw9]
          have hcx9 : w9.cell? ⟨g, f + r, none⟩ = some (.int .u64 x) := by rw [hw9]; exact hcx
          have hfx9 : w9.frozen? ⟨g, f + r, none⟩ = false := by rw [hw9]; exact hfx
          have hcc9 : w9.cell? ⟨g, f + (2 * r + 1 + 1), none⟩ = some (.int .u64 z) := by rw [hw9]; exact hcz2
          have hfc9 : w9.frozen? ⟨g, f + (2 * r + 1 + 1), none⟩ = false := by rw [hw9]; exact hfz2
          have HW9 : Hid (w9 = putRow (Value.int .u64) (Sort.ahead w (n + nq0)) g 0 dk) := hid (by rw [hw9, HW.out]; exact putRow_drewN _ _ _ _ _ _ _)
          clear hw9
          have HLX := hid (fun W => less_int x z W)
          by_cases hxc : x < z
          · rw [decide_eq_true hxc] at HLX
            go_quiet (first | (go_at_call 41; refine Calls.quiet_of_same (HLX.out _)))
            go_wp2_with fail
            go_region
            all_goals go_wp2
            have HST := hid (sift_b (d := dk) (f := f) hc2 (by rw [← HY.out, ← HZ.out]; omega) (by rw [← HX.out]; show x < dk[f + (2 * r + 1) + 1]!; rw [← HZ.out]; omega))
            have HSW := hid (swap_worldA (Value.int .u64) w (n + nq0) (nq + 1) g 0 dk (f + r) (f + (2 * r + 1 + 1)) (by rw [HSK.out]; omega) (by rw [HSK.out]; omega))
            rw [← HW9.out, ← HX.out, show dk[f + (2 * r + 1 + 1)]! = z from HZ.out.symm, Nat.zero_add, Nat.zero_add] at HSW
            go_roundg (hi - (2 * r + 1 + 1))
            case measure => omega
            case rel => exact ⟨2 * r + 1 + 1, n + nq0 + (nq + 1), swp dk (f + r) (f + (2 * r + 1 + 1)), by congr 1, rfl, by omega, by rw [size_swp]; exact HSK.out, HSW.out, by rw [← HO.out, HST.out]⟩
          · rw [decide_eq_false hxc] at HLX
            go_quiet (first | (go_at_call 41; refine Calls.quiet_of_same (HLX.out _)))
            go_wp2_with fail
            have HST := hid (sift_b0 (d := dk) (f := f) hc2 (by rw [← HY.out, ← HZ.out]; omega) (by rw [← HX.out]; show ¬ x < dk[f + (2 * r + 1) + 1]!; rw [← HZ.out]; omega))
            refine bodyPost_ret (results_none rfl _ _ _) rfl ?_
            exact ⟨rfl, n + nq0 + nq, by rw [HW9.out, ← HO.out, HST.out]; exact putRow_drewN _ _ _ _ _ _ _⟩
        · rw [decide_eq_false hyz] at HLS
          go_wp2_with fail
          go_quiet (first | (go_at_call 41; refine Calls.quiet_of_same (HLS.out _)))
          go_wp2_with fail
          obtain ⟨nq0, hnq0⟩ : ∃ k, k = nq := ⟨_, rfl⟩
          rw [← hnq0]
          clear hnq0
          obtain ⟨w9, hw9⟩ : ∃ w9, w9 = wr.drewN nq0 := ⟨_, rfl⟩
          rw [← hw9]
          have hcx9 : w9.cell? ⟨g, f + r, none⟩ = some (.int .u64 x) := by rw [hw9]; exact hcx
          have hfx9 : w9.frozen? ⟨g, f + r, none⟩ = false := by rw [hw9]; exact hfx
          have hcc9 : w9.cell? ⟨g, f + (2 * r + 1), none⟩ = some (.int .u64 y) := by rw [hw9]; exact hcy
          have hfc9 : w9.frozen? ⟨g, f + (2 * r + 1), none⟩ = false := by rw [hw9]; exact hfy
          have HW9 : Hid (w9 = putRow (Value.int .u64) (Sort.ahead w (n + nq0)) g 0 dk) := hid (by rw [hw9, HW.out]; exact putRow_drewN _ _ _ _ _ _ _)
          clear hw9
          have HLX := hid (fun W => less_int x y W)
          by_cases hxc : x < y
          · rw [decide_eq_true hxc] at HLX
            go_quiet (first | (go_at_call 41; refine Calls.quiet_of_same (HLX.out _)))
            go_wp2_with fail
            go_region
            all_goals go_wp2
            have HST := hid (sift_a (d := dk) (f := f) hch (by rw [← HY.out, ← HZ.out]; omega) (by rw [← HX.out, ← HY.out]; omega))
            have HSW := hid (swap_worldA (Value.int .u64) w (n + nq0) (nq + 1) g 0 dk (f + r) (f + (2 * r + 1)) (by rw [HSK.out]; omega) (by rw [HSK.out]; omega))
            rw [← HW9.out, ← HX.out, ← HY.out, Nat.zero_add, Nat.zero_add] at HSW
            go_roundg (hi - (2 * r + 1))
            case measure => omega
            case rel => exact ⟨2 * r + 1, n + nq0 + (nq + 1), swp dk (f + r) (f + (2 * r + 1)), by congr 1, rfl, by omega, by rw [size_swp]; exact HSK.out, HSW.out, by rw [← HO.out, HST.out]⟩
          · rw [decide_eq_false hxc] at HLX
            go_quiet (first | (go_at_call 41; refine Calls.quiet_of_same (HLX.out _)))
            go_wp2_with fail
            have HST := hid (sift_a0 (d := dk) (f := f) hch (by rw [← HY.out, ← HZ.out]; omega) (by rw [← HX.out, ← HY.out]; omega))
            refine bodyPost_ret (results_none rfl _ _ _) rfl ?_
            exact ⟨rfl, n + nq0 + nq, by rw [HW9.out, ← HO.out, HST.out]; exact putRow_drewN _ _ _ _ _ _ _⟩
      · have hc3 : ¬ 2 * (r : Int) + 1 + 1 < (hi : Int) := by omega
        have hw3 : IntKind.i64.wrap (2 * (r : Int) + 1 + 1) = 2 * (r : Int) + 1 + 1 := by rw [IntKind.wrap_i64]; omega
        have hd3 : decide (2 * (r : Int) + 1 + 1 < (hi : Int)) = false := by simpa using hc3
        go_wp2_with fail
        go_quiet (fail)
        go_wp2_with fail
        obtain ⟨nq0, hnq0⟩ : ∃ k, k = nq := ⟨_, rfl⟩
        rw [← hnq0]
        clear hnq0
        obtain ⟨w9, hw9⟩ : ∃ w9, w9 = wr.drewN nq0 := ⟨_, rfl⟩
        rw [← hw9]
        have hcx9 : w9.cell? ⟨g, f + r, none⟩ = some (.int .u64 x) := by rw [hw9]; exact hcx
        have hfx9 : w9.frozen? ⟨g, f + r, none⟩ = false := by rw [hw9]; exact hfx
        have hcc9 : w9.cell? ⟨g, f + (2 * r + 1), none⟩ = some (.int .u64 y) := by rw [hw9]; exact hcy
        have hfc9 : w9.frozen? ⟨g, f + (2 * r + 1), none⟩ = false := by rw [hw9]; exact hfy
        have HW9 : Hid (w9 = putRow (Value.int .u64) (Sort.ahead w (n + nq0)) g 0 dk) := hid (by rw [hw9, HW.out]; exact putRow_drewN _ _ _ _ _ _ _)
        clear hw9
        have HLX := hid (fun W => less_int x y W)
        by_cases hxc : x < y
        · rw [decide_eq_true hxc] at HLX
          go_quiet (first | (go_at_call 41; refine Calls.quiet_of_same (HLX.out _)))
          go_wp2_with fail
          go_region
          all_goals go_wp2
          have HST := hid (sift_a (d := dk) (f := f) hch (by omega) (by rw [← HX.out, ← HY.out]; omega))
          have HSW := hid (swap_worldA (Value.int .u64) w (n + nq0) (nq + 1) g 0 dk (f + r) (f + (2 * r + 1)) (by rw [HSK.out]; omega) (by rw [HSK.out]; omega))
          rw [← HW9.out, ← HX.out, ← HY.out, Nat.zero_add, Nat.zero_add] at HSW
          go_roundg (hi - (2 * r + 1))
          case measure => omega
          case rel => exact ⟨2 * r + 1, n + nq0 + (nq + 1), swp dk (f + r) (f + (2 * r + 1)), by congr 1, rfl, by omega, by rw [size_swp]; exact HSK.out, HSW.out, by rw [← HO.out, HST.out]⟩
        · rw [decide_eq_false hxc] at HLX
          go_quiet (first | (go_at_call 41; refine Calls.quiet_of_same (HLX.out _)))
          go_wp2_with fail
          have HST := hid (sift_a0 (d := dk) (f := f) hch (by omega) (by rw [← HX.out, ← HY.out]; omega))
          refine bodyPost_ret (results_none rfl _ _ _) rfl ?_
          exact ⟨rfl, n + nq0 + nq, by rw [HW9.out, ← HO.out, HST.out]; exact putRow_drewN _ _ _ _ _ _ _⟩
    · have hch1 : (hi : Int) ≤ 2 * (r : Int) + 1 := by omega
      go_wp2_with fail
      refine bodyPost_end (results_none rfl _ _ _) rfl ?_
      exact ⟨rfl, n, by rw [HW.out, ← HO.out, Sort.siftDown, dif_pos (by omega)]⟩
end Go.Proofs.Ytcmbijckhcckpaa
