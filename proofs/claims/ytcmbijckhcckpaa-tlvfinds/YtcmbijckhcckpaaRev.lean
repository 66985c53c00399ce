/- slices.reverseRangeOrdered of numbers. -/
import Derived.Test.YtcmbijckhcckpaaIns
namespace Go.Proofs.Ytcmbijckhcckpaa
open Go.RowKit Go.Sort

theorem reverseLoop_go (i j : Nat) (d : Array Int) (h : i < j) : reverseLoop i j d = reverseLoop (i + 1) (j - 1) (swp d i j) := by rw [reverseLoop, if_pos h]
theorem reverseLoop_stop (i j : Nat) (d : Array Int) (h : ¬ i < j) : reverseLoop i j d = d := by rw [reverseLoop, if_neg h]
set_option maxRecDepth 100000 in
set_option maxHeartbeats 4000000 in
theorem rev_any (w : World) (g c a b : Nat) (d : Array Int) (hH : Holds (Value.int .u64) w g 0 d) (hab : a < b) (hb : b ≤ d.size) (hsz : d.size ≤ 100) :
    Calls Try.prog 47 #[.slice (some ⟨g, 0, none⟩) d.size c, .int .i64 (a : Int), .int .i64 (b : Int)] w fun e w' => e = .returned (.tuple #[]) ∧ ∃ n, w' = putRow (Value.int .u64) (Sort.ahead w n) g 0 (Sort.reverseRange d a b) := by
  have HH := hid hH
  obtain ⟨s, hs⟩ : ∃ s, s = d.size := ⟨_, rfl⟩
  rw [← hs] at hb hsz
  rw [← hs]
  have HS := hid hs
  clear hH hs
  obtain ⟨b1, rfl⟩ : ∃ k, b = k + 1 := ⟨b - 1, by omega⟩
  have hb1 : IntKind.i64.wrap (((b1 + 1 : Nat) : Int) - 1) = (b1 : Int) := by rw [IntKind.wrap_i64]; omega
  go_enter Try.func47, Try.ntmps47
  go_wp2_with fail
  go_loopg [6, 7] (b1 - a) (fun gg v6 v7 wr => ∃ (i j n : Nat) (dk : Array Int), v6 = .int .i64 (i : Int) ∧ v7 = .int .i64 (j : Int) ∧ gg = j - i ∧ j ≤ b1 ∧ i ≤ s ∧ dk.size = s ∧ wr = putRow (Value.int .u64) (Sort.ahead w n) g 0 dk ∧ reverseLoop i j dk = Sort.reverseRange d a (b1 + 1))
  case atStart => exact ⟨a, b1, 0, d, rfl, by go_num, rfl, by omega, by omega, HS.out.symm, (putRow_self _ _ _ _ _ HH.out).symm, rfl⟩
  case round =>
    obtain ⟨i, j, n, dk, rfl, rfl, rfl, hjb, his, hsk, hw2, hO⟩ := hrel
    have HO := hid hO
    have HW := hid hw2
    have HSK := hid hsk
    have HCELL : Hid (∀ t, t < s → wr.cell? ⟨g, t, none⟩ = some (.int .u64 dk[t]!) ∧ wr.frozen? ⟨g, t, none⟩ = false) := hid (fun t ht => by
      rw [hw2]
      have := holds_putRow (Value.int .u64) (Sort.ahead w n) g 0 d dk (holds_ahead _ _ _ _ _ _ HH.out) (by rw [hsk, HS.out]) t (by omega)
      simpa using this)
    clear hO hw2 hsk
    by_cases hij : i < j
    · have hij1 : (i : Int) < (j : Int) := by omega
      obtain ⟨hc1, hf1⟩ := HCELL.out i (by omega)
      obtain ⟨hc2, hf2⟩ := HCELL.out j (by omega)
      obtain ⟨x, hx⟩ : ∃ x, x = dk[i]! := ⟨_, rfl⟩
      obtain ⟨y, hy⟩ : ∃ y, y = dk[j]! := ⟨_, rfl⟩
      rw [← hx] at hc1
      rw [← hy] at hc2
      have HX := hid hx
      have HY := hid hy
      clear hx hy
      go_wp2_with fail
      go_region
      all_goals go_wp2
      have HSW : Hid (((wr.setCell ⟨g, i, none⟩ (.int .u64 y)).setCell ⟨g, j, none⟩ (.int .u64 x)).drew = putRow (Value.int .u64) (Sort.ahead w (n + 1)) g 0 (swp dk i j)) := hid (by
        have h := putRow_swp (Value.int .u64) (Sort.ahead w n) g 0 dk i j (by rw [HSK.out]; omega) (by rw [HSK.out]; omega)
        rw [← HW.out, ← HX.out, ← HY.out, Nat.zero_add, Nat.zero_add] at h
        rw [h, putRow_drew, ahead_drew])
      go_roundg (j - 1 - (i + 1))
      case measure => omega
      case rel => exact ⟨i + 1, j - 1, n + 1, swp dk i j, by go_num, by congr 1; omega, rfl, by omega, by omega, by rw [size_swp]; exact HSK.out, HSW.out, by rw [← HO.out, reverseLoop_go _ _ _ hij]⟩
    · have hij1 : ¬ (i : Int) < (j : Int) := by omega
      go_wp2_with fail
      refine bodyPost_end (results_none rfl _ _ _) rfl ?_
      exact ⟨rfl, n, by rw [HW.out, ← HO.out, reverseLoop_stop _ _ _ hij]⟩
end Go.Proofs.Ytcmbijckhcckpaa
