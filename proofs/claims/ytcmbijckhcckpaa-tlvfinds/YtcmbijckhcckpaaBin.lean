/- slices.BinarySearch of numbers. -/
import Derived.Test.YtcmbijckhcckpaaUsC
namespace Go.Proofs.Ytcmbijckhcckpaa
open Go.RowKit

/-- the numbers stand in order -/
def Up (K : List Nat) : Prop := ∀ i j (_ : i ≤ j) (hj : j < K.length), K[i] ≤ K[j]
set_option maxRecDepth 100000 in
set_option maxHeartbeats 4000000 in
theorem bin_any (w : World) (g c t : Nat) (K : List Nat) (hu : Up K) (hk : K.length ≤ 100) (hc : ∀ i (h : i < K.length), w.cell? ⟨g, i, none⟩ = some (.int .u64 (K[i] : Int))) :
    Calls Try.prog 37 #[.slice (some ⟨g, 0, none⟩) K.length c, .int .u64 (t : Int)] w fun e w' => (∃ i : Int, e = .returned (.tuple #[.int .i64 i, .bool (K.any (· == t))])) ∧ w' = w := by
  obtain ⟨n, hn⟩ : ∃ n, n = K.length := ⟨_, rfl⟩
  have HN := hid hn
  have HU := hid hu
  have HC := hid hc
  rw [← hn] at hk
  rw [← hn]
  obtain ⟨A, hA⟩ : ∃ A, A = K.any (· == t) := ⟨_, rfl⟩
  rw [← hA]
  have HA := hid hA
  clear hn hu hc hA
  go_enter Try.func37, Try.ntmps37
  go_wp2_with fail
  go_loopg [7, 8, 9] n (fun gg v7 v8 v9 wr => wr = w ∧ ∃ i j : Nat, i ≤ j ∧ j ≤ n ∧ gg = j - i ∧ v7 = .int .i64 (i : Int) ∧ v8 = .int .i64 (j : Int) ∧ (∀ k (h : k < K.length), k < i → K[k] < t) ∧ (∀ k (h : k < K.length), j ≤ k → t ≤ K[k]))
  case atStart => exact ⟨rfl, 0, n, by omega, by omega, by omega, rfl, rfl, fun k h hj => by omega, fun k h hj => by rw [← HN.out] at h; omega⟩
  case round =>
    obtain ⟨hwr, i, j, hij, hjn, rfl, rfl, rfl, hlo, hhi⟩ := hrel
    subst hwr
    have HLO := hid hlo
    have HHI := hid hhi
    clear hlo hhi
    by_cases hl : i < j
    · have hl1 : (i : Int) < (j : Int) := by omega
      have hmK : (i + j) / 2 < K.length := by rw [← HN.out]; omega
      have hx := HC.out _ hmK
      have HXL : Hid (K[(i + j) / 2] < t → ∀ k (h : k < K.length), k < (i + j) / 2 + 1 → K[k] < t) := hid (fun hx k h hk => Nat.lt_of_le_of_lt (HU.out k _ (by omega) hmK) hx)
      have HXH : Hid (¬ K[(i + j) / 2] < t → ∀ k (h : k < K.length), (i + j) / 2 ≤ k → t ≤ K[k]) := hid (fun hx k h hk => Nat.le_trans (Nat.le_of_not_lt hx) (HU.out _ k hk h))
      generalize K[(i + j) / 2] = x at *
      have HLS := hid (fun W => less_any x t W)
      clear hmK
      by_cases hxt : x < t
      · rw [decide_eq_true hxt] at HLS
        have HNW := hid (HXL.out hxt)
        clear hxt
        go_wp2_with fail
        refine (HLS.out _).mono ?_
        rintro e w1 ⟨rfl, hw1⟩
        subst hw1
        go_wp2_with fail
        go_roundg (j - ((i + j) / 2 + 1))
        case measure => omega
        case rel => exact ⟨rfl, (i + j) / 2 + 1, j, by omega, by omega, rfl, by go_num, rfl, HNW.out, HHI.out⟩
      · rw [decide_eq_false hxt] at HLS
        have HNW := hid (HXH.out hxt)
        clear hxt
        go_wp2_with fail
        refine (HLS.out _).mono ?_
        rintro e w1 ⟨rfl, hw1⟩
        subst hw1
        go_wp2_with fail
        go_roundg ((i + j) / 2 - i)
        case measure => omega
        case rel => exact ⟨rfl, i, (i + j) / 2, by omega, by omega, rfl, rfl, by go_num, HLO.out, HNW.out⟩
    · have hl1 : ¬ (i : Int) < (j : Int) := by omega
      by_cases hin : i < n
      · have hin1 : (i : Int) < (n : Int) := by omega
        have hiK : i < K.length := by rw [← HN.out]; exact hin
        have hx := HC.out i hiK
        have HGE : Hid (t ≤ K[i]) := hid (HHI.out i hiK (by omega))
        have HYES : Hid (K[i] = t → A = true) := hid (fun h => by
          rw [HA.out, List.any_eq_true]
          exact ⟨K[i], List.getElem_mem hiK, by simp [h]⟩)
        have HNO : Hid (K[i] ≠ t → A = false) := hid (fun h => by
          rw [HA.out, List.any_eq_false]
          intro y hy
          obtain ⟨k, hk, rfl⟩ := List.getElem_of_mem hy
          by_cases hki : k < i
          · have := HLO.out k hk hki
            simp; omega
          · have := HU.out i k (by omega) hk
            have := HGE.out
            simp; omega)
        generalize K[i] = x at *
        clear hiK
        by_cases hxt : x = t
        · subst hxt
          have HAT := hid (HYES.out rfl)
          go_wp2
          go_ret2
          rw [HAT.out]
          exact ⟨⟨_, rfl⟩, rfl⟩
        · have HAF := hid (HNO.out hxt)
          have hxb : ((x : Int) == (t : Int)) = false := by simp; omega
          clear hxt
          go_wp2
          go_ret2
          rw [HAF.out]
          exact ⟨⟨_, rfl⟩, rfl⟩
      · have hin1 : ¬ (i : Int) < (n : Int) := by omega
        have HAF : Hid (A = false) := hid (by
          rw [HA.out, List.any_eq_false]
          intro y hy
          obtain ⟨k, hk, rfl⟩ := List.getElem_of_mem hy
          have := HLO.out k hk (by rw [← HN.out] at hk; omega)
          simp; omega)
        go_wp2_with fail
        go_ret2
        rw [HAF.out]
        exact ⟨⟨_, rfl⟩, rfl⟩
end Go.Proofs.Ytcmbijckhcckpaa
