/- DigestPieces with many pieces. -/
import Derived.Test.YtkeppcpplkdkaaaDoorPieceA
namespace Go.Proofs.YtkeppcpplkdkaaaDoor
open Go.RowKit

set_option maxHeartbeats 4000000 in
set_option maxRecDepth 100000 in
theorem pieces_many (w : World) (a : Option Addr) (cap : Nat) (cs : List Bs) (hs : Ls w a cap cs) (hl : 60 < cs.length) (hm : cs.length ≤ maxLen) : Calls Tryd.prog 4 #[.slice a cs.length cap] w fun en w' => en = .returned (.bool true) ∧ Below w.heap.size w w' := by
  obtain ⟨lb, lo, rfl, hlt, hc⟩ := hs.som (by omega)
  have HC := hid hc
  clear hc hs
  obtain ⟨n, hn⟩ : ∃ n, n = cs.length := ⟨_, rfl⟩
  rw [← hn] at hl hm ⊢
  have HN := hid hn
  clear hn
  unfold maxLen at hm
  have hn1 : (60 : Int) < (n : Int) := by omega
  have HM := hid hm
  clear hm hl
  go_enter Tryd.func4, Tryd.ntmps4
  go_wp2_with fail
  go_loopg [3, 4] n (fun gg v3 v4 wr => ∃ (i : Nat) (x : Int), i ≤ n ∧ gg = n - i ∧ v3 = .int .i64 x ∧ v4 = .int .i64 (i : Int) ∧ wr = w)
  case atStart => exact ⟨0, 0, by omega, rfl, rfl, rfl, rfl⟩
  case round =>
    obtain ⟨i, x, hi, rfl, rfl, rfl, rfl⟩ := hrel
    by_cases hil : i < n
    · have hi1 : (i : Int) < (n : Int) := by omega
      have HIL := hid hil
      have hiw : IntKind.i64.wrap ((i : Int) + 1) = (i : Int) + 1 := by have := HM.out; rw [IntKind.wrap_i64]; omega
      obtain ⟨ai, ci, hce, _⟩ := HC.out i (by rw [← HN.out]; exact hil)
      generalize (cs.getD i []).length = m at hce
      clear hi hil
      go_wp2_with fail
      go_roundg (n - (i + 1))
      case measure => have := HIL.out; omega
      case rel => exact ⟨i + 1, _, HIL.out, rfl, rfl, rfl, rfl⟩
    · have hi1 : ¬ (i : Int) < (n : Int) := by omega
      clear hi hil
      by_cases hx : 3000 < x
      all_goals
        go_wp2_with fail
        go_ret
        exact ⟨rfl, Below.refl _ _⟩
end Go.Proofs.YtkeppcpplkdkaaaDoor
