/- Turning a word. -/
import Derived.Test.YtkeppcpplkdkaaaDoorProg
import Derived.WalkKit
import Derived.WalkSpells
import Derived.WalkLawsBesides
import Derived.BigQuiet
import Derived.Deep.QuietTactic
import Derived.Deep.LoopGhost
import Derived.Deep.RegionLaw
import Derived.Deep.RegionWith
namespace Go.Proofs.YtkeppcpplkdkaaaDoor
open Go.RowKit

/-- a fact kept from the walk -/
theorem hid {p : Prop} (h : p) : Hid p := h

/-- a word turned to the right -/
def tn (x : Int) (n : Nat) : Int := bits .or .u32 (x / 2 ^ n) (x * 2 ^ (32 - n) % 4294967296)

theorem bits_or_comm (a b : Int) : bits .or .u32 a b = bits .or .u32 b a := by
  simp [bits, BitVec.or_comm]

set_option maxHeartbeats 1000000 in
theorem rturn_any (x : Int) (n : Nat) (w : World) (hn : n < 32) : Calls Tryd.prog 24 #[.int .u32 x, .int .i64 (n : Int)] w fun en w' => en = .returned (.int .u32 (tn x n)) ∧ ∃ m, w' = w.drewN m := by
  have h1 : IntKind.i64.wrap (32 - (n : Int)) = ((32 - n : Nat) : Int) := by rw [IntKind.wrap_i64]; omega
  go_enter Tryd.func24, Tryd.ntmps24
  go_wp2_with fail
  go_quiet (fail)
  go_wp2_with fail
  go_ret
  exact ⟨rfl, _, rfl⟩

theorem turn_count : ∀ n : Fin 32, 1 ≤ n.val → bits .and .u64 (IntKind.u64.wrap (-(n.val : Int))) 31 = ((32 - n.val : Nat) : Int) := by decide

set_option maxHeartbeats 1000000 in
theorem rot_any (x : Int) (n : Nat) (w : World) (h0 : 1 ≤ n) (hn : n < 32) : Calls Tryd.prog 28 #[.int .u32 x, .int .i64 (-(n : Int))] w fun en w' => en = .returned (.int .u32 (tn x n)) ∧ w' = w := by
  have h1 := turn_count ⟨n, hn⟩ h0
  simp only at h1
  have h2 : IntKind.u64.wrap (32 - ((32 - n : Nat) : Int)) = (n : Int) := by rw [IntKind.wrap_u64]; omega
  go_enter Tryd.func28, Tryd.ntmps28
  go_wp2_with fail
  go_ret
  exact ⟨by rw [bits_or_comm]; rfl, rfl⟩

set_option maxHeartbeats 1000000 in
theorem turn_any (x : Int) (n : Nat) (w : World) (h0 : 1 ≤ n) (hn : n < 32) : Calls Tryd.prog 27 #[.int .u32 x, .int .i64 (n : Int)] w fun en w' => en = .returned (.int .u32 (tn x n)) ∧ ∃ m, w' = w.drewN m := by
  have h1 : IntKind.i64.wrap (-(n : Int)) = -(n : Int) := by rw [IntKind.wrap_i64]; omega
  go_enter Tryd.func27, Tryd.ntmps27
  go_wp2_with fail
  refine (rot_any x n _ h0 hn).mono ?_
  rintro e w1 ⟨rfl, rfl⟩
  go_wp2_with fail
  go_ret
  exact ⟨rfl, 0, rfl⟩

theorem rturn_int (x N : Int) (w : World) (h0 : 1 ≤ N) (hn : N < 32) : Calls Tryd.prog 24 #[.int .u32 x, .int .i64 N] w fun en w' => en = .returned (.int .u32 (tn x N.toNat)) ∧ ∃ m, w' = w.drewN m := by
  obtain ⟨n, rfl⟩ : ∃ n : Nat, N = (n : Int) := ⟨N.toNat, by omega⟩
  exact rturn_any x n w (by omega)
theorem turn_int (x N : Int) (w : World) (h0 : 1 ≤ N) (hn : N < 32) : Calls Tryd.prog 27 #[.int .u32 x, .int .i64 N] w fun en w' => en = .returned (.int .u32 (tn x N.toNat)) ∧ ∃ m, w' = w.drewN m := by
  obtain ⟨n, rfl⟩ : ∃ n : Nat, N = (n : Int) := ⟨N.toNat, by omega⟩
  exact turn_any x n w (by omega) (by omega)
end Go.Proofs.YtkeppcpplkdkaaaDoor
