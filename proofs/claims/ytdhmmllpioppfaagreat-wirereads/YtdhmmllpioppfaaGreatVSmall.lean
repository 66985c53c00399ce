/- Forms of numbers: the program's small functions. -/
import Derived.Test.YtdhmmllpioppfaaGreatProg
import Derived.Test.YtdhmmllpioppfaaGreatVMath
import Derived.WalkKit
import Derived.WalkSpells
import Derived.WalkLawsBesides
import Derived.Deep.QuietTactic
import Derived.BigQuiet
import Derived.Deep.LoopGhost
import Derived.OwnWalk
namespace Go.Proofs.YtdhmmllpioppfaaGreat.V
open Go.RowKit

/-- a fact kept from the walk -/
theorem hid {p : Prop} (h : p) : Hid p := h

theorem formN_0 {n : Nat} (h : n < 253) : formN n = 0 := by unfold formN; rw [if_pos h]
theorem formN_1 {n : Nat} (h : ¬ n < 253) (h1 : n < 65536) : formN n = 1 := by unfold formN; rw [if_neg h, if_pos h1]
theorem formN_2 {n : Nat} (h : ¬ n < 65536) (h1 : n < 4294967296) : formN n = 2 := by unfold formN; rw [if_neg (by omega), if_neg h, if_pos h1]
theorem formN_3 {n : Nat} (h : ¬ n < 4294967296) : formN n = 3 := by unfold formN; rw [if_neg (by omega), if_neg (by omega), if_neg h]

set_option maxHeartbeats 400000 in
theorem formOf_any (n : Nat) (w : World) : Calls Tryz.prog 70 #[.int .u64 (n : Int)] w fun e w' => e = .returned (.int .i64 (formN n : Int)) ∧ w' = w := by
  by_cases h0 : n < 253
  · rw [formN_0 h0]
    have h1 : (n : Int) < 253 := by omega
    clear h0
    generalize (n : Int) = m at *
    go_enter Tryz.func70, Tryz.ntmps70
    go_wp2
    go_ret
    exact ⟨rfl, rfl⟩
  · by_cases h1 : n < 65536
    · rw [formN_1 h0 h1]
      have a : ¬ (n : Int) < 253 := by omega
      have b : (n : Int) < 65536 := by omega
      clear h0 h1
      generalize (n : Int) = m at *
      go_enter Tryz.func70, Tryz.ntmps70
      go_wp2
      go_ret
      exact ⟨rfl, rfl⟩
    · by_cases h2 : n < 4294967296
      · rw [formN_2 h1 h2]
        have a : ¬ (n : Int) < 65536 := by omega
        have b : (n : Int) < 4294967296 := by omega
        clear h0 h1 h2
        generalize (n : Int) = m at *
        go_enter Tryz.func70, Tryz.ntmps70
        go_wp2
        go_ret
        exact ⟨rfl, rfl⟩
      · rw [formN_3 h2]
        have a : ¬ (n : Int) < 4294967296 := by omega
        clear h0 h1 h2
        generalize (n : Int) = m at *
        go_enter Tryz.func70, Tryz.ntmps70
        go_wp2
        go_ret
        exact ⟨rfl, rfl⟩

set_option maxHeartbeats 400000 in
theorem saidBy_any (c : UInt8) (w : World) : Calls Tryz.prog 102 #[.int .u8 (c.toNat : Int)] w fun e w' => e = .returned (.int .i64 (saidN c : Int)) ∧ w' = w := by
  have hc := c.toNat_lt
  unfold saidN
  by_cases h0 : c.toNat < 253
  · rw [if_pos h0]
    generalize c.toNat = k at *
    have h1 : (k : Int) < 253 := by omega
    clear h0
    go_enter Tryz.func102, Tryz.ntmps102
    go_wp2
    go_ret
    exact ⟨rfl, rfl⟩
  · rw [if_neg h0]
    generalize c.toNat = k at *
    have hk : k = 253 ∨ k = 254 ∨ k = 255 := by omega
    clear h0 hc
    rcases hk with rfl | rfl | rfl
    all_goals
      go_enter Tryz.func102, Tryz.ntmps102
      go_wp2
      go_ret
      exact ⟨rfl, rfl⟩

set_option maxHeartbeats 400000 in
theorem mark_any (f : Nat) (h0 : f ≠ 0) (h : f < 4) (w : World) : Calls Tryz.prog 72 #[.int .i64 (f : Int)] w fun e w' => e = .returned (.int .u8 ((252 + f : Nat) : Int)) ∧ w' = w := by
  have hk : f = 1 ∨ f = 2 ∨ f = 3 := by omega
  clear h0 h
  rcases hk with rfl | rfl | rfl
  all_goals
    go_enter Tryz.func72, Tryz.ntmps72
    go_wp2
    go_ret
    exact ⟨rfl, rfl⟩

set_option maxHeartbeats 400000 in
theorem size_any (f : Nat) (h : f < 4) (w : World) : Calls Tryz.prog 71 #[.int .i64 (f : Int)] w fun e w' => e = .returned (.int .i64 (sizeN f : Int)) ∧ w' = w := by
  have hk : f = 0 ∨ f = 1 ∨ f = 2 ∨ f = 3 := by omega
  clear h
  rcases hk with rfl | rfl | rfl | rfl
  all_goals
    go_enter Tryz.func71, Tryz.ntmps71
    go_wp2
    go_ret
    exact ⟨rfl, rfl⟩
end Go.Proofs.YtdhmmllpioppfaaGreat.V
