/- The program's small functions: which bytes are looked for. -/
import Derived.Test.YtelfogdcijmenaaDoorProg
import Derived.Test.YtelfogdcijmenaaDoorMath
import Derived.WalkKit
import Derived.WalkSpells
import Derived.WalkLawsBesides
import Derived.Deep.QuietTactic
import Derived.BigQuiet
import Derived.Deep.LoopGhost
import Derived.OwnWalk
namespace Go.Proofs.YtelfogdcijmenaaDoor
open Go.RowKit

/-- a fact kept from the walk -/
theorem hid {p : Prop} (h : p) : Hid p := h
abbrev By (c : UInt8) : Value := .int .u8 (c.toNat : Int)

set_option maxHeartbeats 400000 in
theorem out_any (c : UInt8) (w : World) : Calls Tryd.prog 20 #[By c] w fun e w' => e = .returned (.bool (outB c)) ∧ w' = w := by
  unfold outB By
  generalize c.toNat = n
  by_cases h0 : n < 33
  · have h1 : (n : Int) < 33 := by omega
    go_enter Tryd.func20, Tryd.ntmps20
    go_wp2
    go_ret
    simp [h0]
  · have h1 : ¬ (n : Int) < 33 := by omega
    by_cases h2 : 126 < n
    · have h3 : (126 : Int) < n := by omega
      go_enter Tryd.func20, Tryd.ntmps20
      go_wp2
      go_ret
      simp
    · have h3 : ¬ (126 : Int) < n := by omega
      go_enter Tryd.func20, Tryd.ntmps20
      go_wp2
      go_ret
      simp
set_option maxHeartbeats 400000 in
theorem cap_any (c : UInt8) (w : World) : Calls Tryd.prog 21 #[By c] w fun e w' => e = .returned (.bool (capB c)) ∧ w' = w := by
  unfold capB By
  generalize c.toNat = n
  by_cases h0 : 65 ≤ n
  · have h1 : (65 : Int) ≤ n := by omega
    by_cases h2 : n ≤ 90
    · have h3 : (n : Int) ≤ 90 := by omega
      go_enter Tryd.func21, Tryd.ntmps21
      go_wp2
      go_ret
      simp [h0, h2]
    · have h3 : ¬ (n : Int) ≤ 90 := by omega
      go_enter Tryd.func21, Tryd.ntmps21
      go_wp2
      go_ret
      simp
  · have h1 : ¬ (65 : Int) ≤ n := by omega
    go_enter Tryd.func21, Tryd.ntmps21
    go_wp2
    go_ret
    simp
set_option maxHeartbeats 400000 in
theorem sml_any (c : UInt8) (w : World) : Calls Tryd.prog 33 #[By c] w fun e w' => e = .returned (.bool (smlB c)) ∧ w' = w := by
  unfold smlB By
  generalize c.toNat = n
  by_cases h0 : 97 ≤ n
  · have h1 : (97 : Int) ≤ n := by omega
    by_cases h2 : n ≤ 122
    · have h3 : (n : Int) ≤ 122 := by omega
      go_enter Tryd.func33, Tryd.ntmps33
      go_wp2
      go_ret
      simp [h0, h2]
    · have h3 : ¬ (n : Int) ≤ 122 := by omega
      go_enter Tryd.func33, Tryd.ntmps33
      go_wp2
      go_ret
      simp
  · have h1 : ¬ (97 : Int) ≤ n := by omega
    go_enter Tryd.func33, Tryd.ntmps33
    go_wp2
    go_ret
    simp
set_option maxHeartbeats 400000 in
theorem nw_any (c : UInt8) (w : World) : Calls Tryd.prog 23 #[By c] w fun e w' => e = .returned (.bool (nwB c)) ∧ w' = w := by
  unfold nwB By
  generalize c.toNat = n
  by_cases h0 : 32 ≤ n
  · have h1 : (32 : Int) ≤ n := by omega
    go_enter Tryd.func23, Tryd.ntmps23
    go_wp2
    go_ret
    simp [h0]
  · have h1 : ¬ (32 : Int) ≤ n := by omega
    go_enter Tryd.func23, Tryd.ntmps23
    go_wp2
    go_ret
    simp
abbrev St (l : Bs) : Value := .string ⟨l.toArray⟩
theorem st_size (l : Bs) : (⟨l.toArray⟩ : ByteArray).size = l.length := by simp [ByteArray.size]
set_option maxHeartbeats 400000 in
theorem fit_any (h : Bs) (w : World) : Calls Tryd.prog 18 #[St h] w fun e w' => e = .returned (.bool (fitB h)) ∧ w' = w := by
  unfold fitB
  have hs := st_size h
  generalize h.length = n at *
  by_cases h0 : 1 ≤ n
  · have h1 : (1 : Int) ≤ n := by omega
    by_cases h2 : n ≤ 83
    · have h3 : (n : Int) ≤ 83 := by omega
      go_enter Tryd.func18, Tryd.ntmps18
      go_wp2
      go_ret
      simp [h0, h2]
    · have h3 : ¬ (n : Int) ≤ 83 := by omega
      go_enter Tryd.func18, Tryd.ntmps18
      go_wp2
      go_ret
      simp
  · have h1 : ¬ (1 : Int) ≤ n := by omega
    go_enter Tryd.func18, Tryd.ntmps18
    go_wp2
    go_ret
    simp
end Go.Proofs.YtelfogdcijmenaaDoor
