/- One start that fits: the listed variables as the program's own text lays them. -/
import Derived.Test.YtfnnhekjeobicaaGreatDoorCards
import Derived.Test.YtfnnhekjeobicaaGreatDoorTie
import Derived.ProofKit
import Derived.LaidMore
import Derived.OpenShut
import Derived.SizedLaws
import Derived.Stop.Joined
namespace Go.Proofs.YtfnnhekjeobicaaGreatDoor
open Go.ChangeShapes Go.WideShapes Go.ChangeAt Go.RowKit

theorem own : ownKnob Tryz.prog.godebug = none := by kernel_rfl

/-- the listed variables -/
def laid3 : List (String × DataW Unit) := Rows.deduceFreshRow.laid

set_option maxRecDepth 100000 in
theorem door_met (os : Os) (args : Array Value) : laidMetH Tryz.prog laid3 ((World.doorLaid Tryz.prog 400 os).forCall (fun _ _ => 0) ⟨#[], args, []⟩).memory :=
  laidMetH_of_parts3 (fuel := 8) (laidMet_of_run' 8 (by kernel_rfl) (by kernel_rfl)) (by kernel_rfl) (by kernel_rfl)

/-- a text of an argument is short enough -/
theorem reach_len {s : ByteArray} (h : s.data.toList.length ≤ reachBytes) : s.data.toList.length ≤ 140737488355328 := by
  have h2 := reachBytes_lt
  have e3 : (2 : Nat) ^ 47 = 140737488355328 := by decide
  omega
end Go.Proofs.YtfnnhekjeobicaaGreatDoor
