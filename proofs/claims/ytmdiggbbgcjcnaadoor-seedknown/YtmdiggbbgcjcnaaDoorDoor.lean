/- One start that fits: the listed tables as the program's own text lays them; what comes in. -/
import Derived.Test.YtmdiggbbgcjcnaaDoorCards
import Derived.Test.YtmdiggbbgcjcnaaDoorTie
import Derived.Test.YtmdiggbbgcjcnaaDoorFmt
import Derived.Test.YtmdiggbbgcjcnaaDoorSdE
import Derived.ProofKit
import Derived.LaidMore
import Derived.OpenShut
import Derived.SizedLaws
import Derived.Stop.Joined
import Derived.Stop.LaidErr
import Derived.Lib.LaidTab
import Derived.Deep.Slices
namespace Go.Proofs.YtmdiggbbgcjcnaaDoor
open Go.ChangeShapes Go.WideShapes Go.ChangeAt Go.RowKit

theorem own : ownKnob Tryd.prog.godebug = none := by kernel_rfl
theorem laidOut : laidOutB Tryd.prog = true := by kernel_rfl

/-- the listed variables -/
def laid3 : List (String × DataW Unit) := Rows.seedSecretsRow.laid

set_option maxRecDepth 100000 in
theorem door_met (os : Os) (args : Array Value) : laidMetH Tryd.prog laid3 ((World.doorLaid Tryd.prog 400 os).forCall (fun _ _ => 0) ⟨#[], args, []⟩).memory :=
  laidMetH_of_parts3 (fuel := 8) (laidMet_of_run' 8 (by kernel_rfl) (by kernel_rfl)) (by kernel_rfl) (by kernel_rfl)

theorem reach_le {n : Nat} (h : n ≤ reachBytes) : n ≤ 140737488355328 := by
  have h2 := reachBytes_lt
  have e3 : (2 : Nat) ^ 47 = 140737488355328 := by decide
  omega

theorem Tryd.gPow : Tryd.prog.globalNamed "internal/strconv.uint64pow10" = some 1 := by kernel_rfl
theorem Tryd.gPowType : (Tryd.prog.globals[1]?).map (·.type) = some 100 := by kernel_rfl
theorem Tryd.gTz : Tryd.prog.globalNamed "math/bits.deBruijn64tab" = some 0 := by kernel_rfl
theorem Tryd.gTzType : (Tryd.prog.globals[0]?).map (·.type) = some 83 := by kernel_rfl
theorem Tryd.c62 : Tryd.prog.cellsOf 62 = 1 := by kernel_rfl
theorem Tryd.c100 : Tryd.prog.cellsOf 100 = 20 := by kernel_rfl
theorem Tryd.c5 : Tryd.prog.cellsOf 5 = 1 := by kernel_rfl
theorem Tryd.c83 : Tryd.prog.cellsOf 83 = 64 := by kernel_rfl

theorem pw_of_laid {W : World} (h : laidMetH Tryd.prog laid3 W) : Pw W := by
  have h1 : laidMet Tryd.prog laid3 W := h
  have h2 : laidMet Tryd.prog (("internal/strconv.uint64pow10", Lib.tabData .u64 Lib.pow10Tab) :: []) W := (h1.tail).tail
  exact Lib.tabIs_of_head Tryd.gPow Tryd.gPowType Tryd.underlying100 Tryd.underlying62 Tryd.c62 Tryd.c100 h2
theorem tz_of_laid {W : World} (h : laidMetH Tryd.prog laid3 W) : Tz W := by
  have h1 : laidMet Tryd.prog laid3 W := h
  have h2 : laidMet Tryd.prog (("math/bits.deBruijn64tab", Lib.tabData .u8 (Lib.deBruijn64tab.map fun n : Nat => (n : Int))) :: [("internal/strconv.uint64pow10", Lib.tabData .u64 Lib.pow10Tab)]) W := h1.tail
  have h3 := Lib.tabIs_of_head Tryd.gTz Tryd.gTzType Tryd.underlying83 Tryd.underlying5 Tryd.c5 Tryd.c83 h2
  intro j hj
  have h4 := Lib.TabIs.cell h3 Tryd.gTz j (by rw [List.length_map]; exact hj)
  rw [h4, List.getD_eq_getElem?_getD, List.getD_eq_getElem?_getD, List.getElem?_map, List.getElem?_eq_getElem hj]
  rfl
end Go.Proofs.YtmdiggbbgcjcnaaDoor
