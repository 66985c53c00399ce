/- The table of powers as the program's text lays it. -/
import Derived.Test.YtkdgmaolepkbdaaDoorDoor
import Derived.Test.YtkdgmaolepkbdaaDoorFmt
namespace Go.Proofs.YtkdgmaolepkbdaaDoor
open Go.ChangeShapes Go.WideShapes Go.ChangeAt Go.RowKit

theorem Tryd.cells95 : Tryd.prog.cellsOf 95 = 1 := by kernel_rfl
theorem Tryd.cells118 : Tryd.prog.cellsOf 118 = 20 := by kernel_rfl
theorem Tryd.gPow : Tryd.prog.globalNamed "internal/strconv.uint64pow10" = some 1 := by kernel_rfl
theorem Tryd.gPowType : (Tryd.prog.globals[1]?).map (·.type) = some 118 := by kernel_rfl
theorem pw_of_laid {W : World} (h : laidMetH Tryd.prog laid3 W) : Pw W := by
  have h1 : laidMet Tryd.prog laid3 W := h
  have h2 : laidMet Tryd.prog (("internal/strconv.uint64pow10", Lib.tabData .u64 Lib.pow10Tab) :: []) W := (h1.tail).tail
  exact Lib.tabIs_of_head Tryd.gPow Tryd.gPowType Tryd.underlying118 Tryd.underlying95 Tryd.cells95 Tryd.cells118 h2
end Go.Proofs.YtkdgmaolepkbdaaDoor
