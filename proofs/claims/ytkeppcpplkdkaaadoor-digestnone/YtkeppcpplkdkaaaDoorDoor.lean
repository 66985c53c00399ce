/- One start that fits: the listed table as the program's own text lays it; bytes that came in. -/
import Derived.Test.YtkeppcpplkdkaaaDoorCards
import Derived.Test.YtkeppcpplkdkaaaDoorTie
import Derived.Test.YtkeppcpplkdkaaaDoorLSum
import Derived.ProofKit
import Derived.LaidMore
import Derived.OpenShut
import Derived.SizedLaws
import Derived.Stop.Joined
import Derived.Lib.LaidTab
namespace Go.Proofs.YtkeppcpplkdkaaaDoor
open Go.ChangeShapes Go.WideShapes Go.ChangeAt Go.RowKit

theorem own : ownKnob Tryd.prog.godebug = none := by kernel_rfl
theorem laidOut : laidOutB Tryd.prog = true := by kernel_rfl
theorem Tryd.cells5 : Tryd.prog.cellsOf 5 = 1 := by kernel_rfl
theorem Tryd.cells34 : Tryd.prog.cellsOf 34 = 1 := by kernel_rfl
theorem Tryd.cells53 : Tryd.prog.cellsOf 53 = 64 := by kernel_rfl
theorem Tryd.gK : Tryd.prog.globalNamed "sluiceway/digest.constants" = some 0 := by kernel_rfl
theorem Tryd.gKType : (Tryd.prog.globals[0]?).map (·.type) = some 53 := by kernel_rfl

/-- the listed variables -/
def laid1 : List (String × DataW Unit) := Rows.digestSumsRow.laid
theorem laid1_eq : laid1 = ("sluiceway/digest.constants", Lib.tabData .u32 kc) :: [] := rfl

/-- the program's constants lie there -/
theorem kc_of_laid {W : World} (h : laidMetH Tryd.prog laid1 W) : KC W := by
  have h1 : laidMet Tryd.prog laid1 W := h
  rw [laid1_eq] at h1
  have hT := Lib.tabIs_of_head Tryd.gK Tryd.gKType Tryd.underlying53 Tryd.underlying34 Tryd.cells34 Tryd.cells53 h1
  have hc := fun i hi => hT.cell Tryd.gK i hi
  refine ⟨?_, fun i hi => hc i (by show i < 64; exact hi)⟩
  have h0 := hc 0 (by decide)
  apply Classical.byContradiction
  intro hn
  rw [World.cell?, Array.getElem?_eq_none (by show W.heap.size ≤ 0; omega)] at h0
  cases h0

set_option maxRecDepth 100000 in
theorem door_met (os : Os) (args : Array Value) : laidMetH Tryd.prog laid1 ((World.doorLaid Tryd.prog 400 os).forCall (fun _ _ => 0) ⟨#[], args, []⟩).memory :=
  laidMet_of_run' 8 (by kernel_rfl) (by kernel_rfl)

theorem plain_of_cell {w : World} {a : Addr} {v : Value} (h : w.cell? a = some v) : a = ⟨a.block, a.off, none⟩ ∧ a.block < w.heap.size := by
  unfold World.cell? at h
  split at h
  · rename_i c e fr hb
    split at h
    · cases h
    · rename_i hs
      refine ⟨?_, lt_of_block hb⟩
      cases a with
      | mk b o s => cases s with
        | none => rfl
        | some x => simp at hs
  · cases h
theorem u8_wf {n : Int} (h : (Lit.int .u8 n).wf = true) : 0 ≤ n ∧ n < 256 := by
  have := bounds_u8 h
  omega

/-- bytes that came in -/
theorem sz_of_ints {W : World} {a : Addr} {len cap : Nat} {zs : List Int} (hl : len ≤ cap) (hz : len ≤ zs.length) (hcell : ∀ i, i < zs.length → W.cell? (a.add i) = some (.int .u8 (zs.getD i 0))) (hw : ∀ n ∈ zs, (Lit.int .u8 n).wf = true) :
    ∃ c : Bs, c.length = len ∧ Sz W (some a) cap c := by
  refine ⟨(zs.take len).map (fun z => UInt8.ofNat z.toNat), by simp; omega, by simp; omega, fun h0 => ?_⟩
  have h0' : 0 < len := by simp at h0; omega
  have hc0 := hcell 0 (by omega)
  have e0 : a.add 0 = a := by simp [Addr.add]
  rw [e0] at hc0
  obtain ⟨ha, hlt⟩ := plain_of_cell hc0
  refine ⟨a.block, a.off, by rw [← ha], hlt, fun i hi => ?_⟩
  have hi' : i < len := by simp at hi; omega
  have hc := hcell i (by omega)
  rw [ha, add_off] at hc
  rw [hc]
  have hzi : i < zs.length := by omega
  have hr := u8_wf (hw zs[i] (List.getElem_mem hzi))
  have e1 : zs.getD i 0 = zs[i] := by simp [List.getD, hzi]
  rw [e1]
  simp only [byt, List.getD, List.getElem?_map, List.getElem?_take_of_lt hi', List.getElem?_eq_getElem hzi, Option.map_some, Option.getD_some]
  congr 2
  simp
  omega
end Go.Proofs.YtkeppcpplkdkaaaDoor
