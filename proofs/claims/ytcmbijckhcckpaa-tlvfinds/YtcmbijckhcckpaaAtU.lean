/- A world in which a row of numbers has been turned: the row, and the rest below a mark. -/
import Derived.Test.YtcmbijckhcckpaaBrk
import Derived.Test.YtcmbijckhcckpaaPivB
import Derived.Sort.LotD3
namespace Go.Proofs.Ytcmbijckhcckpaa
open Go.RowKit Go.Sort

/-- the row at g holds dk; below w's end all else is as in w -/
structure AtU (w : World) (g : Nat) (dk : Array Int) (wr : World) : Prop where
  holds : Holds (Value.int .u64) wr g 0 dk
  below : Go.RowKit.Below w.heap.size (putRow (Value.int .u64) w g 0 dk) wr
theorem putRow_hsize (w : World) (g : Nat) (d : Array Int) : (putRow (Value.int .u64) w g 0 d).heap.size = w.heap.size := by
  show (w.heap.modify g _).size = _
  simp
theorem putRow_below {B : Nat} {a b : World} (h : Go.RowKit.Below B a b) (g : Nat) (d : Array Int) : Go.RowKit.Below B (putRow (Value.int .u64) a g 0 d) (putRow (Value.int .u64) b g 0 d) := by
  refine ⟨h.os, h.tape, h.output, by rw [putRow_hsize, putRow_hsize]; exact h.size, fun i hi => ?_⟩
  show (b.heap.modify g _)[i]? = (a.heap.modify g _)[i]?
  rw [Array.getElem?_modify, Array.getElem?_modify, h.block i hi]
theorem AtU.self {w : World} {g : Nat} {d : Array Int} (h : Holds (Value.int .u64) w g 0 d) : AtU w g d w := ⟨h, by rw [putRow_self _ _ _ _ _ h]; exact Go.RowKit.Below.refl _ _⟩
theorem AtU.size {w wr : World} {g : Nat} {d : Array Int} (h : AtU w g d wr) : w.heap.size ≤ wr.heap.size := by
  have := h.below.size
  rw [putRow_hsize] at this
  exact this
theorem AtU.put {w wr w' : World} {g n : Nat} {dk dn : Array Int} (h : AtU w g dk wr) (hs : dn.size = dk.size) (hw : w' = putRow (Value.int .u64) (Sort.ahead wr n) g 0 dn) : AtU w g dn w' := by
  subst hw
  refine ⟨holds_putRow _ _ _ _ dk dn (holds_ahead _ _ _ _ _ _ h.holds) hs, ?_⟩
  have h1 := putRow_below h.below g dn
  rw [putRow_putRow _ _ _ _ _ _ hs] at h1
  exact ⟨h1.os, h1.tape, h1.output, h1.size, h1.block⟩
theorem AtU.other {w wr w' : World} {g : Nat} {dk : Array Int} (h : AtU w g dk wr) (hg : g < w.heap.size) (hb : Go.RowKit.Below wr.heap.size wr w') : AtU w g dk w' := by
  have hl := h.size
  refine ⟨fun j hj => ?_, h.below.trans (hb.mono hl)⟩
  have h1 := h.holds j hj
  exact ⟨(hb.cell (p := ⟨g, 0 + j, none⟩) (by show g < _; omega)).trans h1.1, (hb.frozen (p := ⟨g, 0 + j, none⟩) (by show g < _; omega)).trans h1.2⟩
theorem AtU.trans {w w1 w2 : World} {g : Nat} {dk dn : Array Int} (h : AtU w g dk w1) (k : AtU w1 g dn w2) (hs : dn.size = dk.size) : AtU w g dn w2 := by
  refine ⟨k.holds, ?_⟩
  have h1 := putRow_below h.below g dn
  rw [putRow_putRow _ _ _ _ _ _ hs] at h1
  exact h1.trans (k.below.mono h.size)
/-- a store into another block leaves the row -/
theorem row_keep {w w' : World} {g z n : Nat} {d : Array Int} {v : Value} (hH : Holds (Value.int .u64) w g 0 d) (hgz : g ≠ z) (hw : w' = (Sort.ahead w n).setCell ⟨z, 0, none⟩ v) : Holds (Value.int .u64) w' g 0 d := by
  subst hw
  intro j hj
  have h := hH j hj
  have e1 : ((Sort.ahead w n).setCell ⟨z, 0, none⟩ v).heap[g]? = w.heap[g]? := by
    show (w.heap.modify z _)[g]? = _
    rw [Array.getElem?_modify, if_neg (fun e => hgz e.symm)]
  refine ⟨(World.cell?_of_block e1).trans h.1, ?_⟩
  have h2 := h.2
  unfold World.frozen? at h2 ⊢
  rw [e1]
  exact h2
theorem AtU.set {w wr w' : World} {g z n : Nat} {dk : Array Int} {v : Value} (h : AtU w g dk wr) (hg : g < w.heap.size) (hz : w.heap.size ≤ z) (hw : w' = (Sort.ahead wr n).setCell ⟨z, 0, none⟩ v) : AtU w g dk w' :=
  ⟨row_keep h.holds (by omega) hw, ctr_below h.below hz hw⟩
theorem and_le (r : Int) (m : Nat) (hm : m < 18446744073709551616) : ∃ o : Nat, o ≤ m ∧ bits BinOp.and IntKind.u64 r (m : Int) = (o : Int) := by
  refine ⟨((BitVec.ofInt 64 r) &&& (BitVec.ofInt 64 (m : Int))).toNat, ?_, ?_⟩
  · rw [BitVec.toNat_and]
    refine Nat.le_trans Nat.and_le_right ?_
    rw [BitVec.toNat_ofInt]
    omega
  · have h := ((BitVec.ofInt 64 r) &&& (BitVec.ofInt 64 (m : Int))).isLt
    show IntKind.u64.wrap ((((BitVec.ofInt 64 r) &&& (BitVec.ofInt 64 (m : Int))).toNat : Nat) : Int) = _
    rw [IntKind.wrap_u64]
    omega
end Go.Proofs.Ytcmbijckhcckpaa
