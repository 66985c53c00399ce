/- Keys: the region that hands two sides back, whatever order is drawn. -/
import Derived.Test.YtkifchjpgdmcoaaGreatDoorKyZ
namespace Go.Proofs.YtkifchjpgdmcoaaGreatDoor
open Go.RowKit
def pr0 : Oper := { dst := some 102, op := Op.load 24 (Operand.tmp 15), type := 24, pos := "law.go:71", after := #[], guard := none }
def pr1 : Oper := { dst := some 103, op := Op.load 24 (Operand.tmp 17), type := 24, pos := "law.go:71", after := #[{ on := 4, ground := Go.Ground.gcOnly Go.Departure.lateStores }], guard := none }
def pr2 : Oper := { dst := some 104, op := Op.load 26 (Operand.tmp 27), type := 26, pos := "law.go:71", after := #[{ on := 5, ground := Go.Ground.gcOnly Go.Departure.lateStores }], guard := none }
def pr3 : Oper := { dst := some 105, op := Op.move (Operand.tmp 23), type := 22, pos := "law.go:71", after := #[{ on := 6, ground := Go.Ground.gcOnly Go.Departure.lateStores }], guard := none }
def pr4 : Oper := { dst := none, op := Op.store 24 (Operand.tmp 6) (Operand.tmp 102), type := 0, pos := "law.go:71", after := #[{ on := 0, ground := Go.Ground.data }, { on := 0, ground := Go.Ground.phase }, { on := 1, ground := Go.Ground.textOnly Go.Departure.lateStores }, { on := 2, ground := Go.Ground.textOnly Go.Departure.lateStores }, { on := 3, ground := Go.Ground.textOnly Go.Departure.lateStores }], guard := none }
def pr5 : Oper := { dst := none, op := Op.store 24 (Operand.tmp 7) (Operand.tmp 103), type := 0, pos := "law.go:71", after := #[{ on := 1, ground := Go.Ground.data }, { on := 4, ground := Go.Ground.chain }, { on := 0, ground := Go.Ground.phase }, { on := 1, ground := Go.Ground.phase }, { on := 2, ground := Go.Ground.textOnly Go.Departure.lateStores }, { on := 3, ground := Go.Ground.textOnly Go.Departure.lateStores }, { on := 4, ground := Go.Ground.phase }], guard := none }
def pr6 : Oper := { dst := none, op := Op.store 26 (Operand.tmp 8) (Operand.tmp 104), type := 0, pos := "law.go:71", after := #[{ on := 2, ground := Go.Ground.data }, { on := 5, ground := Go.Ground.chain }, { on := 0, ground := Go.Ground.phase }, { on := 1, ground := Go.Ground.phase }, { on := 2, ground := Go.Ground.phase }, { on := 3, ground := Go.Ground.textOnly Go.Departure.lateStores }, { on := 4, ground := Go.Ground.phase }, { on := 5, ground := Go.Ground.phase }], guard := none }
def pr7 : Oper := { dst := some 9, op := Op.assign (Operand.tmp 105), type := 22, pos := "law.go:71", after := #[{ on := 3, ground := Go.Ground.data }, { on := 6, ground := Go.Ground.chain }, { on := 0, ground := Go.Ground.phase }, { on := 1, ground := Go.Ground.phase }, { on := 2, ground := Go.Ground.phase }, { on := 3, ground := Go.Ground.phase }, { on := 4, ground := Go.Ground.phase }, { on := 5, ground := Go.Ground.phase }, { on := 6, ground := Go.Ground.phase }], guard := none }
def pr8 : Oper := { dst := some 10, op := Op.assign (Operand.const (Value.bool true)), type := 4, pos := "law.go:71", after := #[{ on := 7, ground := Go.Ground.chain }, { on := 0, ground := Go.Ground.phase }, { on := 1, ground := Go.Ground.phase }, { on := 2, ground := Go.Ground.phase }, { on := 3, ground := Go.Ground.phase }, { on := 4, ground := Go.Ground.phase }, { on := 5, ground := Go.Ground.phase }, { on := 6, ground := Go.Ground.phase }, { on := 7, ground := Go.Ground.phase }], guard := none }
def prs : Array Oper := #[pr0, pr1, pr2, pr3, pr4, pr5, pr6, pr7, pr8]
theorem prs_size : prs.size = 9 := rfl
set_option maxRecDepth 10000 in
theorem prs_back (i : Nat) (o : Oper) (h : prs[i]? = some o) : ∀ e ∈ o.after, Region.binds .any e = true → e.on < i := by
 have hall : ∀ j : Fin 9, ∀ e ∈ (prs[j.1]'(by have := j.2; have := prs_size; omega)).after, Region.binds .any e = true → e.on < j.1 := by decide +kernel
 obtain ⟨hi, rfl⟩ := Array.getElem?_eq_some_iff.1 h
 exact hall ⟨i, by have := prs_size; omega⟩
def prD : Nat → Nat
 | 0 => 102
 | 1 => 103
 | 2 => 104
 | 3 => 105
 | 7 => 9
 | 8 => 10
 | _ => 0
def prDs : List Nat := ([0, 1, 2, 3, 7, 8] : List Nat).map prD
set_option maxRecDepth 10000 in
theorem prD_mem : ∀ i : Fin 9, i.1 ∉ [4, 5, 6] → prD i.1 ∈ prDs ∧ prD i.1 < 106 := by decide +kernel
set_option maxRecDepth 10000 in
theorem prD_inj : ∀ i j : Fin 9, i.1 ∉ [4, 5, 6] → j.1 ∉ [4, 5, 6] → i ≠ j → prD i.1 ≠ prD j.1 := by decide +kernel
section
variable {s0 s1 s2 s3 s4 s5 o0 o1 o2 o3 o4 o5 t0 t1 t2 t3 t4 sec : Bs} {g1 g2 g3 r1 r2 r3 : Nat}
def prV (s0 s1 s2 s3 s4 s5 o0 o1 o2 o3 o4 o5 t0 t1 t2 t3 t4 sec : Bs) : Nat → Value
 | 0 => .agg #[St s0, St s1, St s2, St s3, St s4, St s5]
 | 1 => .agg #[St o0, St o1, St o2, St o3, St o4, St o5]
 | 2 => .agg #[St t0, St t1, St t2, St t3, St t4]
 | 3 => St sec
 | 7 => St sec
 | 8 => .bool true
 | _ => undef
def prW (s0 s1 s2 s3 s4 s5 o0 o1 o2 o3 o4 o5 t0 t1 t2 t3 t4 : Bs) (r1 r2 r3 : Nat) (w : World) : Nat → World
 | 0 => w
 | 1 => ((((((w.setCell ⟨r1, 0, none⟩ (St s0)).setCell ⟨r1, 1, none⟩ (St s1)).setCell ⟨r1, 2, none⟩ (St s2)).setCell ⟨r1, 3, none⟩ (St s3)).setCell ⟨r1, 4, none⟩ (St s4)).setCell ⟨r1, 5, none⟩ (St s5))
 | 2 => ((((((((((((w.setCell ⟨r1, 0, none⟩ (St s0)).setCell ⟨r1, 1, none⟩ (St s1)).setCell ⟨r1, 2, none⟩ (St s2)).setCell ⟨r1, 3, none⟩ (St s3)).setCell ⟨r1, 4, none⟩ (St s4)).setCell ⟨r1, 5, none⟩ (St s5)).setCell ⟨r2, 0, none⟩ (St o0)).setCell ⟨r2, 1, none⟩ (St o1)).setCell ⟨r2, 2, none⟩ (St o2)).setCell ⟨r2, 3, none⟩ (St o3)).setCell ⟨r2, 4, none⟩ (St o4)).setCell ⟨r2, 5, none⟩ (St o5))
 | _ => (((((((((((((((((w.setCell ⟨r1, 0, none⟩ (St s0)).setCell ⟨r1, 1, none⟩ (St s1)).setCell ⟨r1, 2, none⟩ (St s2)).setCell ⟨r1, 3, none⟩ (St s3)).setCell ⟨r1, 4, none⟩ (St s4)).setCell ⟨r1, 5, none⟩ (St s5)).setCell ⟨r2, 0, none⟩ (St o0)).setCell ⟨r2, 1, none⟩ (St o1)).setCell ⟨r2, 2, none⟩ (St o2)).setCell ⟨r2, 3, none⟩ (St o3)).setCell ⟨r2, 4, none⟩ (St o4)).setCell ⟨r2, 5, none⟩ (St o5)).setCell ⟨r3, 0, none⟩ (St t0)).setCell ⟨r3, 1, none⟩ (St t1)).setCell ⟨r3, 2, none⟩ (St t2)).setCell ⟨r3, 3, none⟩ (St t3)).setCell ⟨r3, 4, none⟩ (St t4))
theorem prW3 (w : World) : prW s0 s1 s2 s3 s4 s5 o0 o1 o2 o3 o4 o5 t0 t1 t2 t3 t4 r1 r2 r3 w 3 = (((((((((((((((((w.setCell ⟨r1, 0, none⟩ (St s0)).setCell ⟨r1, 1, none⟩ (St s1)).setCell ⟨r1, 2, none⟩ (St s2)).setCell ⟨r1, 3, none⟩ (St s3)).setCell ⟨r1, 4, none⟩ (St s4)).setCell ⟨r1, 5, none⟩ (St s5)).setCell ⟨r2, 0, none⟩ (St o0)).setCell ⟨r2, 1, none⟩ (St o1)).setCell ⟨r2, 2, none⟩ (St o2)).setCell ⟨r2, 3, none⟩ (St o3)).setCell ⟨r2, 4, none⟩ (St o4)).setCell ⟨r2, 5, none⟩ (St o5)).setCell ⟨r3, 0, none⟩ (St t0)).setCell ⟨r3, 1, none⟩ (St t1)).setCell ⟨r3, 2, none⟩ (St t2)).setCell ⟨r3, 3, none⟩ (St t3)).setCell ⟨r3, 4, none⟩ (St t4)) := rfl
structure prAt (s0 s1 s2 s3 s4 s5 o0 o1 o2 o3 o4 o5 t0 t1 t2 t3 t4 : Bs) (g1 g2 g3 r1 r2 r3 : Nat) (w : World) : Prop where
 b1 : w.heap[g1]? = some (.cells #[St s0, St s1, St s2, St s3, St s4, St s5] 24 (0, 0))
 b2 : w.heap[g2]? = some (.cells #[St o0, St o1, St o2, St o3, St o4, St o5] 24 (0, 0))
 b3 : w.heap[g3]? = some (.cells #[St t0, St t1, St t2, St t3, St t4] 26 (0, 0))
 y1 : w.heap[r1]? = some (.cells #[St [], St [], St [], St [], St [], St []] 24 (0, 0))
 y2 : w.heap[r2]? = some (.cells #[St [], St [], St [], St [], St [], St []] 24 (0, 0))
 y3 : w.heap[r3]? = some (.cells #[St [], St [], St [], St [], St []] 26 (0, 0))
 n1 : g1 ≠ r1 ∧ g1 ≠ r2 ∧ g1 ≠ r3
 n2 : g2 ≠ r1 ∧ g2 ≠ r2 ∧ g2 ≠ r3
 n3 : g3 ≠ r1 ∧ g3 ≠ r2 ∧ g3 ≠ r3
 n4 : r2 ≠ r1 ∧ r3 ≠ r1 ∧ r3 ≠ r2
theorem set_off {w : World} {r q g : Nat} {v : Value} (h : g ≠ r) : (w.setCell ⟨r, q, none⟩ v).heap[g]? = w.heap[g]? := Below.heap_setCell _ _ _ _ h
theorem prW_off (w : World) (g : Nat) (h : g ≠ r1 ∧ g ≠ r2 ∧ g ≠ r3) : ∀ k, prW s0 s1 s2 s3 s4 s5 o0 o1 o2 o3 o4 o5 t0 t1 t2 t3 t4 r1 r2 r3 w k |>.heap[g]? = w.heap[g]?
 | 0 => rfl
 | 1 => by show (((((((w.setCell ⟨r1, 0, none⟩ (St s0)).setCell ⟨r1, 1, none⟩ (St s1)).setCell ⟨r1, 2, none⟩ (St s2)).setCell ⟨r1, 3, none⟩ (St s3)).setCell ⟨r1, 4, none⟩ (St s4)).setCell ⟨r1, 5, none⟩ (St s5))).heap[g]? = _; rw [set_off h.1, set_off h.1, set_off h.1, set_off h.1, set_off h.1, set_off h.1]
 | 2 => by show (((((((((((((w.setCell ⟨r1, 0, none⟩ (St s0)).setCell ⟨r1, 1, none⟩ (St s1)).setCell ⟨r1, 2, none⟩ (St s2)).setCell ⟨r1, 3, none⟩ (St s3)).setCell ⟨r1, 4, none⟩ (St s4)).setCell ⟨r1, 5, none⟩ (St s5)).setCell ⟨r2, 0, none⟩ (St o0)).setCell ⟨r2, 1, none⟩ (St o1)).setCell ⟨r2, 2, none⟩ (St o2)).setCell ⟨r2, 3, none⟩ (St o3)).setCell ⟨r2, 4, none⟩ (St o4)).setCell ⟨r2, 5, none⟩ (St o5))).heap[g]? = _; rw [set_off h.2.1, set_off h.2.1, set_off h.2.1, set_off h.2.1, set_off h.2.1, set_off h.2.1, set_off h.1, set_off h.1, set_off h.1, set_off h.1, set_off h.1, set_off h.1]
 | k + 3 => by show ((((((((((((((((((w.setCell ⟨r1, 0, none⟩ (St s0)).setCell ⟨r1, 1, none⟩ (St s1)).setCell ⟨r1, 2, none⟩ (St s2)).setCell ⟨r1, 3, none⟩ (St s3)).setCell ⟨r1, 4, none⟩ (St s4)).setCell ⟨r1, 5, none⟩ (St s5)).setCell ⟨r2, 0, none⟩ (St o0)).setCell ⟨r2, 1, none⟩ (St o1)).setCell ⟨r2, 2, none⟩ (St o2)).setCell ⟨r2, 3, none⟩ (St o3)).setCell ⟨r2, 4, none⟩ (St o4)).setCell ⟨r2, 5, none⟩ (St o5)).setCell ⟨r3, 0, none⟩ (St t0)).setCell ⟨r3, 1, none⟩ (St t1)).setCell ⟨r3, 2, none⟩ (St t2)).setCell ⟨r3, 3, none⟩ (St t3)).setCell ⟨r3, 4, none⟩ (St t4))).heap[g]? = _; rw [set_off h.2.2, set_off h.2.2, set_off h.2.2, set_off h.2.2, set_off h.2.2, set_off h.2.1, set_off h.2.1, set_off h.2.1, set_off h.2.1, set_off h.2.1, set_off h.2.1, set_off h.1, set_off h.1, set_off h.1, set_off h.1, set_off h.1, set_off h.1]
theorem prx0 (a : Act) (w : World) (h0 : gt a 15 = .pointer (some ⟨g1, 0, none⟩)) (hb : w.heap[g1]? = some (.cells #[St s0, St s1, St s2, St s3, St s4, St s5] 24 (0, 0))) : (execOp a.eval pr0).run Tryz.prog w = .ok (.value (.agg #[St s0, St s1, St s2, St s3, St s4, St s5])) w := by
 have e0 := gt_eq h0
 have c0 : w.cell? ⟨g1, 0, none⟩ = some (St s0) := by rw [cell_of_heap hb]; rfl
 have c1 : w.cell? ⟨g1, 1, none⟩ = some (St s1) := by rw [cell_of_heap hb]; rfl
 have c2 : w.cell? ⟨g1, 2, none⟩ = some (St s2) := by rw [cell_of_heap hb]; rfl
 have c3 : w.cell? ⟨g1, 3, none⟩ = some (St s3) := by rw [cell_of_heap hb]; rfl
 have c4 : w.cell? ⟨g1, 4, none⟩ = some (St s4) := by rw [cell_of_heap hb]; rfl
 have c5 : w.cell? ⟨g1, 5, none⟩ = some (St s5) := by rw [cell_of_heap hb]; rfl
 clear h0 hb
 simp only [execOp, pr0]
 go_simp
theorem prx1 (a : Act) (w : World) (h0 : gt a 17 = .pointer (some ⟨g2, 0, none⟩)) (hb : w.heap[g2]? = some (.cells #[St o0, St o1, St o2, St o3, St o4, St o5] 24 (0, 0))) : (execOp a.eval pr1).run Tryz.prog w = .ok (.value (.agg #[St o0, St o1, St o2, St o3, St o4, St o5])) w := by
 have e0 := gt_eq h0
 have c0 : w.cell? ⟨g2, 0, none⟩ = some (St o0) := by rw [cell_of_heap hb]; rfl
 have c1 : w.cell? ⟨g2, 1, none⟩ = some (St o1) := by rw [cell_of_heap hb]; rfl
 have c2 : w.cell? ⟨g2, 2, none⟩ = some (St o2) := by rw [cell_of_heap hb]; rfl
 have c3 : w.cell? ⟨g2, 3, none⟩ = some (St o3) := by rw [cell_of_heap hb]; rfl
 have c4 : w.cell? ⟨g2, 4, none⟩ = some (St o4) := by rw [cell_of_heap hb]; rfl
 have c5 : w.cell? ⟨g2, 5, none⟩ = some (St o5) := by rw [cell_of_heap hb]; rfl
 clear h0 hb
 simp only [execOp, pr1]
 go_simp
theorem prx2 (a : Act) (w : World) (h0 : gt a 27 = .pointer (some ⟨g3, 0, none⟩)) (hb : w.heap[g3]? = some (.cells #[St t0, St t1, St t2, St t3, St t4] 26 (0, 0))) : (execOp a.eval pr2).run Tryz.prog w = .ok (.value (.agg #[St t0, St t1, St t2, St t3, St t4])) w := by
 have e0 := gt_eq h0
 have c0 : w.cell? ⟨g3, 0, none⟩ = some (St t0) := by rw [cell_of_heap hb]; rfl
 have c1 : w.cell? ⟨g3, 1, none⟩ = some (St t1) := by rw [cell_of_heap hb]; rfl
 have c2 : w.cell? ⟨g3, 2, none⟩ = some (St t2) := by rw [cell_of_heap hb]; rfl
 have c3 : w.cell? ⟨g3, 3, none⟩ = some (St t3) := by rw [cell_of_heap hb]; rfl
 have c4 : w.cell? ⟨g3, 4, none⟩ = some (St t4) := by rw [cell_of_heap hb]; rfl
 clear h0 hb
 simp only [execOp, pr2]
 go_simp
theorem prx3 (a : Act) (w : World) (h0 : gt a 23 = St sec) : (execOp a.eval pr3).run Tryz.prog w = .ok (.value (St sec)) w := by
 have e0 := gt_eq h0
 clear h0
 simp only [execOp, pr3]
 go_simp
theorem prx7 (a : Act) (w : World) (h0 : gt a 105 = St sec) : (execOp a.eval pr7).run Tryz.prog w = .ok (.value (St sec)) w := by
 have e0 := gt_eq h0
 clear h0
 simp only [execOp, pr7]
 go_simp
theorem prx8 (a : Act) (w : World) : (execOp a.eval pr8).run Tryz.prog w = .ok (.value (.bool true)) w := by
 simp only [execOp, pr8]
 go_simp
theorem prz0 (a : Act) (w : World) (h0 : gt a 6 = .pointer (some ⟨r1, 0, none⟩)) (h1 : gt a 102 = .agg #[St s0, St s1, St s2, St s3, St s4, St s5]) (hb : w.heap[r1]? = some (.cells #[St [], St [], St [], St [], St [], St []] 24 (0, 0))) : (execOp a.eval pr4).run Tryz.prog w = .ok .skip ((((((w.setCell ⟨r1, 0, none⟩ (St s0)).setCell ⟨r1, 1, none⟩ (St s1)).setCell ⟨r1, 2, none⟩ (St s2)).setCell ⟨r1, 3, none⟩ (St s3)).setCell ⟨r1, 4, none⟩ (St s4)).setCell ⟨r1, 5, none⟩ (St s5)) := by
 have e0 := gt_eq h0
 have e1 := gt_eq h1
 have c0 : w.cell? ⟨r1, 0, none⟩ = some (St []) := by rw [cell_of_heap hb]; rfl
 have c1 : w.cell? ⟨r1, 1, none⟩ = some (St []) := by rw [cell_of_heap hb]; rfl
 have c2 : w.cell? ⟨r1, 2, none⟩ = some (St []) := by rw [cell_of_heap hb]; rfl
 have c3 : w.cell? ⟨r1, 3, none⟩ = some (St []) := by rw [cell_of_heap hb]; rfl
 have c4 : w.cell? ⟨r1, 4, none⟩ = some (St []) := by rw [cell_of_heap hb]; rfl
 have c5 : w.cell? ⟨r1, 5, none⟩ = some (St []) := by rw [cell_of_heap hb]; rfl
 have f : ∀ o, w.frozen? ⟨r1, o, none⟩ = false := fun o => frozen_of_heap hb o
 clear h0 h1 hb
 simp only [execOp, pr4]
 go_simp
theorem prz1 (a : Act) (w : World) (h0 : gt a 7 = .pointer (some ⟨r2, 0, none⟩)) (h1 : gt a 103 = .agg #[St o0, St o1, St o2, St o3, St o4, St o5]) (hb : w.heap[r2]? = some (.cells #[St [], St [], St [], St [], St [], St []] 24 (0, 0))) : (execOp a.eval pr5).run Tryz.prog w = .ok .skip ((((((w.setCell ⟨r2, 0, none⟩ (St o0)).setCell ⟨r2, 1, none⟩ (St o1)).setCell ⟨r2, 2, none⟩ (St o2)).setCell ⟨r2, 3, none⟩ (St o3)).setCell ⟨r2, 4, none⟩ (St o4)).setCell ⟨r2, 5, none⟩ (St o5)) := by
 have e0 := gt_eq h0
 have e1 := gt_eq h1
 have c0 : w.cell? ⟨r2, 0, none⟩ = some (St []) := by rw [cell_of_heap hb]; rfl
 have c1 : w.cell? ⟨r2, 1, none⟩ = some (St []) := by rw [cell_of_heap hb]; rfl
 have c2 : w.cell? ⟨r2, 2, none⟩ = some (St []) := by rw [cell_of_heap hb]; rfl
 have c3 : w.cell? ⟨r2, 3, none⟩ = some (St []) := by rw [cell_of_heap hb]; rfl
 have c4 : w.cell? ⟨r2, 4, none⟩ = some (St []) := by rw [cell_of_heap hb]; rfl
 have c5 : w.cell? ⟨r2, 5, none⟩ = some (St []) := by rw [cell_of_heap hb]; rfl
 have f : ∀ o, w.frozen? ⟨r2, o, none⟩ = false := fun o => frozen_of_heap hb o
 clear h0 h1 hb
 simp only [execOp, pr5]
 go_simp
theorem prz2 (a : Act) (w : World) (h0 : gt a 8 = .pointer (some ⟨r3, 0, none⟩)) (h1 : gt a 104 = .agg #[St t0, St t1, St t2, St t3, St t4]) (hb : w.heap[r3]? = some (.cells #[St [], St [], St [], St [], St []] 26 (0, 0))) : (execOp a.eval pr6).run Tryz.prog w = .ok .skip (((((w.setCell ⟨r3, 0, none⟩ (St t0)).setCell ⟨r3, 1, none⟩ (St t1)).setCell ⟨r3, 2, none⟩ (St t2)).setCell ⟨r3, 3, none⟩ (St t3)).setCell ⟨r3, 4, none⟩ (St t4)) := by
 have e0 := gt_eq h0
 have e1 := gt_eq h1
 have c0 : w.cell? ⟨r3, 0, none⟩ = some (St []) := by rw [cell_of_heap hb]; rfl
 have c1 : w.cell? ⟨r3, 1, none⟩ = some (St []) := by rw [cell_of_heap hb]; rfl
 have c2 : w.cell? ⟨r3, 2, none⟩ = some (St []) := by rw [cell_of_heap hb]; rfl
 have c3 : w.cell? ⟨r3, 3, none⟩ = some (St []) := by rw [cell_of_heap hb]; rfl
 have c4 : w.cell? ⟨r3, 4, none⟩ = some (St []) := by rw [cell_of_heap hb]; rfl
 have f : ∀ o, w.frozen? ⟨r3, o, none⟩ = false := fun o => frozen_of_heap hb o
 clear h0 h1 hb
 simp only [execOp, pr6]
 go_simp
set_option maxRecDepth 10000 in
theorem prreg {Q : Exit → Act → World → Prop} {a0 : Act} {w : World} (p1 : gt a0 15 = .pointer (some ⟨g1, 0, none⟩)) (p2 : gt a0 17 = .pointer (some ⟨g2, 0, none⟩)) (p3 : gt a0 27 = .pointer (some ⟨g3, 0, none⟩)) (p4 : gt a0 23 = St sec)
   (q1 : gt a0 6 = .pointer (some ⟨r1, 0, none⟩)) (q2 : gt a0 7 = .pointer (some ⟨r2, 0, none⟩)) (q3 : gt a0 8 = .pointer (some ⟨r3, 0, none⟩)) (hsz : 106 ≤ a0.tmps.size) (hat : prAt s0 s1 s2 s3 s4 s5 o0 o1 o2 o3 o4 o5 t0 t1 t2 t3 t4 g1 g2 g3 r1 r2 r3 w)
   (hQ : ∀ a : Act, Off prDs a0 a → gt a 9 = St sec → gt a 10 = .bool true → Q .normal a (prW s0 s1 s2 s3 s4 s5 o0 o1 o2 o3 o4 o5 t0 t1 t2 t3 t4 r1 r2 r3 w.drew 3)) : (Code.region 16 prs true).wp Tryz.prog Q a0 w := by
 have hat2 : prAt s0 s1 s2 s3 s4 s5 o0 o1 o2 o3 o4 o5 t0 t1 t2 t3 t4 g1 g2 g3 r1 r2 r3 w.drew := ⟨hat.b1, hat.b2, hat.b3, hat.y1, hat.y2, hat.y3, hat.n1, hat.n2, hat.n3, hat.n4⟩
 generalize hv : w.drew = v at hat2 hQ
 refine region_puts prDs prD (prV s0 s1 s2 s3 s4 s5 o0 o1 o2 o3 o4 o5 t0 t1 t2 t3 t4 sec) [4, 5, 6] (prW s0 s1 s2 s3 s4 s5 o0 o1 o2 o3 o4 o5 t0 t1 t2 t3 t4 r1 r2 r3 v) rfl hv.symm prs_back (fun i hi hn => ⟨(prD_mem ⟨i, hi⟩ hn).1, Nat.lt_of_lt_of_le (prD_mem ⟨i, hi⟩ hn).2 hsz⟩) (fun i j hi hj h1 h2 h => prD_inj ⟨i, hi⟩ ⟨j, hj⟩ h1 h2 (fun e => h (congrArg Fin.val e))) (by decide) (by decide) ?_ ?_ ?_ (fun a ho hv => hQ a ho (hv 7 (by decide) (by decide)) (hv 8 (by decide) (by decide)))
 · intro j hj o ho
   match j, hj with
   | 0, _ => cases ho; exact ⟨{ on := 4, ground := Go.Ground.chain }, (show _ ∈ (pr5).after by simp [pr5]), by decide, rfl⟩
   | 1, _ => cases ho; exact ⟨{ on := 5, ground := Go.Ground.chain }, (show _ ∈ (pr6).after by simp [pr6]), by decide, rfl⟩
 · intro i o a k h hi hk ho hd
   match i, h, hi with
   | 0, h, hi => cases h; exact op_ok (i := 0) (o := pr0) rfl rfl (prx0 a _ ((ho.slot (by decide)).trans p1) ((prW_off v g1 hat2.n1 k).trans hat2.b1)) ⟨rfl, rfl⟩
   | 1, h, hi => cases h; exact op_ok (i := 1) (o := pr1) rfl rfl (prx1 a _ ((ho.slot (by decide)).trans p2) ((prW_off v g2 hat2.n2 k).trans hat2.b2)) ⟨rfl, rfl⟩
   | 2, h, hi => cases h; exact op_ok (i := 2) (o := pr2) rfl rfl (prx2 a _ ((ho.slot (by decide)).trans p3) ((prW_off v g3 hat2.n3 k).trans hat2.b3)) ⟨rfl, rfl⟩
   | 3, h, hi => cases h; exact op_ok (i := 3) (o := pr3) rfl rfl (prx3 a _ ((ho.slot (by decide)).trans p4)) ⟨rfl, rfl⟩
   | 4, h, hi => exact absurd (by decide) hi
   | 5, h, hi => exact absurd (by decide) hi
   | 6, h, hi => exact absurd (by decide) hi
   | 7, h, hi => cases h; exact op_ok (i := 7) (o := pr7) rfl rfl (prx7 a _ (hd { on := 3, ground := Go.Ground.data } (show _ ∈ (pr7).after by simp [pr7]) (by decide) (by decide))) ⟨rfl, rfl⟩
   | 8, h, hi => cases h; exact op_ok (i := 8) (o := pr8) rfl rfl (prx8 a _) ⟨rfl, rfl⟩
   | n + 9, h, hi => simp [prs] at h
 · intro j hj o a h ho hd
   match j, hj with
   | 0, _ => cases h; exact op_skip (i := 4) (o := pr4) rfl rfl (prz0 a _ ((ho.slot (by decide)).trans q1) (hd { on := 0, ground := Go.Ground.data } (show _ ∈ (pr4).after by simp [pr4]) (by decide) (by decide)) hat2.y1) ⟨rfl, rfl⟩
   | 1, _ =>
     cases h
     exact op_skip (i := 5) (o := pr5) rfl rfl (prz1 a _ ((ho.slot (by decide)).trans q2) (hd { on := 1, ground := Go.Ground.data } (show _ ∈ (pr5).after by simp [pr5]) (by decide) (by decide)) (by
       show (((((((v.setCell ⟨r1, 0, none⟩ (St s0)).setCell ⟨r1, 1, none⟩ (St s1)).setCell ⟨r1, 2, none⟩ (St s2)).setCell ⟨r1, 3, none⟩ (St s3)).setCell ⟨r1, 4, none⟩ (St s4)).setCell ⟨r1, 5, none⟩ (St s5))).heap[r2]? = _
       rw [set_off hat2.n4.1, set_off hat2.n4.1, set_off hat2.n4.1, set_off hat2.n4.1, set_off hat2.n4.1, set_off hat2.n4.1]
       exact hat2.y2)) ⟨rfl, rfl⟩
   | 2, _ =>
     cases h
     exact op_skip (i := 6) (o := pr6) rfl rfl (prz2 a _ ((ho.slot (by decide)).trans q3) (hd { on := 2, ground := Go.Ground.data } (show _ ∈ (pr6).after by simp [pr6]) (by decide) (by decide)) (by
       show (((((((((((((v.setCell ⟨r1, 0, none⟩ (St s0)).setCell ⟨r1, 1, none⟩ (St s1)).setCell ⟨r1, 2, none⟩ (St s2)).setCell ⟨r1, 3, none⟩ (St s3)).setCell ⟨r1, 4, none⟩ (St s4)).setCell ⟨r1, 5, none⟩ (St s5)).setCell ⟨r2, 0, none⟩ (St o0)).setCell ⟨r2, 1, none⟩ (St o1)).setCell ⟨r2, 2, none⟩ (St o2)).setCell ⟨r2, 3, none⟩ (St o3)).setCell ⟨r2, 4, none⟩ (St o4)).setCell ⟨r2, 5, none⟩ (St o5))).heap[r3]? = _
       rw [set_off hat2.n4.2.2, set_off hat2.n4.2.2, set_off hat2.n4.2.2, set_off hat2.n4.2.2, set_off hat2.n4.2.2, set_off hat2.n4.2.2, set_off hat2.n4.2.1, set_off hat2.n4.2.1, set_off hat2.n4.2.1, set_off hat2.n4.2.1, set_off hat2.n4.2.1, set_off hat2.n4.2.1]
       exact hat2.y3)) ⟨rfl, rfl⟩
end
end Go.Proofs.YtkifchjpgdmcoaaGreatDoor
