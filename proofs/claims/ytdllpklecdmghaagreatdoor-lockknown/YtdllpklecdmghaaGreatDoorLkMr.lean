/- Two locks put together in all and in any, whatever order is drawn. -/
import Derived.Test.YtdllpklecdmghaaGreatDoorKnAAll
namespace Go.Proofs.YtdllpklecdmghaaGreatDoor
open Go.RowKit
open Lk (Lt)
def km0 : Oper := { dst := some 114, op := Op.load 25 (Operand.tmp 8), type := 25, pos := "outright.go:50", after := #[], guard := none }
def km1 : Oper := { dst := some 115, op := Op.load 25 (Operand.tmp 9), type := 25, pos := "outright.go:50", after := #[], guard := none }
def km2 : Oper := { dst := some 116, op := Op.buildSlice 23 2 #[(0, Operand.tmp 114), (1, Operand.tmp 115)], type := 23, pos := "outright.go:50", after := #[{ on := 0, ground := Ground.data }, { on := 1, ground := Ground.data }], guard := none }
def km3 : Oper := { dst := some 117, op := Op.call { callee := Callee.value (Operand.func 23), args := #[Operand.tmp 116], argTypes := #[23] }, type := 25, pos := "outright.go:50", after := #[{ on := 2, ground := Ground.data }], guard := none }
def km4 : Oper := { dst := some 118, op := Op.load 25 (Operand.tmp 8), type := 25, pos := "outright.go:50", after := #[], guard := none }
def km5 : Oper := { dst := some 119, op := Op.load 25 (Operand.tmp 9), type := 25, pos := "outright.go:50", after := #[], guard := none }
def km6 : Oper := { dst := some 120, op := Op.buildSlice 23 2 #[(0, Operand.tmp 118), (1, Operand.tmp 119)], type := 23, pos := "outright.go:50", after := #[{ on := 4, ground := Ground.data }, { on := 5, ground := Ground.data }], guard := none }
def km7 : Oper := { dst := some 121, op := Op.call { callee := Callee.value (Operand.func 27), args := #[Operand.tmp 120], argTypes := #[23] }, type := 25, pos := "outright.go:50", after := #[{ on := 6, ground := Ground.data }, { on := 3, ground := Ground.chain }], guard := none }
def km8 : Oper := { dst := some 21, op := Op.alloc 25, type := 0, pos := "outright.go:50", after := #[], guard := none }
def km9 : Oper := { dst := some 22, op := Op.alloc 25, type := 0, pos := "outright.go:50", after := #[], guard := none }
def km10 : Oper := { dst := none, op := Op.store 25 (Operand.tmp 21) (Operand.tmp 117), type := 0, pos := "outright.go:50", after := #[{ on := 8, ground := Ground.data }, { on := 3, ground := Ground.data }, { on := 7, ground := Ground.chain }, { on := 0, ground := Ground.phase }, { on := 1, ground := Ground.phase }, { on := 2, ground := Ground.phase }, { on := 3, ground := Ground.phase }, { on := 4, ground := Ground.textOnly Departure.lateStores }, { on := 5, ground := Ground.textOnly Departure.lateStores }, { on := 6, ground := Ground.textOnly Departure.lateStores }, { on := 7, ground := Ground.textOnly Departure.lateStoresUnsure }, { on := 8, ground := Ground.phase }, { on := 9, ground := Ground.phase }], guard := none }
def km11 : Oper := { dst := none, op := Op.store 25 (Operand.tmp 22) (Operand.tmp 121), type := 0, pos := "outright.go:50", after := #[{ on := 9, ground := Ground.data }, { on := 7, ground := Ground.data }, { on := 10, ground := Ground.chain }, { on := 0, ground := Ground.phase }, { on := 1, ground := Ground.phase }, { on := 2, ground := Ground.phase }, { on := 3, ground := Ground.phase }, { on := 4, ground := Ground.phase }, { on := 5, ground := Ground.phase }, { on := 6, ground := Ground.phase }, { on := 7, ground := Ground.phase }, { on := 8, ground := Ground.phase }, { on := 9, ground := Ground.phase }, { on := 10, ground := Ground.phase }], guard := none }
def kms : Array Oper := #[km0, km1, km2, km3, km4, km5, km6, km7, km8, km9, km10, km11]
theorem kms_get (i : Nat) (o : Oper) (h : kms[i]? = some o) : (i = 0 ∧ o = km0) ∨ (i = 1 ∧ o = km1) ∨ (i = 2 ∧ o = km2) ∨ (i = 3 ∧ o = km3) ∨ (i = 4 ∧ o = km4) ∨ (i = 5 ∧ o = km5) ∨ (i = 6 ∧ o = km6) ∨ (i = 7 ∧ o = km7) ∨ (i = 8 ∧ o = km8) ∨ (i = 9 ∧ o = km9) ∨ (i = 10 ∧ o = km10) ∨ (i = 11 ∧ o = km11) := by
  match i, h with
  | 0, h | 1, h | 2, h | 3, h | 4, h | 5, h | 6, h | 7, h | 8, h | 9, h | 10, h | 11, h => exact (by cases h; first | exact .inl ⟨rfl, rfl⟩ | (refine .inr ?_; first | exact .inl ⟨rfl, rfl⟩ | (refine .inr ?_; first | exact .inl ⟨rfl, rfl⟩ | (refine .inr ?_; first | exact .inl ⟨rfl, rfl⟩ | (refine .inr ?_; first | exact .inl ⟨rfl, rfl⟩ | (refine .inr ?_; first | exact .inl ⟨rfl, rfl⟩ | (refine .inr ?_; first | exact .inl ⟨rfl, rfl⟩ | (refine .inr ?_; first | exact .inl ⟨rfl, rfl⟩ | (refine .inr ?_; first | exact .inl ⟨rfl, rfl⟩ | (refine .inr ?_; first | exact .inl ⟨rfl, rfl⟩ | (refine .inr ?_; first | exact .inl ⟨rfl, rfl⟩ | (refine .inr ?_; exact ⟨rfl, rfl⟩))))))))))))
  | n + 12, h => simp [kms] at h
theorem kms_back (i : Nat) (o : Oper) (h : kms[i]? = some o) : ∀ e ∈ o.after, e.on < i := by
  rcases kms_get i o h with ⟨rfl, rfl⟩ | ⟨rfl, rfl⟩ | ⟨rfl, rfl⟩ | ⟨rfl, rfl⟩ | ⟨rfl, rfl⟩ | ⟨rfl, rfl⟩ | ⟨rfl, rfl⟩ | ⟨rfl, rfl⟩ | ⟨rfl, rfl⟩ | ⟨rfl, rfl⟩ | ⟨rfl, rfl⟩ | ⟨rfl, rfl⟩ <;> decide
def gt (a : Act) (d : Nat) : Value := a.tmps.getD d undef
theorem ev_tmp (a : Act) (d : Nat) : a.eval (.tmp d) = gt a d := rfl
theorem gt_eq {a : Act} {d : Nat} {v : Value} (h : gt a d = v) : a.tmps[d]?.getD undef = v := by simpa [gt] using h
abbrev sv (g n : Nat) : Value := .slice (some ⟨g, 0, none⟩) n n
abbrev z4 : Array Value := #[.int .u8 0, .string ⟨#[]⟩, .int .i64 0, .slice none 0 0]
abbrev l5 (a : Option Addr) (c : Nat) : Array Value := #[.int .u8 5, .string ⟨#[]⟩, .int .i64 0, .slice a 2 c]
abbrev l6 (a : Option Addr) (c : Nat) : Array Value := #[.int .u8 6, .string ⟨#[]⟩, .int .i64 0, .slice a 2 c]
structure Gh where
  g2 : Nat
  g6 : Nat
  a3 : Option Addr
  c3 : Nat
  lo3 : Nat
  hi3 : Nat
  a7 : Option Addr
  c7 : Nat
  lo7 : Nat
  hi7 : Nat
  p8 : Nat
  p9 : Nat
section
variable (B D : Nat) (ks : List Lt) (LA LB : Array Value) (C8 : Array Value)
def Fm (G : Gh) : Nat → (Nat → Value) → World → Prop
  | 0, s, _ => s 114 = .agg LA
  | 1, s, _ => s 115 = .agg LB
  | 2, s, w => s 116 = sv G.g2 2 ∧ B ≤ G.g2 ∧ w.heap[G.g2]? = some (.cells C8 25 (0, 0))
  | 3, s, w => s 117 = .agg (l5 G.a3 G.c3) ∧ Kd (fun h => G.lo3 ≤ h ∧ h < G.hi3) w D (.slice G.a3 2 G.c3) ks ∧ G.hi3 ≤ w.heap.size
  | 4, s, _ => s 118 = .agg LA
  | 5, s, _ => s 119 = .agg LB
  | 6, s, w => s 120 = sv G.g6 2 ∧ B ≤ G.g6 ∧ w.heap[G.g6]? = some (.cells C8 25 (0, 0))
  | 7, s, w => s 121 = .agg (l6 G.a7 G.c7) ∧ Kd (fun h => G.lo7 ≤ h ∧ h < G.hi7) w D (.slice G.a7 2 G.c7) ks ∧ G.hi7 ≤ w.heap.size
  | 8, s, w => s 21 = .pointer (some ⟨G.p8, 0, none⟩) ∧ B ≤ G.p8 ∧ w.heap[G.p8]? = some (.cells z4 25 (0, 0))
  | 9, s, w => s 22 = .pointer (some ⟨G.p9, 0, none⟩) ∧ B ≤ G.p9 ∧ w.heap[G.p9]? = some (.cells z4 25 (0, 0))
  | _, _, _ => True
end
def kso : Nat → Nat
  | 0 => 114 | 1 => 115 | 2 => 116 | 3 => 117 | 4 => 118 | 5 => 119 | 6 => 120 | 7 => 121 | 8 => 21 | _ => 22
def Kds : List Nat := [114, 115, 116, 117, 118, 119, 120, 121, 21, 22]
theorem kso_ne {i j : Nat} (hi : i < 10) (hj : j < 10) (h : i ≠ j) : kso i ≠ kso j := by
  have : ∀ i : Fin 10, ∀ j : Fin 10, i ≠ j → kso i.1 ≠ kso j.1 := by decide
  exact this ⟨i, hi⟩ ⟨j, hj⟩ (fun e => h (congrArg Fin.val e))
theorem kso_mem {i : Nat} (hi : i < 10) : kso i ∈ Kds := by
  have : ∀ i : Fin 10, kso i.1 ∈ Kds := by decide
  exact this ⟨i, hi⟩
theorem Fm.keep {B D : Nat} {ks : List Lt} {LA LB C8 : Array Value} {G : Gh} {j : Nat} {s s' : Nat → Value} {w w' : World} (h : Fm B D ks LA LB C8 G j s w) (hs : s' (kso j) = s (kso j)) (hB : Below w.heap.size w w') : Fm B D ks LA LB C8 G j s' w' := by
  match j, h with
  | 0, h => exact (show s' 114 = s 114 from hs).trans h
  | 1, h => exact (show s' 115 = s 115 from hs).trans h
  | 2, ⟨h1, h2, h3⟩ => exact ⟨(show s' 116 = s 116 from hs).trans h1, h2, (hB.block _ (lt_of_heap h3)).trans h3⟩
  | 3, ⟨h1, h2, h3⟩ => exact ⟨(show s' 117 = s 117 from hs).trans h1, h2.low hB, Nat.le_trans h3 hB.size⟩
  | 4, h => exact (show s' 118 = s 118 from hs).trans h
  | 5, h => exact (show s' 119 = s 119 from hs).trans h
  | 6, ⟨h1, h2, h3⟩ => exact ⟨(show s' 120 = s 120 from hs).trans h1, h2, (hB.block _ (lt_of_heap h3)).trans h3⟩
  | 7, ⟨h1, h2, h3⟩ => exact ⟨(show s' 121 = s 121 from hs).trans h1, h2.low hB, Nat.le_trans h3 hB.size⟩
  | 8, ⟨h1, h2, h3⟩ => exact ⟨(show s' 21 = s 21 from hs).trans h1, h2, (hB.block _ (lt_of_heap h3)).trans h3⟩
  | 9, ⟨h1, h2, h3⟩ => exact ⟨(show s' 22 = s 22 from hs).trans h1, h2, (hB.block _ (lt_of_heap h3)).trans h3⟩
  | n + 10, _ => trivial
abbrev dn (l : Array Bool) (i : Nat) : Prop := l.getD i false = true
structure Apt (G : Gh) (l : Array Bool) : Prop where
  a83 : dn l 8 → dn l 3 → G.p8 < G.lo3 ∨ G.hi3 ≤ G.p8
  a87 : dn l 8 → dn l 7 → G.p8 < G.lo7 ∨ G.hi7 ≤ G.p8
  a93 : dn l 9 → dn l 3 → G.p9 < G.lo3 ∨ G.hi3 ≤ G.p9
  a97 : dn l 9 → dn l 7 → G.p9 < G.lo7 ∨ G.hi7 ≤ G.p9
  a89 : dn l 8 → dn l 9 → G.p8 ≠ G.p9
  c76 : dn l 7 → dn l 6
  c64 : dn l 6 → dn l 4 ∧ dn l 5
theorem dn_set {l : Array Bool} {i j : Nat} (h : i ≠ j) (hd : dn (l.setIfInBounds i true) j) : dn l j := by rw [dn, getD_set_other h] at hd; exact hd
theorem dn_up {l : Array Bool} {i j : Nat} (h : dn l j) : dn (l.setIfInBounds i true) j := by
  by_cases e : i = j
  · subst e
    rcases Nat.lt_or_ge i l.size with h' | h'
    · simp [dn, h']
    · rw [dn] at h
      simp [Array.getElem?_eq_none h'] at h
  · rw [dn, getD_set_other e]; exact h
structure Fin6 (B D : Nat) (ks : List Lt) (w0 w : World) (p q : Nat) (a : Option Addr) (c : Nat) (a' : Option Addr) (c' : Nat) : Prop where
  bel : Below w0.heap.size w0 w
  pb : w.heap[p]? = some (.cells (l5 a c) 25 (0, 0))
  qb : w.heap[q]? = some (.cells (l6 a' c') 25 (0, 0))
  pk : Kd (fun _ => True) w D (.slice a 2 c) ks
  qk : Kd (fun _ => True) w D (.slice a' 2 c') ks
theorem ex0 {ka : Nat} {ta : Bs} {na : Int} {aa : Option Addr} {ma ca : Nat} (a : Act) (W : World) {g : Nat} (h : gt a 8 = .pointer (some ⟨g, 0, none⟩)) (c : W.cell? ⟨g, 0, none⟩ = some (.int .u8 (ka : Int)) ∧ W.cell? ⟨g, 1, none⟩ = some (St ta) ∧ W.cell? ⟨g, 2, none⟩ = some (.int .i64 na) ∧ W.cell? ⟨g, 3, none⟩ = some (.slice aa ma ca)) : (execOp a.eval km0).run Tryz.prog W = .ok (.value (.agg #[.int .u8 (ka : Int), St ta, .int .i64 na, .slice aa ma ca])) W := by
  have h1 := gt_eq h
  obtain ⟨c0, c1, c2, c3⟩ := c
  clear h
  simp only [execOp, km0]
  go_simp
theorem ex1 {kb : Nat} {tb : Bs} {nb : Int} {ba : Option Addr} {mb cb : Nat} (a : Act) (W : World) {g : Nat} (h : gt a 9 = .pointer (some ⟨g, 0, none⟩)) (c : W.cell? ⟨g, 0, none⟩ = some (.int .u8 (kb : Int)) ∧ W.cell? ⟨g, 1, none⟩ = some (St tb) ∧ W.cell? ⟨g, 2, none⟩ = some (.int .i64 nb) ∧ W.cell? ⟨g, 3, none⟩ = some (.slice ba mb cb)) : (execOp a.eval km1).run Tryz.prog W = .ok (.value (.agg #[.int .u8 (kb : Int), St tb, .int .i64 nb, .slice ba mb cb])) W := by
  have h1 := gt_eq h
  obtain ⟨c0, c1, c2, c3⟩ := c
  clear h
  simp only [execOp, km1]
  go_simp
theorem ex4 {ka : Nat} {ta : Bs} {na : Int} {aa : Option Addr} {ma ca : Nat} (a : Act) (W : World) {g : Nat} (h : gt a 8 = .pointer (some ⟨g, 0, none⟩)) (c : W.cell? ⟨g, 0, none⟩ = some (.int .u8 (ka : Int)) ∧ W.cell? ⟨g, 1, none⟩ = some (St ta) ∧ W.cell? ⟨g, 2, none⟩ = some (.int .i64 na) ∧ W.cell? ⟨g, 3, none⟩ = some (.slice aa ma ca)) : (execOp a.eval km4).run Tryz.prog W = .ok (.value (.agg #[.int .u8 (ka : Int), St ta, .int .i64 na, .slice aa ma ca])) W := by
  have h1 := gt_eq h
  obtain ⟨c0, c1, c2, c3⟩ := c
  clear h
  simp only [execOp, km4]
  go_simp
theorem ex5 {kb : Nat} {tb : Bs} {nb : Int} {ba : Option Addr} {mb cb : Nat} (a : Act) (W : World) {g : Nat} (h : gt a 9 = .pointer (some ⟨g, 0, none⟩)) (c : W.cell? ⟨g, 0, none⟩ = some (.int .u8 (kb : Int)) ∧ W.cell? ⟨g, 1, none⟩ = some (St tb) ∧ W.cell? ⟨g, 2, none⟩ = some (.int .i64 nb) ∧ W.cell? ⟨g, 3, none⟩ = some (.slice ba mb cb)) : (execOp a.eval km5).run Tryz.prog W = .ok (.value (.agg #[.int .u8 (kb : Int), St tb, .int .i64 nb, .slice ba mb cb])) W := by
  have h1 := gt_eq h
  obtain ⟨c0, c1, c2, c3⟩ := c
  clear h
  simp only [execOp, km5]
  go_simp
theorem ex2 {ka kb : Nat} {ta tb : Bs} {na nb : Int} {aa ba : Option Addr} {ma ca mb cb : Nat} (a : Act) (W : World) (h1 : gt a 114 = .agg #[.int .u8 (ka : Int), St ta, .int .i64 na, .slice aa ma ca]) (h2 : gt a 115 = .agg #[.int .u8 (kb : Int), St tb, .int .i64 nb, .slice ba mb cb]) : (execOp a.eval km2).run Tryz.prog W = .ok (.value (sv W.heap.size 2)) (W.alloc (.cells #[.int .u8 (ka : Int), St ta, .int .i64 na, .slice aa ma ca, .int .u8 (kb : Int), St tb, .int .i64 nb, .slice ba mb cb] 25)) := by
  have g1 := gt_eq h1
  have g2 := gt_eq h2
  clear h1 h2
  simp only [execOp, km2]
  go_simp
theorem ex6 {ka kb : Nat} {ta tb : Bs} {na nb : Int} {aa ba : Option Addr} {ma ca mb cb : Nat} (a : Act) (W : World) (h1 : gt a 118 = .agg #[.int .u8 (ka : Int), St ta, .int .i64 na, .slice aa ma ca]) (h2 : gt a 119 = .agg #[.int .u8 (kb : Int), St tb, .int .i64 nb, .slice ba mb cb]) : (execOp a.eval km6).run Tryz.prog W = .ok (.value (sv W.heap.size 2)) (W.alloc (.cells #[.int .u8 (ka : Int), St ta, .int .i64 na, .slice aa ma ca, .int .u8 (kb : Int), St tb, .int .i64 nb, .slice ba mb cb] 25)) := by
  have g1 := gt_eq h1
  have g2 := gt_eq h2
  clear h1 h2
  simp only [execOp, km6]
  go_simp
theorem ex3 (a : Act) (W : World) {g : Nat} (h : gt a 116 = sv g 2) : (execOp a.eval km3).run Tryz.prog W = .ok (.enter 23 #[sv g 2]) W := by
  have h1 := gt_eq h
  clear h
  simp only [execOp, km3]
  go_simp
theorem ex7 (a : Act) (W : World) {g : Nat} (h : gt a 120 = sv g 2) : (execOp a.eval km7).run Tryz.prog W = .ok (.enter 27 #[sv g 2]) W := by
  have h1 := gt_eq h
  clear h
  simp only [execOp, km7]
  go_simp
theorem ex8 (a : Act) (W : World) : (execOp a.eval km8).run Tryz.prog W = .ok (.value (.pointer (some ⟨W.heap.size, 0, none⟩))) (W.alloc (.cells z4 25)) := by
  simp only [execOp, km8]
  go_simp
theorem ex9 (a : Act) (W : World) : (execOp a.eval km9).run Tryz.prog W = .ok (.value (.pointer (some ⟨W.heap.size, 0, none⟩))) (W.alloc (.cells z4 25)) := by
  simp only [execOp, km9]
  go_simp
section
variable {B D : Nat} {ks : List Lt} {LA LB C8 : Array Value}
structure Im (B D : Nat) (ks : List Lt) (LA LB C8 : Array Value) (a0 : Act) (w0 : World) (G : Gh) (l : Array Bool) (a : Act) (w : World) : Prop where
  size : l.size = 12
  off : Off Kds a0 a
  alt : (l.getD 10 false = false ∧ l.getD 11 false = false ∧ Below w0.heap.size w0 w ∧ (∀ j, j < 10 → dn l j → Fm B D ks LA LB C8 G j (gt a) w) ∧ Apt G l) ∨
    ((∀ j, j < 11 → dn l j) ∧ l.getD 11 false = false ∧ Below w0.heap.size w0 w ∧ gt a 21 = .pointer (some ⟨G.p8, 0, none⟩) ∧ gt a 22 = .pointer (some ⟨G.p9, 0, none⟩) ∧ gt a 121 = .agg (l6 G.a7 G.c7) ∧ B ≤ G.p9 ∧ w.heap[G.p8]? = some (.cells (l5 G.a3 G.c3) 25 (0, 0)) ∧ w.heap[G.p9]? = some (.cells z4 25 (0, 0)) ∧ G.p8 ≠ G.p9 ∧ Kd (fun h => h ≠ G.p8 ∧ h ≠ G.p9) w D (.slice G.a3 2 G.c3) ks ∧ Kd (fun h => h ≠ G.p8 ∧ h ≠ G.p9) w D (.slice G.a7 2 G.c7) ks) ∨
    ((∀ j, l.getD j true = true) ∧ gt a 21 = .pointer (some ⟨G.p8, 0, none⟩) ∧ gt a 22 = .pointer (some ⟨G.p9, 0, none⟩) ∧ Fin6 B D ks w0 w G.p8 G.p9 G.a3 G.c3 G.a7 G.c7)
theorem undone {l : Array Bool} {i : Nat} (h : l.getD i true = false) : ¬ dn l i := fun hd => by
  have e : l.getD i true = l.getD i false ∨ l.size ≤ i := by
    rcases Nat.lt_or_ge i l.size with h' | h'
    · left; simp [h']
    · exact .inr h'
  rcases e with e | e
  · rw [e] at h
    rw [dn, h] at hd
    cases hd
  · simp [Array.getElem?_eq_none e] at h
theorem Im.one {a0 : Act} {w0 : World} {G : Gh} {l : Array Bool} {a : Act} {w : World} (h : Im B D ks LA LB C8 a0 w0 G l a w) {i : Nat} (hi : i < 10) (hf : l.getD i true = false) : l.getD 10 false = false ∧ l.getD 11 false = false ∧ Below w0.heap.size w0 w ∧ (∀ j, j < 10 → dn l j → Fm B D ks LA LB C8 G j (gt a) w) ∧ Apt G l := by
  rcases h.alt with h1 | h1 | h1
  · exact h1
  · exact absurd (h1.1 i (by omega)) (undone hf)
  · rw [h1.1 i] at hf
    cases hf
theorem Im.put {a0 : Act} {w0 : World} {G G' : Gh} {l : Array Bool} {a : Act} {w w' : World} (h : Im B D ks LA LB C8 a0 w0 G l a w) {i : Nat} (hi : i < 10) (hf : l.getD i true = false) (hz : 121 < a0.tmps.size) (v : Value) (hb : Below w.heap.size w w') (hG : ∀ j, j ≠ i → ∀ s W, Fm B D ks LA LB C8 G j s W → Fm B D ks LA LB C8 G' j s W) (hF : ∀ s : Nat → Value, s (kso i) = v → Fm B D ks LA LB C8 G' i s w') (hA : Apt G l → Apt G' (l.setIfInBounds i true)) : Im B D ks LA LB C8 a0 w0 G' (l.setIfInBounds i true) (a.put (some (kso i)) v) w' := by
  obtain ⟨h10, h11, hB, hj, hap⟩ := h.one hi hf
  refine ⟨by simpa using h.size, h.off.put (kso_mem hi) v, .inl ⟨by rw [getD_set_other (by omega)]; exact h10, by rw [getD_set_other (by omega)]; exact h11, hB.trans (hb.mono hB.size), fun j hjl hjs => ?_, hA hap⟩⟩
  by_cases e : i = j
  · subst e
    refine hF _ (get_put_same ?_)
    rw [h.off.size]
    have : ∀ i : Fin 10, kso i.1 < 122 := by decide
    have := this ⟨i, hi⟩
    simp only at this
    omega
  · exact hG j (Ne.symm e) _ _ ((hj j hjl (dn_set e hjs)).keep (get_put_ne (kso_ne hi hjl e)) hb)
theorem apt_same {G G' : Gh} {l : Array Bool} {i : Nat} (hi : i ≠ 3 ∧ i ≠ 7 ∧ i ≠ 8 ∧ i ≠ 9) (h : Apt G l) (h6 : i = 6 → dn l 4 ∧ dn l 5) (e1 : G'.p8 = G.p8) (e2 : G'.p9 = G.p9) (e3 : G'.lo3 = G.lo3) (e4 : G'.hi3 = G.hi3) (e5 : G'.lo7 = G.lo7) (e6 : G'.hi7 = G.hi7) : Apt G' (l.setIfInBounds i true) := by
  obtain ⟨i3, i7, i8, i9⟩ := hi
  refine ⟨fun a b => ?_, fun a b => ?_, fun a b => ?_, fun a b => ?_, fun a b => ?_, fun a => dn_up (h.c76 (dn_set i7 a)), fun a => ?_⟩
  · rw [e1, e3, e4]; exact h.a83 (dn_set i8 a) (dn_set i3 b)
  · rw [e1, e5, e6]; exact h.a87 (dn_set i8 a) (dn_set i7 b)
  · rw [e2, e3, e4]; exact h.a93 (dn_set i9 a) (dn_set i3 b)
  · rw [e2, e5, e6]; exact h.a97 (dn_set i9 a) (dn_set i7 b)
  · rw [e1, e2]; exact h.a89 (dn_set i8 a) (dn_set i9 b)
  · by_cases e : i = 6
    · exact ⟨dn_up (h6 e).1, dn_up (h6 e).2⟩
    · have := h.c64 (dn_set e a)
      exact ⟨dn_up this.1, dn_up this.2⟩
end
theorem Kd.lt {b : Nat → Prop} {w : World} : ∀ {d : Nat} {v : Value} {ks : List Lt}, Kd b w d v ks → Kd (fun h => b h ∧ h < w.heap.size) w d v ks
  | 0, _, _, h => h
  | d + 1, v, ks, h => by
    obtain ⟨hl, ao, cap, hv, h⟩ := h
    refine ⟨hl, ao, cap, hv, fun h0 => ?_⟩
    obtain ⟨g, o, hg, hbg, hc⟩ := h h0
    obtain ⟨kv, h1, _, _⟩ := hc 0 h0
    refine ⟨g, o, hg, ⟨hbg, World.block_lt_of_cell? w _ (h1 0 _ rfl)⟩, fun i hi => ?_⟩
    obtain ⟨kv, h1, h2, h3⟩ := hc i hi
    exact ⟨kv, h1, h2, Kd.lt h3⟩
set_option maxHeartbeats 8000000 in
theorem reg13 {Q : Exit → Act → World → Prop} {a0 : Act} {w0 : World} {ka kb : Nat} {ta tb : Bs} {na nb : Int} {aa ba : Option Addr} {ma ca mb cb : Nat} {xa xb D : Nat} {ks : List Lt} (hz : 121 < a0.tmps.size) (e8 : gt a0 8 = .pointer (some ⟨xa, 0, none⟩)) (e9 : gt a0 9 = .pointer (some ⟨xb, 0, none⟩))
    (hS : ∀ W, Below w0.heap.size w0 W → (W.cell? ⟨xa, 0, none⟩ = some (.int .u8 (ka : Int)) ∧ W.cell? ⟨xa, 1, none⟩ = some (St ta) ∧ W.cell? ⟨xa, 2, none⟩ = some (.int .i64 na) ∧ W.cell? ⟨xa, 3, none⟩ = some (.slice aa ma ca)) ∧ W.cell? ⟨xb, 0, none⟩ = some (.int .u8 (kb : Int)) ∧ W.cell? ⟨xb, 1, none⟩ = some (St tb) ∧ W.cell? ⟨xb, 2, none⟩ = some (.int .i64 nb) ∧ W.cell? ⟨xb, 3, none⟩ = some (.slice ba mb cb))
    (h13 : ∀ W g, Below w0.heap.size w0 W → W.heap[g]? = some (.cells #[.int .u8 (ka : Int), St ta, .int .i64 na, .slice aa ma ca, .int .u8 (kb : Int), St tb, .int .i64 nb, .slice ba mb cb] 25 (0, 0)) → Calls Tryz.prog 23 #[sv g 2] W fun e w' => ∃ v, e = .returned v ∧ ∃ a c, v = .agg (l5 a c) ∧ Kd (fun h => W.heap.size ≤ h) w' D (.slice a 2 c) ks ∧ Below W.heap.size W w')
    (h14 : ∀ W g, Below w0.heap.size w0 W → W.heap[g]? = some (.cells #[.int .u8 (ka : Int), St ta, .int .i64 na, .slice aa ma ca, .int .u8 (kb : Int), St tb, .int .i64 nb, .slice ba mb cb] 25 (0, 0)) → Calls Tryz.prog 27 #[sv g 2] W fun e w' => ∃ v, e = .returned v ∧ ∃ a c, v = .agg (l6 a c) ∧ Kd (fun h => W.heap.size ≤ h) w' D (.slice a 2 c) ks ∧ Below W.heap.size W w')
    (hQ : ∀ (s : Nat → Value) (w : World) (p q : Nat) (a : Option Addr) (c : Nat) (a' : Option Addr) (c' : Nat), Fin6 w0.heap.size D ks w0 w p q a c a' c' → Q .normal (puts a0 [(114, s 114), (115, s 115), (116, s 116), (117, s 117), (118, s 118), (119, s 119), (120, s 120), (121, s 121), (21, .pointer (some ⟨p, 0, none⟩)), (22, .pointer (some ⟨q, 0, none⟩))]) w) :
    (Code.region 13 kms true).wp Tryz.prog Q a0 w0 := by
  have stay : ∀ (a : Act), Off Kds a0 a → gt a 8 = .pointer (some ⟨xa, 0, none⟩) ∧ gt a 9 = .pointer (some ⟨xb, 0, none⟩) := fun a ho => by
    have h8 := ho.same 8 (by decide)
    have h9 := ho.same 9 (by decide)
    constructor
    · rw [← e8]; unfold gt; simp [h8]
    · rw [← e9]; unfold gt; simp [h9]
  refine region_inv (fun l a w => ∃ G, Im w0.heap.size D ks #[.int .u8 (ka : Int), St ta, .int .i64 na, .slice aa ma ca] #[.int .u8 (kb : Int), St tb, .int .i64 nb, .slice ba mb cb] #[.int .u8 (ka : Int), St ta, .int .i64 na, .slice aa ma ca, .int .u8 (kb : Int), St tb, .int .i64 nb, .slice ba mb cb] a0 w0 G l a w) rfl kms_back ⟨⟨0, 0, none, 0, 0, 0, none, 0, 0, 0, 0, 0⟩, by rfl, Off.refl _ _, .inl ⟨by decide, by decide, below_dr _, fun j hj hl => ?_, ⟨fun h => ?_, fun h => ?_, fun h => ?_, fun h => ?_, fun h => ?_, fun h => ?_, fun h => ?_⟩⟩⟩ ?_ ?_
  · have : ∀ j : Fin 10, (Array.replicate kms.size false).getD j.1 false = false := by decide
    have := this ⟨j, hj⟩
    rw [dn, this] at hl
    cases hl
  · exact absurd h (by decide)
  · exact absurd h (by decide)
  · exact absurd h (by decide)
  · exact absurd h (by decide)
  · exact absurd h (by decide)
  · exact absurd h (by decide)
  · exact absurd h (by decide)
  · rintro l a w i o ⟨G, hI⟩ ho hf ha
    have done : ∀ j : Nat, (∃ g, (⟨j, g⟩ : Edge) ∈ o.after ∧ Region.binds .any ⟨j, g⟩ = true) → dn l j := fun j ⟨g, h1, h2⟩ => ha ⟨j, g⟩ h1 h2
    have hstay := stay a hI.off
    rcases kms_get i o ho with ⟨rfl, rfl⟩ | ⟨rfl, rfl⟩ | ⟨rfl, rfl⟩ | ⟨rfl, rfl⟩ | ⟨rfl, rfl⟩ | ⟨rfl, rfl⟩ | ⟨rfl, rfl⟩ | ⟨rfl, rfl⟩ | ⟨rfl, rfl⟩ | ⟨rfl, rfl⟩ | ⟨rfl, rfl⟩ | ⟨rfl, rfl⟩
    · obtain ⟨_, _, hbel, _, _⟩ := hI.one (i := 0) (by omega) hf
      exact op_ok ho rfl (ex0 a w hstay.1 (hS w hbel).1) ⟨G, hI.put (i := 0) (by omega) hf hz _ (Below.refl _ _) (fun _ _ _ _ h => h) (fun s hs => hs) (fun h => apt_same (by decide) h (fun e => by cases e) rfl rfl rfl rfl rfl rfl)⟩
    · obtain ⟨_, _, hbel, _, _⟩ := hI.one (i := 1) (by omega) hf
      exact op_ok ho rfl (ex1 a w hstay.2 (hS w hbel).2) ⟨G, hI.put (i := 1) (by omega) hf hz _ (Below.refl _ _) (fun _ _ _ _ h => h) (fun s hs => hs) (fun h => apt_same (by decide) h (fun e => by cases e) rfl rfl rfl rfl rfl rfl)⟩
    · obtain ⟨_, _, hbel, hF, _⟩ := hI.one (i := 2) (by omega) hf
      have d1 := done 0 ⟨.data, by simp [km2], by decide⟩
      have d2 := done 1 ⟨.data, by simp [km2], by decide⟩
      exact op_ok ho rfl (ex2 a w (hF 0 (by omega) d1) (hF 1 (by omega) d2)) ⟨{ G with g2 := w.heap.size }, hI.put (i := 2) (by omega) hf hz _ (below_al w _) (fun j hj s W h => by match j, h with
          | 0, h | 1, h | 2, h | 3, h | 4, h | 5, h | 6, h | 7, h | 8, h | 9, h => first | exact h | exact absurd rfl hj
          | n + 10, h => exact h) (fun s hs => ⟨hs, hbel.size, heap_alloc_new w _⟩) (fun h => apt_same (by decide) h (fun e => by cases e) rfl rfl rfl rfl rfl rfl)⟩
    · obtain ⟨_, _, hbel, hF, _⟩ := hI.one (i := 3) (by omega) hf
      have d1 := done 2 ⟨.data, by simp [km3], by decide⟩
      have h2 := hF 2 (by omega) d1
      refine op_call ho rfl (ex3 a w h2.1) (h13 w _ hbel h2.2.2) ?_
      rintro v w' ⟨x, y, rfl, hk, hb⟩
      exact ⟨{ G with a3 := x, c3 := y, lo3 := w.heap.size, hi3 := w'.heap.size }, hI.put (i := 3) (by omega) hf hz _ hb (fun j hj s W h => by match j, h with
          | 0, h | 1, h | 2, h | 3, h | 4, h | 5, h | 6, h | 7, h | 8, h | 9, h => first | exact h | exact absurd rfl hj
          | n + 10, h => exact h) (fun s hs => ⟨hs, hk.lt, Nat.le_refl _⟩) (fun h => ⟨fun p _ => .inl (lt_of_heap (hF 8 (by omega) (dn_set (by omega) p)).2.2), fun p q => h.a87 (dn_set (by omega) p) (dn_set (by omega) q), fun p _ => .inl (lt_of_heap (hF 9 (by omega) (dn_set (by omega) p)).2.2), fun p q => h.a97 (dn_set (by omega) p) (dn_set (by omega) q), fun p q => h.a89 (dn_set (by omega) p) (dn_set (by omega) q), fun p => dn_up (h.c76 (dn_set (by omega) p)), fun p => ⟨dn_up (h.c64 (dn_set (by omega) p)).1, dn_up (h.c64 (dn_set (by omega) p)).2⟩⟩)⟩
    · obtain ⟨_, _, hbel, _, _⟩ := hI.one (i := 4) (by omega) hf
      exact op_ok ho rfl (ex4 a w hstay.1 (hS w hbel).1) ⟨G, hI.put (i := 4) (by omega) hf hz _ (Below.refl _ _) (fun _ _ _ _ h => h) (fun s hs => hs) (fun h => apt_same (by decide) h (fun e => by cases e) rfl rfl rfl rfl rfl rfl)⟩
    · obtain ⟨_, _, hbel, _, _⟩ := hI.one (i := 5) (by omega) hf
      exact op_ok ho rfl (ex5 a w hstay.2 (hS w hbel).2) ⟨G, hI.put (i := 5) (by omega) hf hz _ (Below.refl _ _) (fun _ _ _ _ h => h) (fun s hs => hs) (fun h => apt_same (by decide) h (fun e => by cases e) rfl rfl rfl rfl rfl rfl)⟩
    · obtain ⟨_, _, hbel, hF, _⟩ := hI.one (i := 6) (by omega) hf
      have d1 := done 4 ⟨.data, by simp [km6], by decide⟩
      have d2 := done 5 ⟨.data, by simp [km6], by decide⟩
      exact op_ok ho rfl (ex6 a w (hF 4 (by omega) d1) (hF 5 (by omega) d2)) ⟨{ G with g6 := w.heap.size }, hI.put (i := 6) (by omega) hf hz _ (below_al w _) (fun j hj s W h => by match j, h with
          | 0, h | 1, h | 2, h | 3, h | 4, h | 5, h | 6, h | 7, h | 8, h | 9, h => first | exact h | exact absurd rfl hj
          | n + 10, h => exact h) (fun s hs => ⟨hs, hbel.size, heap_alloc_new w _⟩) (fun h => apt_same (by decide) h (fun _ => ⟨d1, d2⟩) rfl rfl rfl rfl rfl rfl)⟩
    · obtain ⟨_, _, hbel, hF, _⟩ := hI.one (i := 7) (by omega) hf
      have d1 := done 6 ⟨.data, by simp [km7], by decide⟩
      have h2 := hF 6 (by omega) d1
      refine op_call ho rfl (ex7 a w h2.1) (h14 w _ hbel h2.2.2) ?_
      rintro v w' ⟨x, y, rfl, hk, hb⟩
      exact ⟨{ G with a7 := x, c7 := y, lo7 := w.heap.size, hi7 := w'.heap.size }, hI.put (i := 7) (by omega) hf hz _ hb (fun j hj s W h => by match j, h with
          | 0, h | 1, h | 2, h | 3, h | 4, h | 5, h | 6, h | 7, h | 8, h | 9, h => first | exact h | exact absurd rfl hj
          | n + 10, h => exact h) (fun s hs => ⟨hs, hk.lt, Nat.le_refl _⟩) (fun h => ⟨fun p q => h.a83 (dn_set (by omega) p) (dn_set (by omega) q), fun p _ => .inl (lt_of_heap (hF 8 (by omega) (dn_set (by omega) p)).2.2), fun p q => h.a93 (dn_set (by omega) p) (dn_set (by omega) q), fun p _ => .inl (lt_of_heap (hF 9 (by omega) (dn_set (by omega) p)).2.2), fun p q => h.a89 (dn_set (by omega) p) (dn_set (by omega) q), fun _ => dn_up d1, fun p => ⟨dn_up (h.c64 (dn_set (by omega) p)).1, dn_up (h.c64 (dn_set (by omega) p)).2⟩⟩)⟩
    · obtain ⟨_, _, hbel, hF, _⟩ := hI.one (i := 8) (by omega) hf
      exact op_ok ho rfl (ex8 a w) ⟨{ G with p8 := w.heap.size }, hI.put (i := 8) (by omega) hf hz _ (below_al w _) (fun j hj s W h => by match j, h with
          | 0, h | 1, h | 2, h | 3, h | 4, h | 5, h | 6, h | 7, h | 8, h | 9, h => first | exact h | exact absurd rfl hj
          | n + 10, h => exact h) (fun s hs => ⟨hs, hbel.size, heap_alloc_new w _⟩) (fun h => ⟨fun _ q => .inr ((hF 3 (by omega) (dn_set (by omega) q)).2.2), fun _ q => .inr ((hF 7 (by omega) (dn_set (by omega) q)).2.2), fun p q => h.a93 (dn_set (by omega) p) (dn_set (by omega) q), fun p q => h.a97 (dn_set (by omega) p) (dn_set (by omega) q), fun _ q => by have := lt_of_heap (hF 9 (by omega) (dn_set (by omega) q)).2.2; show w.heap.size ≠ G.p9; omega, fun p => dn_up (h.c76 (dn_set (by omega) p)), fun p => ⟨dn_up (h.c64 (dn_set (by omega) p)).1, dn_up (h.c64 (dn_set (by omega) p)).2⟩⟩)⟩
    · obtain ⟨_, _, hbel, hF, _⟩ := hI.one (i := 9) (by omega) hf
      exact op_ok ho rfl (ex9 a w) ⟨{ G with p9 := w.heap.size }, hI.put (i := 9) (by omega) hf hz _ (below_al w _) (fun j hj s W h => by match j, h with
          | 0, h | 1, h | 2, h | 3, h | 4, h | 5, h | 6, h | 7, h | 8, h | 9, h => first | exact h | exact absurd rfl hj
          | n + 10, h => exact h) (fun s hs => ⟨hs, hbel.size, heap_alloc_new w _⟩) (fun h => ⟨fun p q => h.a83 (dn_set (by omega) p) (dn_set (by omega) q), fun p q => h.a87 (dn_set (by omega) p) (dn_set (by omega) q), fun _ q => .inr ((hF 3 (by omega) (dn_set (by omega) q)).2.2), fun _ q => .inr ((hF 7 (by omega) (dn_set (by omega) q)).2.2), fun p _ => by have := lt_of_heap (hF 8 (by omega) (dn_set (by omega) p)).2.2; show G.p8 ≠ w.heap.size; omega, fun p => dn_up (h.c76 (dn_set (by omega) p)), fun p => ⟨dn_up (h.c64 (dn_set (by omega) p)).1, dn_up (h.c64 (dn_set (by omega) p)).2⟩⟩)⟩
    · rcases hI.alt with ⟨h10, h11, hbel, hF, hap⟩ | h1 | h1
      · have d8 := done 8 ⟨.data, by simp [km10], by decide⟩
        have d3 := done 3 ⟨.data, by simp [km10], by decide⟩
        have d7 := done 7 ⟨.chain, by simp [km10], by decide⟩
        have d0 := done 0 ⟨.phase, by simp [km10], by decide⟩
        have d1 := done 1 ⟨.phase, by simp [km10], by decide⟩
        have d2 := done 2 ⟨.phase, by simp [km10], by decide⟩
        have d9 := done 9 ⟨.phase, by simp [km10], by decide⟩
        have d6 := hap.c76 d7
        obtain ⟨d4, d5⟩ := hap.c64 d6
        obtain ⟨e21, b8, hp8⟩ := hF 8 (by omega) d8
        obtain ⟨e22, b9, hp9⟩ := hF 9 (by omega) d9
        obtain ⟨e117, k3, _⟩ := hF 3 (by omega) d3
        obtain ⟨e121, k7, _⟩ := hF 7 (by omega) d7
        have n89 := hap.a89 d8 d9
        have a83 := hap.a83 d8 d3
        have a87 := hap.a87 d8 d7
        have a93 := hap.a93 d9 d3
        have a97 := hap.a97 d9 d7
        unfold wpOp
        simp only [ho]
        rw [if_pos (by rfl)]
        refine .inl (wp_store_row 25 (.tmp 21) (.tmp 117) rfl G.p8 (l5 G.a3 G.c3) e21 e117 25 _ hp8 (by kernel_rfl) rfl (by simp [Value.oneCell']) ?_)
        refine ⟨G, by simpa using hI.size, hI.off, .inr (.inl ⟨fun j hj => ?_, by rw [getD_set_other (by omega)]; exact h11, ⟨hbel.os, hbel.tape, hbel.output, by simpa using hbel.size, fun x hx => (setRow_other _ _ _ _ (by omega)).trans (hbel.block x hx)⟩, e21, e22, e121, b9, setRow_heap _ _ _ _ _ _ hp8, (setRow_other _ _ _ _ (Ne.symm n89)).trans hp9, n89, ?_, ?_⟩)⟩
        · match j, hj with
          | 0, _ => exact dn_up d0
          | 1, _ => exact dn_up d1
          | 2, _ => exact dn_up d2
          | 3, _ => exact dn_up d3
          | 4, _ => exact dn_up d4
          | 5, _ => exact dn_up d5
          | 6, _ => exact dn_up d6
          | 7, _ => exact dn_up d7
          | 8, _ => exact dn_up d8
          | 9, _ => exact dn_up d9
          | 10, _ => have := hI.size; simp [dn, this]
        · exact (k3.base (c := fun h => h ≠ G.p8 ∧ h ≠ G.p9) (fun h hh => ⟨by rcases a83 with e | e <;> omega, by rcases a93 with e | e <;> omega⟩)).same (fun h hh _ => setRow_other _ _ _ _ hh.1)
        · exact (k7.base (c := fun h => h ≠ G.p8 ∧ h ≠ G.p9) (fun h hh => ⟨by rcases a87 with e | e <;> omega, by rcases a97 with e | e <;> omega⟩)).same (fun h hh _ => setRow_other _ _ _ _ hh.1)
      · exact absurd (h1.1 10 (by omega)) (undone hf)
      · rw [h1.1 10] at hf; cases hf
    · rcases hI.alt with ⟨h10, _⟩ | ⟨hall, h11, hbel, e21, e22, e121, b9, hp8, hp9, n89, k3, k7⟩ | h1
      · have d10 := done 10 ⟨.chain, by simp [km11], by decide⟩
        rw [dn, h10] at d10
        cases d10
      · unfold wpOp
        simp only [ho]
        rw [if_pos (by rfl)]
        refine .inl (wp_store_row 25 (.tmp 22) (.tmp 121) rfl G.p9 (l6 G.a7 G.c7) e22 e121 25 _ hp9 (by kernel_rfl) rfl (by simp [Value.oneCell']) ?_)
        refine ⟨G, by simpa using hI.size, hI.off, .inr (.inr ⟨fun j => ?_, e21, e22, ⟨⟨hbel.os, hbel.tape, hbel.output, by simpa using hbel.size, fun x hx => (setRow_other _ _ _ _ (by omega)).trans (hbel.block x hx)⟩, (setRow_other _ _ _ _ n89).trans hp8, setRow_heap _ _ _ _ _ _ hp9, ?_, ?_⟩⟩)⟩
        · have hs := hI.size
          rcases Nat.lt_or_ge j 12 with h' | h'
          · by_cases e : j = 11
            · subst e
              simp [hs]
            · rw [getD_set_other (Ne.symm e)]
              have := hall j (by omega)
              rw [dn] at this
              simpa [hs, h'] using this
          · simp [hs, h']
        · exact (k3.same (fun h hh _ => setRow_other _ _ _ _ hh.2)).base (fun _ _ => trivial)
        · exact (k7.same (fun h hh _ => setRow_other _ _ _ _ hh.2)).base (fun _ _ => trivial)
      · rw [h1.1 11] at hf; cases hf
  · rintro l a w ⟨G, hI⟩ hl
    have hs := hI.size
    rcases hI.alt with ⟨h10, _⟩ | ⟨_, h11, _⟩ | ⟨_, e21, e22, hfin⟩
    · have h2 := hl 10
      simp [hs] at h2 h10
      rw [h2] at h10
      cases h10
    · have h2 := hl 11
      simp [hs] at h2 h11
      rw [h2] at h11
      cases h11
    · have e := hI.off.eq
      have h2 := hQ (gt a) w G.p8 G.p9 _ _ _ _ hfin
      rw [← e21, ← e22] at h2
      rw [e]
      exact h2
end Go.Proofs.YtdllpklecdmghaaGreatDoor
