/- Keys: a region that makes terms one behind the other, whatever order is drawn. -/
import Derived.Test.YtkifchjpgdmcoaaGreatDoorKyBAll
namespace Go.Proofs.YtkifchjpgdmcoaaGreatDoor
open Go.RowKit
def pb0 : Oper := { dst := some 8, op := Op.move (Operand.tmp 5), type := 56, pos := "keys.go:41", after := #[], guard := none }
def pb1 : Oper := { dst := some 9, op := Op.fieldAddr 24 (Operand.tmp 1) 0, type := 0, pos := "keys.go:41", after := #[], guard := none }
def pb2 : Oper := { dst := some 10, op := Op.load 22 (Operand.tmp 9), type := 22, pos := "keys.go:41", after := #[{ on := 1, ground := Go.Ground.data }], guard := none }
def pb3 : Oper := { dst := some 11, op := Op.call { callee := Callee.value (Operand.func 24), args := #[Operand.tmp 10], argTypes := #[22] }, type := 30, pos := "keys.go:42", after := #[{ on := 2, ground := Go.Ground.data }], guard := none }
def pb4 : Oper := { dst := some 12, op := Op.extract (Operand.tmp 11) 0, type := 22, pos := "keys.go:41", after := #[{ on := 3, ground := Go.Ground.data }], guard := none }
def pb5 : Oper := { dst := some 13, op := Op.extract (Operand.tmp 11) 1, type := 29, pos := "keys.go:41", after := #[{ on := 3, ground := Go.Ground.data }], guard := none }
def pb6 : Oper := { dst := some 14, op := Op.call { callee := Callee.value (Operand.tmp 8), args := #[Operand.tmp 12, Operand.tmp 13], argTypes := #[22, 29] }, type := 22, pos := "keys.go:42", after := #[{ on := 0, ground := Go.Ground.data }, { on := 4, ground := Go.Ground.data }, { on := 5, ground := Go.Ground.data }, { on := 3, ground := Go.Ground.chain }], guard := none }
def pb7 : Oper := { dst := some 15, op := Op.move (Operand.tmp 5), type := 56, pos := "keys.go:41", after := #[], guard := none }
def pb8 : Oper := { dst := some 16, op := Op.fieldAddr 24 (Operand.tmp 1) 1, type := 0, pos := "keys.go:41", after := #[], guard := none }
def pb9 : Oper := { dst := some 17, op := Op.load 22 (Operand.tmp 16), type := 22, pos := "keys.go:41", after := #[{ on := 8, ground := Go.Ground.data }], guard := none }
def pb10 : Oper := { dst := some 18, op := Op.call { callee := Callee.value (Operand.func 24), args := #[Operand.tmp 17], argTypes := #[22] }, type := 30, pos := "keys.go:43", after := #[{ on := 9, ground := Go.Ground.data }, { on := 6, ground := Go.Ground.chain }], guard := none }
def pb11 : Oper := { dst := some 19, op := Op.extract (Operand.tmp 18) 0, type := 22, pos := "keys.go:41", after := #[{ on := 10, ground := Go.Ground.data }], guard := none }
def pb12 : Oper := { dst := some 20, op := Op.extract (Operand.tmp 18) 1, type := 29, pos := "keys.go:41", after := #[{ on := 10, ground := Go.Ground.data }], guard := none }
def pb13 : Oper := { dst := some 21, op := Op.call { callee := Callee.value (Operand.tmp 15), args := #[Operand.tmp 19, Operand.tmp 20], argTypes := #[22, 29] }, type := 22, pos := "keys.go:43", after := #[{ on := 7, ground := Go.Ground.data }, { on := 11, ground := Go.Ground.data }, { on := 12, ground := Go.Ground.data }, { on := 10, ground := Go.Ground.chain }], guard := none }
def pb14 : Oper := { dst := some 22, op := Op.move (Operand.tmp 5), type := 56, pos := "keys.go:41", after := #[], guard := none }
def pb15 : Oper := { dst := some 23, op := Op.fieldAddr 24 (Operand.tmp 1) 2, type := 0, pos := "keys.go:41", after := #[], guard := none }
def pb16 : Oper := { dst := some 24, op := Op.load 22 (Operand.tmp 23), type := 22, pos := "keys.go:41", after := #[{ on := 15, ground := Go.Ground.data }], guard := none }
def pb17 : Oper := { dst := some 25, op := Op.call { callee := Callee.value (Operand.func 24), args := #[Operand.tmp 24], argTypes := #[22] }, type := 30, pos := "keys.go:44", after := #[{ on := 16, ground := Go.Ground.data }, { on := 13, ground := Go.Ground.chain }], guard := none }
def pb18 : Oper := { dst := some 26, op := Op.extract (Operand.tmp 25) 0, type := 22, pos := "keys.go:41", after := #[{ on := 17, ground := Go.Ground.data }], guard := none }
def pb19 : Oper := { dst := some 27, op := Op.extract (Operand.tmp 25) 1, type := 29, pos := "keys.go:41", after := #[{ on := 17, ground := Go.Ground.data }], guard := none }
def pb20 : Oper := { dst := some 28, op := Op.call { callee := Callee.value (Operand.tmp 22), args := #[Operand.tmp 26, Operand.tmp 27], argTypes := #[22, 29] }, type := 22, pos := "keys.go:44", after := #[{ on := 14, ground := Go.Ground.data }, { on := 18, ground := Go.Ground.data }, { on := 19, ground := Go.Ground.data }, { on := 17, ground := Go.Ground.chain }], guard := none }
def pb21 : Oper := { dst := some 29, op := Op.move (Operand.tmp 5), type := 56, pos := "keys.go:41", after := #[], guard := none }
def pb22 : Oper := { dst := some 30, op := Op.fieldAddr 24 (Operand.tmp 1) 3, type := 0, pos := "keys.go:41", after := #[], guard := none }
def pb23 : Oper := { dst := some 31, op := Op.load 22 (Operand.tmp 30), type := 22, pos := "keys.go:41", after := #[{ on := 22, ground := Go.Ground.data }], guard := none }
def pb24 : Oper := { dst := some 32, op := Op.call { callee := Callee.value (Operand.func 24), args := #[Operand.tmp 31], argTypes := #[22] }, type := 30, pos := "keys.go:45", after := #[{ on := 23, ground := Go.Ground.data }, { on := 20, ground := Go.Ground.chain }], guard := none }
def pb25 : Oper := { dst := some 33, op := Op.extract (Operand.tmp 32) 0, type := 22, pos := "keys.go:41", after := #[{ on := 24, ground := Go.Ground.data }], guard := none }
def pb26 : Oper := { dst := some 34, op := Op.extract (Operand.tmp 32) 1, type := 29, pos := "keys.go:41", after := #[{ on := 24, ground := Go.Ground.data }], guard := none }
def pb27 : Oper := { dst := some 35, op := Op.call { callee := Callee.value (Operand.tmp 29), args := #[Operand.tmp 33, Operand.tmp 34], argTypes := #[22, 29] }, type := 22, pos := "keys.go:45", after := #[{ on := 21, ground := Go.Ground.data }, { on := 25, ground := Go.Ground.data }, { on := 26, ground := Go.Ground.data }, { on := 24, ground := Go.Ground.chain }], guard := none }
def pb28 : Oper := { dst := some 36, op := Op.move (Operand.tmp 5), type := 56, pos := "keys.go:41", after := #[], guard := none }
def pb29 : Oper := { dst := some 37, op := Op.fieldAddr 24 (Operand.tmp 1) 4, type := 0, pos := "keys.go:41", after := #[], guard := none }
def pb30 : Oper := { dst := some 38, op := Op.load 22 (Operand.tmp 37), type := 22, pos := "keys.go:41", after := #[{ on := 29, ground := Go.Ground.data }], guard := none }
def pb31 : Oper := { dst := some 39, op := Op.call { callee := Callee.value (Operand.func 24), args := #[Operand.tmp 38], argTypes := #[22] }, type := 30, pos := "keys.go:46", after := #[{ on := 30, ground := Go.Ground.data }, { on := 27, ground := Go.Ground.chain }], guard := none }
def pb32 : Oper := { dst := some 40, op := Op.extract (Operand.tmp 39) 0, type := 22, pos := "keys.go:41", after := #[{ on := 31, ground := Go.Ground.data }], guard := none }
def pb33 : Oper := { dst := some 41, op := Op.extract (Operand.tmp 39) 1, type := 29, pos := "keys.go:41", after := #[{ on := 31, ground := Go.Ground.data }], guard := none }
def pb34 : Oper := { dst := some 42, op := Op.call { callee := Callee.value (Operand.tmp 36), args := #[Operand.tmp 40, Operand.tmp 41], argTypes := #[22, 29] }, type := 22, pos := "keys.go:46", after := #[{ on := 28, ground := Go.Ground.data }, { on := 32, ground := Go.Ground.data }, { on := 33, ground := Go.Ground.data }, { on := 31, ground := Go.Ground.chain }], guard := none }
def pb35 : Oper := { dst := some 43, op := Op.build 33 #[(0, Operand.tmp 14), (1, Operand.tmp 21), (2, Operand.tmp 28), (3, Operand.tmp 35), (4, Operand.tmp 42)], type := 33, pos := "keys.go:41", after := #[{ on := 6, ground := Go.Ground.data }, { on := 13, ground := Go.Ground.data }, { on := 20, ground := Go.Ground.data }, { on := 27, ground := Go.Ground.data }, { on := 34, ground := Go.Ground.data }], guard := none }
def pb36 : Oper := { dst := some 6, op := Op.alloc 33, type := 0, pos := "keys.go:41", after := #[], guard := none }
def pb37 : Oper := { dst := none, op := Op.store 33 (Operand.tmp 6) (Operand.tmp 43), type := 0, pos := "keys.go:41", after := #[{ on := 36, ground := Go.Ground.data }, { on := 35, ground := Go.Ground.data }, { on := 34, ground := Go.Ground.chain }, { on := 0, ground := Go.Ground.phase }, { on := 1, ground := Go.Ground.phase }, { on := 2, ground := Go.Ground.phase }, { on := 3, ground := Go.Ground.phase }, { on := 4, ground := Go.Ground.phase }, { on := 5, ground := Go.Ground.phase }, { on := 6, ground := Go.Ground.phase }, { on := 7, ground := Go.Ground.phase }, { on := 8, ground := Go.Ground.phase }, { on := 9, ground := Go.Ground.phase }, { on := 10, ground := Go.Ground.phase }, { on := 11, ground := Go.Ground.phase }, { on := 12, ground := Go.Ground.phase }, { on := 13, ground := Go.Ground.phase }, { on := 14, ground := Go.Ground.phase }, { on := 15, ground := Go.Ground.phase }, { on := 16, ground := Go.Ground.phase }, { on := 17, ground := Go.Ground.phase }, { on := 18, ground := Go.Ground.phase }, { on := 19, ground := Go.Ground.phase }, { on := 20, ground := Go.Ground.phase }, { on := 21, ground := Go.Ground.phase }, { on := 22, ground := Go.Ground.phase }, { on := 23, ground := Go.Ground.phase }, { on := 24, ground := Go.Ground.phase }, { on := 25, ground := Go.Ground.phase }, { on := 26, ground := Go.Ground.phase }, { on := 27, ground := Go.Ground.phase }, { on := 28, ground := Go.Ground.phase }, { on := 29, ground := Go.Ground.phase }, { on := 30, ground := Go.Ground.phase }, { on := 31, ground := Go.Ground.phase }, { on := 32, ground := Go.Ground.phase }, { on := 33, ground := Go.Ground.phase }, { on := 34, ground := Go.Ground.phase }, { on := 35, ground := Go.Ground.phase }, { on := 36, ground := Go.Ground.phase }], guard := none }
def pbs : Array Oper := #[pb0, pb1, pb2, pb3, pb4, pb5, pb6, pb7, pb8, pb9, pb10, pb11, pb12, pb13, pb14, pb15, pb16, pb17, pb18, pb19, pb20, pb21, pb22, pb23, pb24, pb25, pb26, pb27, pb28, pb29, pb30, pb31, pb32, pb33, pb34, pb35, pb36, pb37]
theorem pbs_size : pbs.size = 38 := rfl
set_option maxRecDepth 10000 in
theorem pbs_back (i : Nat) (o : Oper) (h : pbs[i]? = some o) : ∀ e ∈ o.after, e.on < i := by
 have hall : ∀ j : Fin 38, ∀ e ∈ (pbs[j.1]'(by have := j.2; have := pbs_size; omega)).after, e.on < j.1 := by decide +kernel
 obtain ⟨hi, rfl⟩ := Array.getElem?_eq_some_iff.1 h
 exact hall ⟨i, by have := pbs_size; omega⟩
def pbD : Nat → Nat
 | 0 => 8
 | 1 => 9
 | 2 => 10
 | 3 => 11
 | 4 => 12
 | 5 => 13
 | 6 => 14
 | 7 => 15
 | 8 => 16
 | 9 => 17
 | 10 => 18
 | 11 => 19
 | 12 => 20
 | 13 => 21
 | 14 => 22
 | 15 => 23
 | 16 => 24
 | 17 => 25
 | 18 => 26
 | 19 => 27
 | 20 => 28
 | 21 => 29
 | 22 => 30
 | 23 => 31
 | 24 => 32
 | 25 => 33
 | 26 => 34
 | 27 => 35
 | 28 => 36
 | 29 => 37
 | 30 => 38
 | 31 => 39
 | 32 => 40
 | 33 => 41
 | 34 => 42
 | 35 => 43
 | 36 => 6
 | _ => 0
def pbDs : List Nat := (List.range 37).map pbD
set_option maxRecDepth 10000 in
theorem pbD_mem {i : Nat} (h : i < 37) : pbD i ∈ pbDs := List.mem_map_of_mem (List.mem_range.2 h)
set_option maxRecDepth 10000 in
theorem pbD_lt : ∀ i : Fin 37, pbD i.1 < 44 := by decide +kernel
set_option maxRecDepth 10000 in
theorem pbD_inj : ∀ i j : Fin 37, i ≠ j → pbD i.1 ≠ pbD j.1 := by decide +kernel
section
def pbV (x0 : Bs) (x1 : Bs) (x2 : Bs) (x3 : Bs) (x4 : Bs) (sb : Nat) (bx : Nat) : Nat → Value
 | 0 => (.func (.func 55) #[] #[.pointer (some ⟨bx, 0, none⟩)])
 | 1 => .pointer (some ⟨sb, 0, none⟩)
 | 2 => St x0
 | 3 => .tuple #[St (pubRes x0).1, .int .i64 ((pubRes x0).2 : Int)]
 | 4 => St (pubRes x0).1
 | 5 => .int .i64 ((pubRes x0).2 : Int)
 | 6 => St (pubRes x0).1
 | 7 => (.func (.func 55) #[] #[.pointer (some ⟨bx, 0, none⟩)])
 | 8 => .pointer (some ⟨sb, 1, none⟩)
 | 9 => St x1
 | 10 => .tuple #[St (pubRes x1).1, .int .i64 ((pubRes x1).2 : Int)]
 | 11 => St (pubRes x1).1
 | 12 => .int .i64 ((pubRes x1).2 : Int)
 | 13 => St (pubRes x1).1
 | 14 => (.func (.func 55) #[] #[.pointer (some ⟨bx, 0, none⟩)])
 | 15 => .pointer (some ⟨sb, 2, none⟩)
 | 16 => St x2
 | 17 => .tuple #[St (pubRes x2).1, .int .i64 ((pubRes x2).2 : Int)]
 | 18 => St (pubRes x2).1
 | 19 => .int .i64 ((pubRes x2).2 : Int)
 | 20 => St (pubRes x2).1
 | 21 => (.func (.func 55) #[] #[.pointer (some ⟨bx, 0, none⟩)])
 | 22 => .pointer (some ⟨sb, 3, none⟩)
 | 23 => St x3
 | 24 => .tuple #[St (pubRes x3).1, .int .i64 ((pubRes x3).2 : Int)]
 | 25 => St (pubRes x3).1
 | 26 => .int .i64 ((pubRes x3).2 : Int)
 | 27 => St (pubRes x3).1
 | 28 => (.func (.func 55) #[] #[.pointer (some ⟨bx, 0, none⟩)])
 | 29 => .pointer (some ⟨sb, 4, none⟩)
 | 30 => St x4
 | 31 => .tuple #[St (pubRes x4).1, .int .i64 ((pubRes x4).2 : Int)]
 | 32 => St (pubRes x4).1
 | 33 => .int .i64 ((pubRes x4).2 : Int)
 | 34 => St (pubRes x4).1
 | 35 => .agg #[St (pubRes x0).1, St (pubRes x1).1, St (pubRes x2).1, St (pubRes x3).1, St (pubRes x4).1]
 | _ => undef
end
def pbE (x0 : Bs) (x1 : Bs) (x2 : Bs) (x3 : Bs) (x4 : Bs) : Nat → Nat
 | 6 => (pubRes x0).2
 | 13 => (pubRes x1).2
 | 20 => (pubRes x2).2
 | 27 => (pubRes x3).2
 | 34 => (pubRes x4).2
 | _ => 0
section
variable {x0 x1 x2 x3 x4 x5 : Bs} {sb bx : Nat}
theorem pbx0 (a : Act) (W : World) (h0 : gt a 5 = (.func (.func 55) #[] #[.pointer (some ⟨bx, 0, none⟩)])) : (execOp a.eval pb0).run Tryz.prog W = .ok (.value ((.func (.func 55) #[] #[.pointer (some ⟨bx, 0, none⟩)]))) W := by
 have g0 := gt_eq h0
 clear h0
 simp only [execOp, pb0]
 go_simp
theorem pbh0 {Q : Exit → Act → World → Prop} {a0 a : Act} {w0 w : World} {eb e0 : Nat} (_e1 : gt a0 1 = .pointer (some ⟨sb, 0, none⟩)) (e5 : gt a0 5 = (.func (.func 55) #[] #[.pointer (some ⟨bx, 0, none⟩)])) (_b1 : w0.heap[sb]? = some (.cells #[St x0, St x1, St x2, St x3, St x4, St x5] 24 (0, 0))) (ho : Off pbDs a0 a) (_hk : Ke w0 bx eb e0 w)
   (_hd : ∀ e ∈ (pb0).after, Region.binds .any e = true → e.on ≠ 36 → gt a (pbD e.on) = pbV x0 x1 x2 x3 x4 sb bx e.on) : wpOp Tryz.prog pbs Q 0 (fun a' w' => a' = a.put (some (pbD 0)) (pbV x0 x1 x2 x3 x4 sb bx 0) ∧ Below w.heap.size w w') a w := by
 exact op_ok (i := 0) (o := pb0) rfl rfl (pbx0 a w ((ho.slot (by decide)).trans e5)) ⟨rfl, Below.refl _ _⟩
theorem pbx1 (a : Act) (W : World) (h0 : gt a 1 = .pointer (some ⟨sb, 0, none⟩)) : (execOp a.eval pb1).run Tryz.prog W = .ok (.value (.pointer (some ⟨sb, 0, none⟩))) W := by
 have g0 := gt_eq h0
 clear h0
 simp only [execOp, pb1]
 go_simp
theorem pbh1 {Q : Exit → Act → World → Prop} {a0 a : Act} {w0 w : World} {eb e0 : Nat} (e1 : gt a0 1 = .pointer (some ⟨sb, 0, none⟩)) (_e5 : gt a0 5 = (.func (.func 55) #[] #[.pointer (some ⟨bx, 0, none⟩)])) (_b1 : w0.heap[sb]? = some (.cells #[St x0, St x1, St x2, St x3, St x4, St x5] 24 (0, 0))) (ho : Off pbDs a0 a) (_hk : Ke w0 bx eb e0 w)
   (_hd : ∀ e ∈ (pb1).after, Region.binds .any e = true → e.on ≠ 36 → gt a (pbD e.on) = pbV x0 x1 x2 x3 x4 sb bx e.on) : wpOp Tryz.prog pbs Q 1 (fun a' w' => a' = a.put (some (pbD 1)) (pbV x0 x1 x2 x3 x4 sb bx 1) ∧ Below w.heap.size w w') a w := by
 exact op_ok (i := 1) (o := pb1) rfl rfl (pbx1 a w ((ho.slot (by decide)).trans e1)) ⟨rfl, Below.refl _ _⟩
theorem pbx2 (a : Act) (W : World) (h0 : gt a 9 = .pointer (some ⟨sb, 0, none⟩)) (c : W.cell? ⟨sb, 0, none⟩ = some (St x0)) : (execOp a.eval pb2).run Tryz.prog W = .ok (.value (St x0)) W := by
 have g0 := gt_eq h0
 clear h0
 simp only [execOp, pb2]
 go_simp
theorem pbh2 {Q : Exit → Act → World → Prop} {a0 a : Act} {w0 w : World} {eb e0 : Nat} (_e1 : gt a0 1 = .pointer (some ⟨sb, 0, none⟩)) (_e5 : gt a0 5 = (.func (.func 55) #[] #[.pointer (some ⟨bx, 0, none⟩)])) (b1 : w0.heap[sb]? = some (.cells #[St x0, St x1, St x2, St x3, St x4, St x5] 24 (0, 0))) (_ho : Off pbDs a0 a) (hk : Ke w0 bx eb e0 w)
   (hd : ∀ e ∈ (pb2).after, Region.binds .any e = true → e.on ≠ 36 → gt a (pbD e.on) = pbV x0 x1 x2 x3 x4 sb bx e.on) : wpOp Tryz.prog pbs Q 2 (fun a' w' => a' = a.put (some (pbD 2)) (pbV x0 x1 x2 x3 x4 sb bx 2) ∧ Below w.heap.size w w') a w := by
 exact op_ok (i := 2) (o := pb2) rfl rfl (pbx2 a w (hd { on := 1, ground := Go.Ground.data } (by simp [pb2]) (by decide) (by decide)) (by rw [cell_of_heap ((hk.bel.block _ (heap_lt b1)).trans b1)]; rfl)) ⟨rfl, Below.refl _ _⟩
theorem pbx3 (a : Act) (W : World) (h0 : gt a 10 = St x0) : (execOp a.eval pb3).run Tryz.prog W = .ok (.enter 24 #[St x0]) W := by
 have g0 := gt_eq h0
 clear h0
 simp only [execOp, pb3]
 go_simp
theorem pbh3 {Q : Exit → Act → World → Prop} {a0 a : Act} {w0 w : World} {eb e0 : Nat} (_e1 : gt a0 1 = .pointer (some ⟨sb, 0, none⟩)) (_e5 : gt a0 5 = (.func (.func 55) #[] #[.pointer (some ⟨bx, 0, none⟩)])) (_b1 : w0.heap[sb]? = some (.cells #[St x0, St x1, St x2, St x3, St x4, St x5] 24 (0, 0))) (_ho : Off pbDs a0 a) (_hk : Ke w0 bx eb e0 w)
   (hd : ∀ e ∈ (pb3).after, Region.binds .any e = true → e.on ≠ 36 → gt a (pbD e.on) = pbV x0 x1 x2 x3 x4 sb bx e.on) : wpOp Tryz.prog pbs Q 3 (fun a' w' => a' = a.put (some (pbD 3)) (pbV x0 x1 x2 x3 x4 sb bx 3) ∧ Below w.heap.size w w') a w := by
 refine op_call (i := 3) (o := pb3) (R := fun v w' => v = pbV x0 x1 x2 x3 x4 sb bx 3 ∧ Below w.heap.size w w') rfl rfl (pbx3 a w (hd { on := 2, ground := Go.Ground.data } (by simp [pb3]) (by decide) (by decide))) ((pubs_any x0 w).mono (fun e w' ⟨h1, h2⟩ => ⟨_, h1, rfl, h2⟩)) ?_
 rintro v w' ⟨rfl, h2⟩
 exact ⟨rfl, h2⟩
theorem pbx4 (a : Act) (W : World) (h0 : gt a 11 = .tuple #[St (pubRes x0).1, .int .i64 ((pubRes x0).2 : Int)]) : (execOp a.eval pb4).run Tryz.prog W = .ok (.value (St (pubRes x0).1)) W := by
 have g0 := gt_eq h0
 clear h0
 simp only [execOp, pb4]
 go_simp
theorem pbh4 {Q : Exit → Act → World → Prop} {a0 a : Act} {w0 w : World} {eb e0 : Nat} (_e1 : gt a0 1 = .pointer (some ⟨sb, 0, none⟩)) (_e5 : gt a0 5 = (.func (.func 55) #[] #[.pointer (some ⟨bx, 0, none⟩)])) (_b1 : w0.heap[sb]? = some (.cells #[St x0, St x1, St x2, St x3, St x4, St x5] 24 (0, 0))) (_ho : Off pbDs a0 a) (_hk : Ke w0 bx eb e0 w)
   (hd : ∀ e ∈ (pb4).after, Region.binds .any e = true → e.on ≠ 36 → gt a (pbD e.on) = pbV x0 x1 x2 x3 x4 sb bx e.on) : wpOp Tryz.prog pbs Q 4 (fun a' w' => a' = a.put (some (pbD 4)) (pbV x0 x1 x2 x3 x4 sb bx 4) ∧ Below w.heap.size w w') a w := by
 exact op_ok (i := 4) (o := pb4) rfl rfl (pbx4 a w (hd { on := 3, ground := Go.Ground.data } (by simp [pb4]) (by decide) (by decide))) ⟨rfl, Below.refl _ _⟩
theorem pbx5 (a : Act) (W : World) (h0 : gt a 11 = .tuple #[St (pubRes x0).1, .int .i64 ((pubRes x0).2 : Int)]) : (execOp a.eval pb5).run Tryz.prog W = .ok (.value (.int .i64 ((pubRes x0).2 : Int))) W := by
 have g0 := gt_eq h0
 clear h0
 simp only [execOp, pb5]
 go_simp
theorem pbh5 {Q : Exit → Act → World → Prop} {a0 a : Act} {w0 w : World} {eb e0 : Nat} (_e1 : gt a0 1 = .pointer (some ⟨sb, 0, none⟩)) (_e5 : gt a0 5 = (.func (.func 55) #[] #[.pointer (some ⟨bx, 0, none⟩)])) (_b1 : w0.heap[sb]? = some (.cells #[St x0, St x1, St x2, St x3, St x4, St x5] 24 (0, 0))) (_ho : Off pbDs a0 a) (_hk : Ke w0 bx eb e0 w)
   (hd : ∀ e ∈ (pb5).after, Region.binds .any e = true → e.on ≠ 36 → gt a (pbD e.on) = pbV x0 x1 x2 x3 x4 sb bx e.on) : wpOp Tryz.prog pbs Q 5 (fun a' w' => a' = a.put (some (pbD 5)) (pbV x0 x1 x2 x3 x4 sb bx 5) ∧ Below w.heap.size w w') a w := by
 exact op_ok (i := 5) (o := pb5) rfl rfl (pbx5 a w (hd { on := 3, ground := Go.Ground.data } (by simp [pb5]) (by decide) (by decide))) ⟨rfl, Below.refl _ _⟩
theorem pbx6 (a : Act) (W : World) (h0 : gt a 8 = (.func (.func 55) #[] #[.pointer (some ⟨bx, 0, none⟩)])) (h1 : gt a 12 = St (pubRes x0).1) (h2 : gt a 13 = .int .i64 ((pubRes x0).2 : Int)) : (execOp a.eval pb6).run Tryz.prog W = .ok (.enter 55 #[St (pubRes x0).1, .int .i64 ((pubRes x0).2 : Int), .pointer (some ⟨bx, 0, none⟩)]) W := by
 have g0 := gt_eq h0
 have g1 := gt_eq h1
 have g2 := gt_eq h2
 clear h0 h1 h2
 simp only [execOp, pb6]
 go_simp
theorem pbh6 {Q : Exit → Act → World → Prop} {a0 a : Act} {w0 w : World} {eb e0 : Nat} (_e1 : gt a0 1 = .pointer (some ⟨sb, 0, none⟩)) (_e5 : gt a0 5 = (.func (.func 55) #[] #[.pointer (some ⟨bx, 0, none⟩)])) (_b1 : w0.heap[sb]? = some (.cells #[St x0, St x1, St x2, St x3, St x4, St x5] 24 (0, 0))) (_ho : Off pbDs a0 a) (hk : Ke w0 bx eb e0 w)
   (hd : ∀ e ∈ (pb6).after, Region.binds .any e = true → e.on ≠ 36 → gt a (pbD e.on) = pbV x0 x1 x2 x3 x4 sb bx e.on) : wpOp Tryz.prog pbs Q 6 (fun a' w' => a' = a.put (some (pbD 6)) (pbV x0 x1 x2 x3 x4 sb bx 6) ∧ Ke w0 bx eb (firstN e0 (pbE x0 x1 x2 x3 x4 6)) w' ∧ Frx w.heap.size eb w w') a w := by
 refine op_call (i := 6) (o := pb6) (R := fun v w' => v = pbV x0 x1 x2 x3 x4 sb bx 6 ∧ Ke w0 bx eb (firstN e0 (pbE x0 x1 x2 x3 x4 6)) w' ∧ Frx w.heap.size eb w w') rfl rfl (pbx6 a w (hd { on := 0, ground := Go.Ground.data } (by simp [pb6]) (by decide) (by decide)) (hd { on := 4, ground := Go.Ground.data } (by simp [pb6]) (by decide) (by decide)) (hd { on := 5, ground := Go.Ground.data } (by simp [pb6]) (by decide) (by decide))) ((keep_any hk (pubRes x0).1 (pubRes x0).2).mono (fun e w' ⟨h1, h2, h3⟩ => ⟨_, h1, rfl, h2, h3⟩)) ?_
 rintro v w' ⟨rfl, h2, h3⟩
 exact ⟨rfl, h2, h3⟩
theorem pbx7 (a : Act) (W : World) (h0 : gt a 5 = (.func (.func 55) #[] #[.pointer (some ⟨bx, 0, none⟩)])) : (execOp a.eval pb7).run Tryz.prog W = .ok (.value ((.func (.func 55) #[] #[.pointer (some ⟨bx, 0, none⟩)]))) W := by
 have g0 := gt_eq h0
 clear h0
 simp only [execOp, pb7]
 go_simp
theorem pbh7 {Q : Exit → Act → World → Prop} {a0 a : Act} {w0 w : World} {eb e0 : Nat} (_e1 : gt a0 1 = .pointer (some ⟨sb, 0, none⟩)) (e5 : gt a0 5 = (.func (.func 55) #[] #[.pointer (some ⟨bx, 0, none⟩)])) (_b1 : w0.heap[sb]? = some (.cells #[St x0, St x1, St x2, St x3, St x4, St x5] 24 (0, 0))) (ho : Off pbDs a0 a) (_hk : Ke w0 bx eb e0 w)
   (_hd : ∀ e ∈ (pb7).after, Region.binds .any e = true → e.on ≠ 36 → gt a (pbD e.on) = pbV x0 x1 x2 x3 x4 sb bx e.on) : wpOp Tryz.prog pbs Q 7 (fun a' w' => a' = a.put (some (pbD 7)) (pbV x0 x1 x2 x3 x4 sb bx 7) ∧ Below w.heap.size w w') a w := by
 exact op_ok (i := 7) (o := pb7) rfl rfl (pbx7 a w ((ho.slot (by decide)).trans e5)) ⟨rfl, Below.refl _ _⟩
theorem pbx8 (a : Act) (W : World) (h0 : gt a 1 = .pointer (some ⟨sb, 0, none⟩)) : (execOp a.eval pb8).run Tryz.prog W = .ok (.value (.pointer (some ⟨sb, 1, none⟩))) W := by
 have g0 := gt_eq h0
 clear h0
 simp only [execOp, pb8]
 go_simp
theorem pbh8 {Q : Exit → Act → World → Prop} {a0 a : Act} {w0 w : World} {eb e0 : Nat} (e1 : gt a0 1 = .pointer (some ⟨sb, 0, none⟩)) (_e5 : gt a0 5 = (.func (.func 55) #[] #[.pointer (some ⟨bx, 0, none⟩)])) (_b1 : w0.heap[sb]? = some (.cells #[St x0, St x1, St x2, St x3, St x4, St x5] 24 (0, 0))) (ho : Off pbDs a0 a) (_hk : Ke w0 bx eb e0 w)
   (_hd : ∀ e ∈ (pb8).after, Region.binds .any e = true → e.on ≠ 36 → gt a (pbD e.on) = pbV x0 x1 x2 x3 x4 sb bx e.on) : wpOp Tryz.prog pbs Q 8 (fun a' w' => a' = a.put (some (pbD 8)) (pbV x0 x1 x2 x3 x4 sb bx 8) ∧ Below w.heap.size w w') a w := by
 exact op_ok (i := 8) (o := pb8) rfl rfl (pbx8 a w ((ho.slot (by decide)).trans e1)) ⟨rfl, Below.refl _ _⟩
theorem pbx9 (a : Act) (W : World) (h0 : gt a 16 = .pointer (some ⟨sb, 1, none⟩)) (c : W.cell? ⟨sb, 1, none⟩ = some (St x1)) : (execOp a.eval pb9).run Tryz.prog W = .ok (.value (St x1)) W := by
 have g0 := gt_eq h0
 clear h0
 simp only [execOp, pb9]
 go_simp
theorem pbh9 {Q : Exit → Act → World → Prop} {a0 a : Act} {w0 w : World} {eb e0 : Nat} (_e1 : gt a0 1 = .pointer (some ⟨sb, 0, none⟩)) (_e5 : gt a0 5 = (.func (.func 55) #[] #[.pointer (some ⟨bx, 0, none⟩)])) (b1 : w0.heap[sb]? = some (.cells #[St x0, St x1, St x2, St x3, St x4, St x5] 24 (0, 0))) (_ho : Off pbDs a0 a) (hk : Ke w0 bx eb e0 w)
   (hd : ∀ e ∈ (pb9).after, Region.binds .any e = true → e.on ≠ 36 → gt a (pbD e.on) = pbV x0 x1 x2 x3 x4 sb bx e.on) : wpOp Tryz.prog pbs Q 9 (fun a' w' => a' = a.put (some (pbD 9)) (pbV x0 x1 x2 x3 x4 sb bx 9) ∧ Below w.heap.size w w') a w := by
 exact op_ok (i := 9) (o := pb9) rfl rfl (pbx9 a w (hd { on := 8, ground := Go.Ground.data } (by simp [pb9]) (by decide) (by decide)) (by rw [cell_of_heap ((hk.bel.block _ (heap_lt b1)).trans b1)]; rfl)) ⟨rfl, Below.refl _ _⟩
theorem pbx10 (a : Act) (W : World) (h0 : gt a 17 = St x1) : (execOp a.eval pb10).run Tryz.prog W = .ok (.enter 24 #[St x1]) W := by
 have g0 := gt_eq h0
 clear h0
 simp only [execOp, pb10]
 go_simp
theorem pbh10 {Q : Exit → Act → World → Prop} {a0 a : Act} {w0 w : World} {eb e0 : Nat} (_e1 : gt a0 1 = .pointer (some ⟨sb, 0, none⟩)) (_e5 : gt a0 5 = (.func (.func 55) #[] #[.pointer (some ⟨bx, 0, none⟩)])) (_b1 : w0.heap[sb]? = some (.cells #[St x0, St x1, St x2, St x3, St x4, St x5] 24 (0, 0))) (_ho : Off pbDs a0 a) (_hk : Ke w0 bx eb e0 w)
   (hd : ∀ e ∈ (pb10).after, Region.binds .any e = true → e.on ≠ 36 → gt a (pbD e.on) = pbV x0 x1 x2 x3 x4 sb bx e.on) : wpOp Tryz.prog pbs Q 10 (fun a' w' => a' = a.put (some (pbD 10)) (pbV x0 x1 x2 x3 x4 sb bx 10) ∧ Below w.heap.size w w') a w := by
 refine op_call (i := 10) (o := pb10) (R := fun v w' => v = pbV x0 x1 x2 x3 x4 sb bx 10 ∧ Below w.heap.size w w') rfl rfl (pbx10 a w (hd { on := 9, ground := Go.Ground.data } (by simp [pb10]) (by decide) (by decide))) ((pubs_any x1 w).mono (fun e w' ⟨h1, h2⟩ => ⟨_, h1, rfl, h2⟩)) ?_
 rintro v w' ⟨rfl, h2⟩
 exact ⟨rfl, h2⟩
theorem pbx11 (a : Act) (W : World) (h0 : gt a 18 = .tuple #[St (pubRes x1).1, .int .i64 ((pubRes x1).2 : Int)]) : (execOp a.eval pb11).run Tryz.prog W = .ok (.value (St (pubRes x1).1)) W := by
 have g0 := gt_eq h0
 clear h0
 simp only [execOp, pb11]
 go_simp
theorem pbh11 {Q : Exit → Act → World → Prop} {a0 a : Act} {w0 w : World} {eb e0 : Nat} (_e1 : gt a0 1 = .pointer (some ⟨sb, 0, none⟩)) (_e5 : gt a0 5 = (.func (.func 55) #[] #[.pointer (some ⟨bx, 0, none⟩)])) (_b1 : w0.heap[sb]? = some (.cells #[St x0, St x1, St x2, St x3, St x4, St x5] 24 (0, 0))) (_ho : Off pbDs a0 a) (_hk : Ke w0 bx eb e0 w)
   (hd : ∀ e ∈ (pb11).after, Region.binds .any e = true → e.on ≠ 36 → gt a (pbD e.on) = pbV x0 x1 x2 x3 x4 sb bx e.on) : wpOp Tryz.prog pbs Q 11 (fun a' w' => a' = a.put (some (pbD 11)) (pbV x0 x1 x2 x3 x4 sb bx 11) ∧ Below w.heap.size w w') a w := by
 exact op_ok (i := 11) (o := pb11) rfl rfl (pbx11 a w (hd { on := 10, ground := Go.Ground.data } (by simp [pb11]) (by decide) (by decide))) ⟨rfl, Below.refl _ _⟩
theorem pbx12 (a : Act) (W : World) (h0 : gt a 18 = .tuple #[St (pubRes x1).1, .int .i64 ((pubRes x1).2 : Int)]) : (execOp a.eval pb12).run Tryz.prog W = .ok (.value (.int .i64 ((pubRes x1).2 : Int))) W := by
 have g0 := gt_eq h0
 clear h0
 simp only [execOp, pb12]
 go_simp
theorem pbh12 {Q : Exit → Act → World → Prop} {a0 a : Act} {w0 w : World} {eb e0 : Nat} (_e1 : gt a0 1 = .pointer (some ⟨sb, 0, none⟩)) (_e5 : gt a0 5 = (.func (.func 55) #[] #[.pointer (some ⟨bx, 0, none⟩)])) (_b1 : w0.heap[sb]? = some (.cells #[St x0, St x1, St x2, St x3, St x4, St x5] 24 (0, 0))) (_ho : Off pbDs a0 a) (_hk : Ke w0 bx eb e0 w)
   (hd : ∀ e ∈ (pb12).after, Region.binds .any e = true → e.on ≠ 36 → gt a (pbD e.on) = pbV x0 x1 x2 x3 x4 sb bx e.on) : wpOp Tryz.prog pbs Q 12 (fun a' w' => a' = a.put (some (pbD 12)) (pbV x0 x1 x2 x3 x4 sb bx 12) ∧ Below w.heap.size w w') a w := by
 exact op_ok (i := 12) (o := pb12) rfl rfl (pbx12 a w (hd { on := 10, ground := Go.Ground.data } (by simp [pb12]) (by decide) (by decide))) ⟨rfl, Below.refl _ _⟩
theorem pbx13 (a : Act) (W : World) (h0 : gt a 15 = (.func (.func 55) #[] #[.pointer (some ⟨bx, 0, none⟩)])) (h1 : gt a 19 = St (pubRes x1).1) (h2 : gt a 20 = .int .i64 ((pubRes x1).2 : Int)) : (execOp a.eval pb13).run Tryz.prog W = .ok (.enter 55 #[St (pubRes x1).1, .int .i64 ((pubRes x1).2 : Int), .pointer (some ⟨bx, 0, none⟩)]) W := by
 have g0 := gt_eq h0
 have g1 := gt_eq h1
 have g2 := gt_eq h2
 clear h0 h1 h2
 simp only [execOp, pb13]
 go_simp
theorem pbh13 {Q : Exit → Act → World → Prop} {a0 a : Act} {w0 w : World} {eb e0 : Nat} (_e1 : gt a0 1 = .pointer (some ⟨sb, 0, none⟩)) (_e5 : gt a0 5 = (.func (.func 55) #[] #[.pointer (some ⟨bx, 0, none⟩)])) (_b1 : w0.heap[sb]? = some (.cells #[St x0, St x1, St x2, St x3, St x4, St x5] 24 (0, 0))) (_ho : Off pbDs a0 a) (hk : Ke w0 bx eb e0 w)
   (hd : ∀ e ∈ (pb13).after, Region.binds .any e = true → e.on ≠ 36 → gt a (pbD e.on) = pbV x0 x1 x2 x3 x4 sb bx e.on) : wpOp Tryz.prog pbs Q 13 (fun a' w' => a' = a.put (some (pbD 13)) (pbV x0 x1 x2 x3 x4 sb bx 13) ∧ Ke w0 bx eb (firstN e0 (pbE x0 x1 x2 x3 x4 13)) w' ∧ Frx w.heap.size eb w w') a w := by
 refine op_call (i := 13) (o := pb13) (R := fun v w' => v = pbV x0 x1 x2 x3 x4 sb bx 13 ∧ Ke w0 bx eb (firstN e0 (pbE x0 x1 x2 x3 x4 13)) w' ∧ Frx w.heap.size eb w w') rfl rfl (pbx13 a w (hd { on := 7, ground := Go.Ground.data } (by simp [pb13]) (by decide) (by decide)) (hd { on := 11, ground := Go.Ground.data } (by simp [pb13]) (by decide) (by decide)) (hd { on := 12, ground := Go.Ground.data } (by simp [pb13]) (by decide) (by decide))) ((keep_any hk (pubRes x1).1 (pubRes x1).2).mono (fun e w' ⟨h1, h2, h3⟩ => ⟨_, h1, rfl, h2, h3⟩)) ?_
 rintro v w' ⟨rfl, h2, h3⟩
 exact ⟨rfl, h2, h3⟩
theorem pbx14 (a : Act) (W : World) (h0 : gt a 5 = (.func (.func 55) #[] #[.pointer (some ⟨bx, 0, none⟩)])) : (execOp a.eval pb14).run Tryz.prog W = .ok (.value ((.func (.func 55) #[] #[.pointer (some ⟨bx, 0, none⟩)]))) W := by
 have g0 := gt_eq h0
 clear h0
 simp only [execOp, pb14]
 go_simp
theorem pbh14 {Q : Exit → Act → World → Prop} {a0 a : Act} {w0 w : World} {eb e0 : Nat} (_e1 : gt a0 1 = .pointer (some ⟨sb, 0, none⟩)) (e5 : gt a0 5 = (.func (.func 55) #[] #[.pointer (some ⟨bx, 0, none⟩)])) (_b1 : w0.heap[sb]? = some (.cells #[St x0, St x1, St x2, St x3, St x4, St x5] 24 (0, 0))) (ho : Off pbDs a0 a) (_hk : Ke w0 bx eb e0 w)
   (_hd : ∀ e ∈ (pb14).after, Region.binds .any e = true → e.on ≠ 36 → gt a (pbD e.on) = pbV x0 x1 x2 x3 x4 sb bx e.on) : wpOp Tryz.prog pbs Q 14 (fun a' w' => a' = a.put (some (pbD 14)) (pbV x0 x1 x2 x3 x4 sb bx 14) ∧ Below w.heap.size w w') a w := by
 exact op_ok (i := 14) (o := pb14) rfl rfl (pbx14 a w ((ho.slot (by decide)).trans e5)) ⟨rfl, Below.refl _ _⟩
theorem pbx15 (a : Act) (W : World) (h0 : gt a 1 = .pointer (some ⟨sb, 0, none⟩)) : (execOp a.eval pb15).run Tryz.prog W = .ok (.value (.pointer (some ⟨sb, 2, none⟩))) W := by
 have g0 := gt_eq h0
 clear h0
 simp only [execOp, pb15]
 go_simp
theorem pbh15 {Q : Exit → Act → World → Prop} {a0 a : Act} {w0 w : World} {eb e0 : Nat} (e1 : gt a0 1 = .pointer (some ⟨sb, 0, none⟩)) (_e5 : gt a0 5 = (.func (.func 55) #[] #[.pointer (some ⟨bx, 0, none⟩)])) (_b1 : w0.heap[sb]? = some (.cells #[St x0, St x1, St x2, St x3, St x4, St x5] 24 (0, 0))) (ho : Off pbDs a0 a) (_hk : Ke w0 bx eb e0 w)
   (_hd : ∀ e ∈ (pb15).after, Region.binds .any e = true → e.on ≠ 36 → gt a (pbD e.on) = pbV x0 x1 x2 x3 x4 sb bx e.on) : wpOp Tryz.prog pbs Q 15 (fun a' w' => a' = a.put (some (pbD 15)) (pbV x0 x1 x2 x3 x4 sb bx 15) ∧ Below w.heap.size w w') a w := by
 exact op_ok (i := 15) (o := pb15) rfl rfl (pbx15 a w ((ho.slot (by decide)).trans e1)) ⟨rfl, Below.refl _ _⟩
theorem pbx16 (a : Act) (W : World) (h0 : gt a 23 = .pointer (some ⟨sb, 2, none⟩)) (c : W.cell? ⟨sb, 2, none⟩ = some (St x2)) : (execOp a.eval pb16).run Tryz.prog W = .ok (.value (St x2)) W := by
 have g0 := gt_eq h0
 clear h0
 simp only [execOp, pb16]
 go_simp
theorem pbh16 {Q : Exit → Act → World → Prop} {a0 a : Act} {w0 w : World} {eb e0 : Nat} (_e1 : gt a0 1 = .pointer (some ⟨sb, 0, none⟩)) (_e5 : gt a0 5 = (.func (.func 55) #[] #[.pointer (some ⟨bx, 0, none⟩)])) (b1 : w0.heap[sb]? = some (.cells #[St x0, St x1, St x2, St x3, St x4, St x5] 24 (0, 0))) (_ho : Off pbDs a0 a) (hk : Ke w0 bx eb e0 w)
   (hd : ∀ e ∈ (pb16).after, Region.binds .any e = true → e.on ≠ 36 → gt a (pbD e.on) = pbV x0 x1 x2 x3 x4 sb bx e.on) : wpOp Tryz.prog pbs Q 16 (fun a' w' => a' = a.put (some (pbD 16)) (pbV x0 x1 x2 x3 x4 sb bx 16) ∧ Below w.heap.size w w') a w := by
 exact op_ok (i := 16) (o := pb16) rfl rfl (pbx16 a w (hd { on := 15, ground := Go.Ground.data } (by simp [pb16]) (by decide) (by decide)) (by rw [cell_of_heap ((hk.bel.block _ (heap_lt b1)).trans b1)]; rfl)) ⟨rfl, Below.refl _ _⟩
theorem pbx17 (a : Act) (W : World) (h0 : gt a 24 = St x2) : (execOp a.eval pb17).run Tryz.prog W = .ok (.enter 24 #[St x2]) W := by
 have g0 := gt_eq h0
 clear h0
 simp only [execOp, pb17]
 go_simp
theorem pbh17 {Q : Exit → Act → World → Prop} {a0 a : Act} {w0 w : World} {eb e0 : Nat} (_e1 : gt a0 1 = .pointer (some ⟨sb, 0, none⟩)) (_e5 : gt a0 5 = (.func (.func 55) #[] #[.pointer (some ⟨bx, 0, none⟩)])) (_b1 : w0.heap[sb]? = some (.cells #[St x0, St x1, St x2, St x3, St x4, St x5] 24 (0, 0))) (_ho : Off pbDs a0 a) (_hk : Ke w0 bx eb e0 w)
   (hd : ∀ e ∈ (pb17).after, Region.binds .any e = true → e.on ≠ 36 → gt a (pbD e.on) = pbV x0 x1 x2 x3 x4 sb bx e.on) : wpOp Tryz.prog pbs Q 17 (fun a' w' => a' = a.put (some (pbD 17)) (pbV x0 x1 x2 x3 x4 sb bx 17) ∧ Below w.heap.size w w') a w := by
 refine op_call (i := 17) (o := pb17) (R := fun v w' => v = pbV x0 x1 x2 x3 x4 sb bx 17 ∧ Below w.heap.size w w') rfl rfl (pbx17 a w (hd { on := 16, ground := Go.Ground.data } (by simp [pb17]) (by decide) (by decide))) ((pubs_any x2 w).mono (fun e w' ⟨h1, h2⟩ => ⟨_, h1, rfl, h2⟩)) ?_
 rintro v w' ⟨rfl, h2⟩
 exact ⟨rfl, h2⟩
theorem pbx18 (a : Act) (W : World) (h0 : gt a 25 = .tuple #[St (pubRes x2).1, .int .i64 ((pubRes x2).2 : Int)]) : (execOp a.eval pb18).run Tryz.prog W = .ok (.value (St (pubRes x2).1)) W := by
 have g0 := gt_eq h0
 clear h0
 simp only [execOp, pb18]
 go_simp
theorem pbh18 {Q : Exit → Act → World → Prop} {a0 a : Act} {w0 w : World} {eb e0 : Nat} (_e1 : gt a0 1 = .pointer (some ⟨sb, 0, none⟩)) (_e5 : gt a0 5 = (.func (.func 55) #[] #[.pointer (some ⟨bx, 0, none⟩)])) (_b1 : w0.heap[sb]? = some (.cells #[St x0, St x1, St x2, St x3, St x4, St x5] 24 (0, 0))) (_ho : Off pbDs a0 a) (_hk : Ke w0 bx eb e0 w)
   (hd : ∀ e ∈ (pb18).after, Region.binds .any e = true → e.on ≠ 36 → gt a (pbD e.on) = pbV x0 x1 x2 x3 x4 sb bx e.on) : wpOp Tryz.prog pbs Q 18 (fun a' w' => a' = a.put (some (pbD 18)) (pbV x0 x1 x2 x3 x4 sb bx 18) ∧ Below w.heap.size w w') a w := by
 exact op_ok (i := 18) (o := pb18) rfl rfl (pbx18 a w (hd { on := 17, ground := Go.Ground.data } (by simp [pb18]) (by decide) (by decide))) ⟨rfl, Below.refl _ _⟩
theorem pbx19 (a : Act) (W : World) (h0 : gt a 25 = .tuple #[St (pubRes x2).1, .int .i64 ((pubRes x2).2 : Int)]) : (execOp a.eval pb19).run Tryz.prog W = .ok (.value (.int .i64 ((pubRes x2).2 : Int))) W := by
 have g0 := gt_eq h0
 clear h0
 simp only [execOp, pb19]
 go_simp
theorem pbh19 {Q : Exit → Act → World → Prop} {a0 a : Act} {w0 w : World} {eb e0 : Nat} (_e1 : gt a0 1 = .pointer (some ⟨sb, 0, none⟩)) (_e5 : gt a0 5 = (.func (.func 55) #[] #[.pointer (some ⟨bx, 0, none⟩)])) (_b1 : w0.heap[sb]? = some (.cells #[St x0, St x1, St x2, St x3, St x4, St x5] 24 (0, 0))) (_ho : Off pbDs a0 a) (_hk : Ke w0 bx eb e0 w)
   (hd : ∀ e ∈ (pb19).after, Region.binds .any e = true → e.on ≠ 36 → gt a (pbD e.on) = pbV x0 x1 x2 x3 x4 sb bx e.on) : wpOp Tryz.prog pbs Q 19 (fun a' w' => a' = a.put (some (pbD 19)) (pbV x0 x1 x2 x3 x4 sb bx 19) ∧ Below w.heap.size w w') a w := by
 exact op_ok (i := 19) (o := pb19) rfl rfl (pbx19 a w (hd { on := 17, ground := Go.Ground.data } (by simp [pb19]) (by decide) (by decide))) ⟨rfl, Below.refl _ _⟩
theorem pbx20 (a : Act) (W : World) (h0 : gt a 22 = (.func (.func 55) #[] #[.pointer (some ⟨bx, 0, none⟩)])) (h1 : gt a 26 = St (pubRes x2).1) (h2 : gt a 27 = .int .i64 ((pubRes x2).2 : Int)) : (execOp a.eval pb20).run Tryz.prog W = .ok (.enter 55 #[St (pubRes x2).1, .int .i64 ((pubRes x2).2 : Int), .pointer (some ⟨bx, 0, none⟩)]) W := by
 have g0 := gt_eq h0
 have g1 := gt_eq h1
 have g2 := gt_eq h2
 clear h0 h1 h2
 simp only [execOp, pb20]
 go_simp
theorem pbh20 {Q : Exit → Act → World → Prop} {a0 a : Act} {w0 w : World} {eb e0 : Nat} (_e1 : gt a0 1 = .pointer (some ⟨sb, 0, none⟩)) (_e5 : gt a0 5 = (.func (.func 55) #[] #[.pointer (some ⟨bx, 0, none⟩)])) (_b1 : w0.heap[sb]? = some (.cells #[St x0, St x1, St x2, St x3, St x4, St x5] 24 (0, 0))) (_ho : Off pbDs a0 a) (hk : Ke w0 bx eb e0 w)
   (hd : ∀ e ∈ (pb20).after, Region.binds .any e = true → e.on ≠ 36 → gt a (pbD e.on) = pbV x0 x1 x2 x3 x4 sb bx e.on) : wpOp Tryz.prog pbs Q 20 (fun a' w' => a' = a.put (some (pbD 20)) (pbV x0 x1 x2 x3 x4 sb bx 20) ∧ Ke w0 bx eb (firstN e0 (pbE x0 x1 x2 x3 x4 20)) w' ∧ Frx w.heap.size eb w w') a w := by
 refine op_call (i := 20) (o := pb20) (R := fun v w' => v = pbV x0 x1 x2 x3 x4 sb bx 20 ∧ Ke w0 bx eb (firstN e0 (pbE x0 x1 x2 x3 x4 20)) w' ∧ Frx w.heap.size eb w w') rfl rfl (pbx20 a w (hd { on := 14, ground := Go.Ground.data } (by simp [pb20]) (by decide) (by decide)) (hd { on := 18, ground := Go.Ground.data } (by simp [pb20]) (by decide) (by decide)) (hd { on := 19, ground := Go.Ground.data } (by simp [pb20]) (by decide) (by decide))) ((keep_any hk (pubRes x2).1 (pubRes x2).2).mono (fun e w' ⟨h1, h2, h3⟩ => ⟨_, h1, rfl, h2, h3⟩)) ?_
 rintro v w' ⟨rfl, h2, h3⟩
 exact ⟨rfl, h2, h3⟩
theorem pbx21 (a : Act) (W : World) (h0 : gt a 5 = (.func (.func 55) #[] #[.pointer (some ⟨bx, 0, none⟩)])) : (execOp a.eval pb21).run Tryz.prog W = .ok (.value ((.func (.func 55) #[] #[.pointer (some ⟨bx, 0, none⟩)]))) W := by
 have g0 := gt_eq h0
 clear h0
 simp only [execOp, pb21]
 go_simp
theorem pbh21 {Q : Exit → Act → World → Prop} {a0 a : Act} {w0 w : World} {eb e0 : Nat} (_e1 : gt a0 1 = .pointer (some ⟨sb, 0, none⟩)) (e5 : gt a0 5 = (.func (.func 55) #[] #[.pointer (some ⟨bx, 0, none⟩)])) (_b1 : w0.heap[sb]? = some (.cells #[St x0, St x1, St x2, St x3, St x4, St x5] 24 (0, 0))) (ho : Off pbDs a0 a) (_hk : Ke w0 bx eb e0 w)
   (_hd : ∀ e ∈ (pb21).after, Region.binds .any e = true → e.on ≠ 36 → gt a (pbD e.on) = pbV x0 x1 x2 x3 x4 sb bx e.on) : wpOp Tryz.prog pbs Q 21 (fun a' w' => a' = a.put (some (pbD 21)) (pbV x0 x1 x2 x3 x4 sb bx 21) ∧ Below w.heap.size w w') a w := by
 exact op_ok (i := 21) (o := pb21) rfl rfl (pbx21 a w ((ho.slot (by decide)).trans e5)) ⟨rfl, Below.refl _ _⟩
theorem pbx22 (a : Act) (W : World) (h0 : gt a 1 = .pointer (some ⟨sb, 0, none⟩)) : (execOp a.eval pb22).run Tryz.prog W = .ok (.value (.pointer (some ⟨sb, 3, none⟩))) W := by
 have g0 := gt_eq h0
 clear h0
 simp only [execOp, pb22]
 go_simp
theorem pbh22 {Q : Exit → Act → World → Prop} {a0 a : Act} {w0 w : World} {eb e0 : Nat} (e1 : gt a0 1 = .pointer (some ⟨sb, 0, none⟩)) (_e5 : gt a0 5 = (.func (.func 55) #[] #[.pointer (some ⟨bx, 0, none⟩)])) (_b1 : w0.heap[sb]? = some (.cells #[St x0, St x1, St x2, St x3, St x4, St x5] 24 (0, 0))) (ho : Off pbDs a0 a) (_hk : Ke w0 bx eb e0 w)
   (_hd : ∀ e ∈ (pb22).after, Region.binds .any e = true → e.on ≠ 36 → gt a (pbD e.on) = pbV x0 x1 x2 x3 x4 sb bx e.on) : wpOp Tryz.prog pbs Q 22 (fun a' w' => a' = a.put (some (pbD 22)) (pbV x0 x1 x2 x3 x4 sb bx 22) ∧ Below w.heap.size w w') a w := by
 exact op_ok (i := 22) (o := pb22) rfl rfl (pbx22 a w ((ho.slot (by decide)).trans e1)) ⟨rfl, Below.refl _ _⟩
theorem pbx23 (a : Act) (W : World) (h0 : gt a 30 = .pointer (some ⟨sb, 3, none⟩)) (c : W.cell? ⟨sb, 3, none⟩ = some (St x3)) : (execOp a.eval pb23).run Tryz.prog W = .ok (.value (St x3)) W := by
 have g0 := gt_eq h0
 clear h0
 simp only [execOp, pb23]
 go_simp
theorem pbh23 {Q : Exit → Act → World → Prop} {a0 a : Act} {w0 w : World} {eb e0 : Nat} (_e1 : gt a0 1 = .pointer (some ⟨sb, 0, none⟩)) (_e5 : gt a0 5 = (.func (.func 55) #[] #[.pointer (some ⟨bx, 0, none⟩)])) (b1 : w0.heap[sb]? = some (.cells #[St x0, St x1, St x2, St x3, St x4, St x5] 24 (0, 0))) (_ho : Off pbDs a0 a) (hk : Ke w0 bx eb e0 w)
   (hd : ∀ e ∈ (pb23).after, Region.binds .any e = true → e.on ≠ 36 → gt a (pbD e.on) = pbV x0 x1 x2 x3 x4 sb bx e.on) : wpOp Tryz.prog pbs Q 23 (fun a' w' => a' = a.put (some (pbD 23)) (pbV x0 x1 x2 x3 x4 sb bx 23) ∧ Below w.heap.size w w') a w := by
 exact op_ok (i := 23) (o := pb23) rfl rfl (pbx23 a w (hd { on := 22, ground := Go.Ground.data } (by simp [pb23]) (by decide) (by decide)) (by rw [cell_of_heap ((hk.bel.block _ (heap_lt b1)).trans b1)]; rfl)) ⟨rfl, Below.refl _ _⟩
theorem pbx24 (a : Act) (W : World) (h0 : gt a 31 = St x3) : (execOp a.eval pb24).run Tryz.prog W = .ok (.enter 24 #[St x3]) W := by
 have g0 := gt_eq h0
 clear h0
 simp only [execOp, pb24]
 go_simp
theorem pbh24 {Q : Exit → Act → World → Prop} {a0 a : Act} {w0 w : World} {eb e0 : Nat} (_e1 : gt a0 1 = .pointer (some ⟨sb, 0, none⟩)) (_e5 : gt a0 5 = (.func (.func 55) #[] #[.pointer (some ⟨bx, 0, none⟩)])) (_b1 : w0.heap[sb]? = some (.cells #[St x0, St x1, St x2, St x3, St x4, St x5] 24 (0, 0))) (_ho : Off pbDs a0 a) (_hk : Ke w0 bx eb e0 w)
   (hd : ∀ e ∈ (pb24).after, Region.binds .any e = true → e.on ≠ 36 → gt a (pbD e.on) = pbV x0 x1 x2 x3 x4 sb bx e.on) : wpOp Tryz.prog pbs Q 24 (fun a' w' => a' = a.put (some (pbD 24)) (pbV x0 x1 x2 x3 x4 sb bx 24) ∧ Below w.heap.size w w') a w := by
 refine op_call (i := 24) (o := pb24) (R := fun v w' => v = pbV x0 x1 x2 x3 x4 sb bx 24 ∧ Below w.heap.size w w') rfl rfl (pbx24 a w (hd { on := 23, ground := Go.Ground.data } (by simp [pb24]) (by decide) (by decide))) ((pubs_any x3 w).mono (fun e w' ⟨h1, h2⟩ => ⟨_, h1, rfl, h2⟩)) ?_
 rintro v w' ⟨rfl, h2⟩
 exact ⟨rfl, h2⟩
theorem pbx25 (a : Act) (W : World) (h0 : gt a 32 = .tuple #[St (pubRes x3).1, .int .i64 ((pubRes x3).2 : Int)]) : (execOp a.eval pb25).run Tryz.prog W = .ok (.value (St (pubRes x3).1)) W := by
 have g0 := gt_eq h0
 clear h0
 simp only [execOp, pb25]
 go_simp
theorem pbh25 {Q : Exit → Act → World → Prop} {a0 a : Act} {w0 w : World} {eb e0 : Nat} (_e1 : gt a0 1 = .pointer (some ⟨sb, 0, none⟩)) (_e5 : gt a0 5 = (.func (.func 55) #[] #[.pointer (some ⟨bx, 0, none⟩)])) (_b1 : w0.heap[sb]? = some (.cells #[St x0, St x1, St x2, St x3, St x4, St x5] 24 (0, 0))) (_ho : Off pbDs a0 a) (_hk : Ke w0 bx eb e0 w)
   (hd : ∀ e ∈ (pb25).after, Region.binds .any e = true → e.on ≠ 36 → gt a (pbD e.on) = pbV x0 x1 x2 x3 x4 sb bx e.on) : wpOp Tryz.prog pbs Q 25 (fun a' w' => a' = a.put (some (pbD 25)) (pbV x0 x1 x2 x3 x4 sb bx 25) ∧ Below w.heap.size w w') a w := by
 exact op_ok (i := 25) (o := pb25) rfl rfl (pbx25 a w (hd { on := 24, ground := Go.Ground.data } (by simp [pb25]) (by decide) (by decide))) ⟨rfl, Below.refl _ _⟩
theorem pbx26 (a : Act) (W : World) (h0 : gt a 32 = .tuple #[St (pubRes x3).1, .int .i64 ((pubRes x3).2 : Int)]) : (execOp a.eval pb26).run Tryz.prog W = .ok (.value (.int .i64 ((pubRes x3).2 : Int))) W := by
 have g0 := gt_eq h0
 clear h0
 simp only [execOp, pb26]
 go_simp
theorem pbh26 {Q : Exit → Act → World → Prop} {a0 a : Act} {w0 w : World} {eb e0 : Nat} (_e1 : gt a0 1 = .pointer (some ⟨sb, 0, none⟩)) (_e5 : gt a0 5 = (.func (.func 55) #[] #[.pointer (some ⟨bx, 0, none⟩)])) (_b1 : w0.heap[sb]? = some (.cells #[St x0, St x1, St x2, St x3, St x4, St x5] 24 (0, 0))) (_ho : Off pbDs a0 a) (_hk : Ke w0 bx eb e0 w)
   (hd : ∀ e ∈ (pb26).after, Region.binds .any e = true → e.on ≠ 36 → gt a (pbD e.on) = pbV x0 x1 x2 x3 x4 sb bx e.on) : wpOp Tryz.prog pbs Q 26 (fun a' w' => a' = a.put (some (pbD 26)) (pbV x0 x1 x2 x3 x4 sb bx 26) ∧ Below w.heap.size w w') a w := by
 exact op_ok (i := 26) (o := pb26) rfl rfl (pbx26 a w (hd { on := 24, ground := Go.Ground.data } (by simp [pb26]) (by decide) (by decide))) ⟨rfl, Below.refl _ _⟩
theorem pbx27 (a : Act) (W : World) (h0 : gt a 29 = (.func (.func 55) #[] #[.pointer (some ⟨bx, 0, none⟩)])) (h1 : gt a 33 = St (pubRes x3).1) (h2 : gt a 34 = .int .i64 ((pubRes x3).2 : Int)) : (execOp a.eval pb27).run Tryz.prog W = .ok (.enter 55 #[St (pubRes x3).1, .int .i64 ((pubRes x3).2 : Int), .pointer (some ⟨bx, 0, none⟩)]) W := by
 have g0 := gt_eq h0
 have g1 := gt_eq h1
 have g2 := gt_eq h2
 clear h0 h1 h2
 simp only [execOp, pb27]
 go_simp
theorem pbh27 {Q : Exit → Act → World → Prop} {a0 a : Act} {w0 w : World} {eb e0 : Nat} (_e1 : gt a0 1 = .pointer (some ⟨sb, 0, none⟩)) (_e5 : gt a0 5 = (.func (.func 55) #[] #[.pointer (some ⟨bx, 0, none⟩)])) (_b1 : w0.heap[sb]? = some (.cells #[St x0, St x1, St x2, St x3, St x4, St x5] 24 (0, 0))) (_ho : Off pbDs a0 a) (hk : Ke w0 bx eb e0 w)
   (hd : ∀ e ∈ (pb27).after, Region.binds .any e = true → e.on ≠ 36 → gt a (pbD e.on) = pbV x0 x1 x2 x3 x4 sb bx e.on) : wpOp Tryz.prog pbs Q 27 (fun a' w' => a' = a.put (some (pbD 27)) (pbV x0 x1 x2 x3 x4 sb bx 27) ∧ Ke w0 bx eb (firstN e0 (pbE x0 x1 x2 x3 x4 27)) w' ∧ Frx w.heap.size eb w w') a w := by
 refine op_call (i := 27) (o := pb27) (R := fun v w' => v = pbV x0 x1 x2 x3 x4 sb bx 27 ∧ Ke w0 bx eb (firstN e0 (pbE x0 x1 x2 x3 x4 27)) w' ∧ Frx w.heap.size eb w w') rfl rfl (pbx27 a w (hd { on := 21, ground := Go.Ground.data } (by simp [pb27]) (by decide) (by decide)) (hd { on := 25, ground := Go.Ground.data } (by simp [pb27]) (by decide) (by decide)) (hd { on := 26, ground := Go.Ground.data } (by simp [pb27]) (by decide) (by decide))) ((keep_any hk (pubRes x3).1 (pubRes x3).2).mono (fun e w' ⟨h1, h2, h3⟩ => ⟨_, h1, rfl, h2, h3⟩)) ?_
 rintro v w' ⟨rfl, h2, h3⟩
 exact ⟨rfl, h2, h3⟩
theorem pbx28 (a : Act) (W : World) (h0 : gt a 5 = (.func (.func 55) #[] #[.pointer (some ⟨bx, 0, none⟩)])) : (execOp a.eval pb28).run Tryz.prog W = .ok (.value ((.func (.func 55) #[] #[.pointer (some ⟨bx, 0, none⟩)]))) W := by
 have g0 := gt_eq h0
 clear h0
 simp only [execOp, pb28]
 go_simp
theorem pbh28 {Q : Exit → Act → World → Prop} {a0 a : Act} {w0 w : World} {eb e0 : Nat} (_e1 : gt a0 1 = .pointer (some ⟨sb, 0, none⟩)) (e5 : gt a0 5 = (.func (.func 55) #[] #[.pointer (some ⟨bx, 0, none⟩)])) (_b1 : w0.heap[sb]? = some (.cells #[St x0, St x1, St x2, St x3, St x4, St x5] 24 (0, 0))) (ho : Off pbDs a0 a) (_hk : Ke w0 bx eb e0 w)
   (_hd : ∀ e ∈ (pb28).after, Region.binds .any e = true → e.on ≠ 36 → gt a (pbD e.on) = pbV x0 x1 x2 x3 x4 sb bx e.on) : wpOp Tryz.prog pbs Q 28 (fun a' w' => a' = a.put (some (pbD 28)) (pbV x0 x1 x2 x3 x4 sb bx 28) ∧ Below w.heap.size w w') a w := by
 exact op_ok (i := 28) (o := pb28) rfl rfl (pbx28 a w ((ho.slot (by decide)).trans e5)) ⟨rfl, Below.refl _ _⟩
theorem pbx29 (a : Act) (W : World) (h0 : gt a 1 = .pointer (some ⟨sb, 0, none⟩)) : (execOp a.eval pb29).run Tryz.prog W = .ok (.value (.pointer (some ⟨sb, 4, none⟩))) W := by
 have g0 := gt_eq h0
 clear h0
 simp only [execOp, pb29]
 go_simp
theorem pbh29 {Q : Exit → Act → World → Prop} {a0 a : Act} {w0 w : World} {eb e0 : Nat} (e1 : gt a0 1 = .pointer (some ⟨sb, 0, none⟩)) (_e5 : gt a0 5 = (.func (.func 55) #[] #[.pointer (some ⟨bx, 0, none⟩)])) (_b1 : w0.heap[sb]? = some (.cells #[St x0, St x1, St x2, St x3, St x4, St x5] 24 (0, 0))) (ho : Off pbDs a0 a) (_hk : Ke w0 bx eb e0 w)
   (_hd : ∀ e ∈ (pb29).after, Region.binds .any e = true → e.on ≠ 36 → gt a (pbD e.on) = pbV x0 x1 x2 x3 x4 sb bx e.on) : wpOp Tryz.prog pbs Q 29 (fun a' w' => a' = a.put (some (pbD 29)) (pbV x0 x1 x2 x3 x4 sb bx 29) ∧ Below w.heap.size w w') a w := by
 exact op_ok (i := 29) (o := pb29) rfl rfl (pbx29 a w ((ho.slot (by decide)).trans e1)) ⟨rfl, Below.refl _ _⟩
theorem pbx30 (a : Act) (W : World) (h0 : gt a 37 = .pointer (some ⟨sb, 4, none⟩)) (c : W.cell? ⟨sb, 4, none⟩ = some (St x4)) : (execOp a.eval pb30).run Tryz.prog W = .ok (.value (St x4)) W := by
 have g0 := gt_eq h0
 clear h0
 simp only [execOp, pb30]
 go_simp
theorem pbh30 {Q : Exit → Act → World → Prop} {a0 a : Act} {w0 w : World} {eb e0 : Nat} (_e1 : gt a0 1 = .pointer (some ⟨sb, 0, none⟩)) (_e5 : gt a0 5 = (.func (.func 55) #[] #[.pointer (some ⟨bx, 0, none⟩)])) (b1 : w0.heap[sb]? = some (.cells #[St x0, St x1, St x2, St x3, St x4, St x5] 24 (0, 0))) (_ho : Off pbDs a0 a) (hk : Ke w0 bx eb e0 w)
   (hd : ∀ e ∈ (pb30).after, Region.binds .any e = true → e.on ≠ 36 → gt a (pbD e.on) = pbV x0 x1 x2 x3 x4 sb bx e.on) : wpOp Tryz.prog pbs Q 30 (fun a' w' => a' = a.put (some (pbD 30)) (pbV x0 x1 x2 x3 x4 sb bx 30) ∧ Below w.heap.size w w') a w := by
 exact op_ok (i := 30) (o := pb30) rfl rfl (pbx30 a w (hd { on := 29, ground := Go.Ground.data } (by simp [pb30]) (by decide) (by decide)) (by rw [cell_of_heap ((hk.bel.block _ (heap_lt b1)).trans b1)]; rfl)) ⟨rfl, Below.refl _ _⟩
theorem pbx31 (a : Act) (W : World) (h0 : gt a 38 = St x4) : (execOp a.eval pb31).run Tryz.prog W = .ok (.enter 24 #[St x4]) W := by
 have g0 := gt_eq h0
 clear h0
 simp only [execOp, pb31]
 go_simp
theorem pbh31 {Q : Exit → Act → World → Prop} {a0 a : Act} {w0 w : World} {eb e0 : Nat} (_e1 : gt a0 1 = .pointer (some ⟨sb, 0, none⟩)) (_e5 : gt a0 5 = (.func (.func 55) #[] #[.pointer (some ⟨bx, 0, none⟩)])) (_b1 : w0.heap[sb]? = some (.cells #[St x0, St x1, St x2, St x3, St x4, St x5] 24 (0, 0))) (_ho : Off pbDs a0 a) (_hk : Ke w0 bx eb e0 w)
   (hd : ∀ e ∈ (pb31).after, Region.binds .any e = true → e.on ≠ 36 → gt a (pbD e.on) = pbV x0 x1 x2 x3 x4 sb bx e.on) : wpOp Tryz.prog pbs Q 31 (fun a' w' => a' = a.put (some (pbD 31)) (pbV x0 x1 x2 x3 x4 sb bx 31) ∧ Below w.heap.size w w') a w := by
 refine op_call (i := 31) (o := pb31) (R := fun v w' => v = pbV x0 x1 x2 x3 x4 sb bx 31 ∧ Below w.heap.size w w') rfl rfl (pbx31 a w (hd { on := 30, ground := Go.Ground.data } (by simp [pb31]) (by decide) (by decide))) ((pubs_any x4 w).mono (fun e w' ⟨h1, h2⟩ => ⟨_, h1, rfl, h2⟩)) ?_
 rintro v w' ⟨rfl, h2⟩
 exact ⟨rfl, h2⟩
theorem pbx32 (a : Act) (W : World) (h0 : gt a 39 = .tuple #[St (pubRes x4).1, .int .i64 ((pubRes x4).2 : Int)]) : (execOp a.eval pb32).run Tryz.prog W = .ok (.value (St (pubRes x4).1)) W := by
 have g0 := gt_eq h0
 clear h0
 simp only [execOp, pb32]
 go_simp
theorem pbh32 {Q : Exit → Act → World → Prop} {a0 a : Act} {w0 w : World} {eb e0 : Nat} (_e1 : gt a0 1 = .pointer (some ⟨sb, 0, none⟩)) (_e5 : gt a0 5 = (.func (.func 55) #[] #[.pointer (some ⟨bx, 0, none⟩)])) (_b1 : w0.heap[sb]? = some (.cells #[St x0, St x1, St x2, St x3, St x4, St x5] 24 (0, 0))) (_ho : Off pbDs a0 a) (_hk : Ke w0 bx eb e0 w)
   (hd : ∀ e ∈ (pb32).after, Region.binds .any e = true → e.on ≠ 36 → gt a (pbD e.on) = pbV x0 x1 x2 x3 x4 sb bx e.on) : wpOp Tryz.prog pbs Q 32 (fun a' w' => a' = a.put (some (pbD 32)) (pbV x0 x1 x2 x3 x4 sb bx 32) ∧ Below w.heap.size w w') a w := by
 exact op_ok (i := 32) (o := pb32) rfl rfl (pbx32 a w (hd { on := 31, ground := Go.Ground.data } (by simp [pb32]) (by decide) (by decide))) ⟨rfl, Below.refl _ _⟩
theorem pbx33 (a : Act) (W : World) (h0 : gt a 39 = .tuple #[St (pubRes x4).1, .int .i64 ((pubRes x4).2 : Int)]) : (execOp a.eval pb33).run Tryz.prog W = .ok (.value (.int .i64 ((pubRes x4).2 : Int))) W := by
 have g0 := gt_eq h0
 clear h0
 simp only [execOp, pb33]
 go_simp
theorem pbh33 {Q : Exit → Act → World → Prop} {a0 a : Act} {w0 w : World} {eb e0 : Nat} (_e1 : gt a0 1 = .pointer (some ⟨sb, 0, none⟩)) (_e5 : gt a0 5 = (.func (.func 55) #[] #[.pointer (some ⟨bx, 0, none⟩)])) (_b1 : w0.heap[sb]? = some (.cells #[St x0, St x1, St x2, St x3, St x4, St x5] 24 (0, 0))) (_ho : Off pbDs a0 a) (_hk : Ke w0 bx eb e0 w)
   (hd : ∀ e ∈ (pb33).after, Region.binds .any e = true → e.on ≠ 36 → gt a (pbD e.on) = pbV x0 x1 x2 x3 x4 sb bx e.on) : wpOp Tryz.prog pbs Q 33 (fun a' w' => a' = a.put (some (pbD 33)) (pbV x0 x1 x2 x3 x4 sb bx 33) ∧ Below w.heap.size w w') a w := by
 exact op_ok (i := 33) (o := pb33) rfl rfl (pbx33 a w (hd { on := 31, ground := Go.Ground.data } (by simp [pb33]) (by decide) (by decide))) ⟨rfl, Below.refl _ _⟩
theorem pbx34 (a : Act) (W : World) (h0 : gt a 36 = (.func (.func 55) #[] #[.pointer (some ⟨bx, 0, none⟩)])) (h1 : gt a 40 = St (pubRes x4).1) (h2 : gt a 41 = .int .i64 ((pubRes x4).2 : Int)) : (execOp a.eval pb34).run Tryz.prog W = .ok (.enter 55 #[St (pubRes x4).1, .int .i64 ((pubRes x4).2 : Int), .pointer (some ⟨bx, 0, none⟩)]) W := by
 have g0 := gt_eq h0
 have g1 := gt_eq h1
 have g2 := gt_eq h2
 clear h0 h1 h2
 simp only [execOp, pb34]
 go_simp
theorem pbh34 {Q : Exit → Act → World → Prop} {a0 a : Act} {w0 w : World} {eb e0 : Nat} (_e1 : gt a0 1 = .pointer (some ⟨sb, 0, none⟩)) (_e5 : gt a0 5 = (.func (.func 55) #[] #[.pointer (some ⟨bx, 0, none⟩)])) (_b1 : w0.heap[sb]? = some (.cells #[St x0, St x1, St x2, St x3, St x4, St x5] 24 (0, 0))) (_ho : Off pbDs a0 a) (hk : Ke w0 bx eb e0 w)
   (hd : ∀ e ∈ (pb34).after, Region.binds .any e = true → e.on ≠ 36 → gt a (pbD e.on) = pbV x0 x1 x2 x3 x4 sb bx e.on) : wpOp Tryz.prog pbs Q 34 (fun a' w' => a' = a.put (some (pbD 34)) (pbV x0 x1 x2 x3 x4 sb bx 34) ∧ Ke w0 bx eb (firstN e0 (pbE x0 x1 x2 x3 x4 34)) w' ∧ Frx w.heap.size eb w w') a w := by
 refine op_call (i := 34) (o := pb34) (R := fun v w' => v = pbV x0 x1 x2 x3 x4 sb bx 34 ∧ Ke w0 bx eb (firstN e0 (pbE x0 x1 x2 x3 x4 34)) w' ∧ Frx w.heap.size eb w w') rfl rfl (pbx34 a w (hd { on := 28, ground := Go.Ground.data } (by simp [pb34]) (by decide) (by decide)) (hd { on := 32, ground := Go.Ground.data } (by simp [pb34]) (by decide) (by decide)) (hd { on := 33, ground := Go.Ground.data } (by simp [pb34]) (by decide) (by decide))) ((keep_any hk (pubRes x4).1 (pubRes x4).2).mono (fun e w' ⟨h1, h2, h3⟩ => ⟨_, h1, rfl, h2, h3⟩)) ?_
 rintro v w' ⟨rfl, h2, h3⟩
 exact ⟨rfl, h2, h3⟩
theorem pbx35 (a : Act) (W : World) (h0 : gt a 14 = St (pubRes x0).1) (h1 : gt a 21 = St (pubRes x1).1) (h2 : gt a 28 = St (pubRes x2).1) (h3 : gt a 35 = St (pubRes x3).1) (h4 : gt a 42 = St (pubRes x4).1) : (execOp a.eval pb35).run Tryz.prog W = .ok (.value (.agg #[St (pubRes x0).1, St (pubRes x1).1, St (pubRes x2).1, St (pubRes x3).1, St (pubRes x4).1])) W := by
 have g0 := gt_eq h0
 have g1 := gt_eq h1
 have g2 := gt_eq h2
 have g3 := gt_eq h3
 have g4 := gt_eq h4
 clear h0 h1 h2 h3 h4
 simp only [execOp, pb35]
 go_simp
theorem pbh35 {Q : Exit → Act → World → Prop} {a0 a : Act} {w0 w : World} {eb e0 : Nat} (_e1 : gt a0 1 = .pointer (some ⟨sb, 0, none⟩)) (_e5 : gt a0 5 = (.func (.func 55) #[] #[.pointer (some ⟨bx, 0, none⟩)])) (_b1 : w0.heap[sb]? = some (.cells #[St x0, St x1, St x2, St x3, St x4, St x5] 24 (0, 0))) (_ho : Off pbDs a0 a) (_hk : Ke w0 bx eb e0 w)
   (hd : ∀ e ∈ (pb35).after, Region.binds .any e = true → e.on ≠ 36 → gt a (pbD e.on) = pbV x0 x1 x2 x3 x4 sb bx e.on) : wpOp Tryz.prog pbs Q 35 (fun a' w' => a' = a.put (some (pbD 35)) (pbV x0 x1 x2 x3 x4 sb bx 35) ∧ Below w.heap.size w w') a w := by
 exact op_ok (i := 35) (o := pb35) rfl rfl (pbx35 a w (hd { on := 6, ground := Go.Ground.data } (by simp [pb35]) (by decide) (by decide)) (hd { on := 13, ground := Go.Ground.data } (by simp [pb35]) (by decide) (by decide)) (hd { on := 20, ground := Go.Ground.data } (by simp [pb35]) (by decide) (by decide)) (hd { on := 27, ground := Go.Ground.data } (by simp [pb35]) (by decide) (by decide)) (hd { on := 34, ground := Go.Ground.data } (by simp [pb35]) (by decide) (by decide))) ⟨rfl, Below.refl _ _⟩
theorem pbxa (a : Act) (W : World) : (execOp a.eval pb36).run Tryz.prog W = .ok (.value (.pointer (some ⟨W.heap.size, 0, none⟩))) (W.alloc (.cells #[St [], St [], St [], St [], St []] 33)) := by
 simp only [execOp, pb36]
 go_simp
theorem pbxz (a : Act) (W : World) (g : Nat) (hg : W.heap[g]? = some (.cells #[St [], St [], St [], St [], St []] 33 (0, 0))) (h0 : gt a 6 = .pointer (some ⟨g, 0, none⟩)) (h1 : gt a 43 = .agg #[St (pubRes x0).1, St (pubRes x1).1, St (pubRes x2).1, St (pubRes x3).1, St (pubRes x4).1]) :
   (execOp a.eval pb37).run Tryz.prog W = .ok .skip (((((W.setCell ⟨g, 0, none⟩ (St (pubRes x0).1)).setCell ⟨g, 1, none⟩ (St (pubRes x1).1)).setCell ⟨g, 2, none⟩ (St (pubRes x2).1)).setCell ⟨g, 3, none⟩ (St (pubRes x3).1)).setCell ⟨g, 4, none⟩ (St (pubRes x4).1)) := by
 have g0 := gt_eq h0
 have g1 := gt_eq h1
 have c : ∀ o, W.cell? ⟨g, o, none⟩ = (#[St [], St [], St [], St [], St []] : Array Value)[o]? := fun o => cell_of_heap hg o
 have f : ∀ o, W.frozen? ⟨g, o, none⟩ = false := fun o => frozen_of_heap hg o
 have c0 : W.cell? ⟨g, 0, none⟩ = some (St []) := c 0
 have c1 : W.cell? ⟨g, 1, none⟩ = some (St []) := c 1
 have c2 : W.cell? ⟨g, 2, none⟩ = some (St []) := c 2
 have c3 : W.cell? ⟨g, 3, none⟩ = some (St []) := c 3
 have c4 : W.cell? ⟨g, 4, none⟩ = some (St []) := c 4
 clear h0 h1 c hg
 simp only [execOp, pb37]
 go_simp
end
def pbC : List Nat := [6, 13, 20, 27, 34]
set_option maxRecDepth 10000 in
theorem pbchain (l : Array Bool) (hc : ∀ (i : Nat) (o : Oper), pbs[i]? = some o → dn l i → ∀ e ∈ o.after, Region.binds .any e = true → dn l e.on) : pbC.Pairwise (fun j k => dn l k → dn l j) := by
 have k13 : dn l 13 → dn l 6 := fun hd13 => (hc 10 pb10 rfl (hc 13 pb13 rfl hd13 { on := 10, ground := Go.Ground.chain } (by simp [pb13]) (by decide)) { on := 6, ground := Go.Ground.chain } (by simp [pb10]) (by decide))
 have k20 : dn l 20 → dn l 13 := fun hd20 => (hc 17 pb17 rfl (hc 20 pb20 rfl hd20 { on := 17, ground := Go.Ground.chain } (by simp [pb20]) (by decide)) { on := 13, ground := Go.Ground.chain } (by simp [pb17]) (by decide))
 have k27 : dn l 27 → dn l 20 := fun hd27 => (hc 24 pb24 rfl (hc 27 pb27 rfl hd27 { on := 24, ground := Go.Ground.chain } (by simp [pb27]) (by decide)) { on := 20, ground := Go.Ground.chain } (by simp [pb24]) (by decide))
 have k34 : dn l 34 → dn l 27 := fun hd34 => (hc 31 pb31 rfl (hc 34 pb34 rfl hd34 { on := 31, ground := Go.Ground.chain } (by simp [pb34]) (by decide)) { on := 27, ground := Go.Ground.chain } (by simp [pb31]) (by decide))
 unfold pbC
 simp only [List.pairwise_cons, List.mem_cons, List.not_mem_nil, or_false, forall_eq_or_imp, forall_eq, List.Pairwise.nil, and_true, false_imp_iff, implies_true]
 exact ⟨⟨(fun h => k13 h), (fun h => k13 (k20 h)), (fun h => k13 (k20 (k27 h))), (fun h => k13 (k20 (k27 (k34 h))))⟩, ⟨(fun h => k20 h), (fun h => k20 (k27 h)), (fun h => k20 (k27 (k34 h)))⟩, ⟨(fun h => k27 h), (fun h => k27 (k34 h))⟩, (fun h => k34 h)⟩
section
variable {x0 x1 x2 x3 x4 x5 : Bs} {sb bx : Nat}
set_option maxRecDepth 10000 in
theorem pbpure {Q : Exit → Act → World → Prop} {a0 : Act} {w0 : World} {eb : Nat} (e1 : gt a0 1 = .pointer (some ⟨sb, 0, none⟩)) (e5 : gt a0 5 = (.func (.func 55) #[] #[.pointer (some ⟨bx, 0, none⟩)])) (b1 : w0.heap[sb]? = some (.cells #[St x0, St x1, St x2, St x3, St x4, St x5] 24 (0, 0))) (i : Nat) (o : Oper) (a : Act) (w : World) (e0 : Nat) (h : pbs[i]? = some o) (hi : i < 37 ∧ i ≠ 36 ∧ i ∉ pbC) (ho : Off pbDs a0 a) (hk : Ke w0 bx eb e0 w)
   (hd : ∀ e ∈ o.after, Region.binds .any e = true → e.on ≠ 36 → gt a (pbD e.on) = pbV x0 x1 x2 x3 x4 sb bx e.on) : wpOp Tryz.prog pbs Q i (fun a' w' => a' = a.put (some (pbD i)) (pbV x0 x1 x2 x3 x4 sb bx i) ∧ Below w.heap.size w w') a w := by
 match i, h, hi with
 | 0, h, hi => (cases h; exact pbh0 e1 e5 b1 ho hk hd)
 | 1, h, hi => (cases h; exact pbh1 e1 e5 b1 ho hk hd)
 | 2, h, hi => (cases h; exact pbh2 e1 e5 b1 ho hk hd)
 | 3, h, hi => (cases h; exact pbh3 e1 e5 b1 ho hk hd)
 | 4, h, hi => (cases h; exact pbh4 e1 e5 b1 ho hk hd)
 | 5, h, hi => (cases h; exact pbh5 e1 e5 b1 ho hk hd)
 | 6, h, hi => exact absurd (show 6 ∈ pbC by decide) hi.2.2
 | 7, h, hi => (cases h; exact pbh7 e1 e5 b1 ho hk hd)
 | 8, h, hi => (cases h; exact pbh8 e1 e5 b1 ho hk hd)
 | 9, h, hi => (cases h; exact pbh9 e1 e5 b1 ho hk hd)
 | 10, h, hi => (cases h; exact pbh10 e1 e5 b1 ho hk hd)
 | 11, h, hi => (cases h; exact pbh11 e1 e5 b1 ho hk hd)
 | 12, h, hi => (cases h; exact pbh12 e1 e5 b1 ho hk hd)
 | 13, h, hi => exact absurd (show 13 ∈ pbC by decide) hi.2.2
 | 14, h, hi => (cases h; exact pbh14 e1 e5 b1 ho hk hd)
 | 15, h, hi => (cases h; exact pbh15 e1 e5 b1 ho hk hd)
 | 16, h, hi => (cases h; exact pbh16 e1 e5 b1 ho hk hd)
 | 17, h, hi => (cases h; exact pbh17 e1 e5 b1 ho hk hd)
 | 18, h, hi => (cases h; exact pbh18 e1 e5 b1 ho hk hd)
 | 19, h, hi => (cases h; exact pbh19 e1 e5 b1 ho hk hd)
 | 20, h, hi => exact absurd (show 20 ∈ pbC by decide) hi.2.2
 | 21, h, hi => (cases h; exact pbh21 e1 e5 b1 ho hk hd)
 | 22, h, hi => (cases h; exact pbh22 e1 e5 b1 ho hk hd)
 | 23, h, hi => (cases h; exact pbh23 e1 e5 b1 ho hk hd)
 | 24, h, hi => (cases h; exact pbh24 e1 e5 b1 ho hk hd)
 | 25, h, hi => (cases h; exact pbh25 e1 e5 b1 ho hk hd)
 | 26, h, hi => (cases h; exact pbh26 e1 e5 b1 ho hk hd)
 | 27, h, hi => exact absurd (show 27 ∈ pbC by decide) hi.2.2
 | 28, h, hi => (cases h; exact pbh28 e1 e5 b1 ho hk hd)
 | 29, h, hi => (cases h; exact pbh29 e1 e5 b1 ho hk hd)
 | 30, h, hi => (cases h; exact pbh30 e1 e5 b1 ho hk hd)
 | 31, h, hi => (cases h; exact pbh31 e1 e5 b1 ho hk hd)
 | 32, h, hi => (cases h; exact pbh32 e1 e5 b1 ho hk hd)
 | 33, h, hi => (cases h; exact pbh33 e1 e5 b1 ho hk hd)
 | 34, h, hi => exact absurd (show 34 ∈ pbC by decide) hi.2.2
 | 35, h, hi => (cases h; exact pbh35 e1 e5 b1 ho hk hd)
 | 36, h, hi => exact absurd rfl hi.2.1
 | 37, h, hi => exact absurd hi.1 (by decide)
 | n + 38, h, hi => exact absurd hi.1 (by omega)
set_option maxRecDepth 10000 in
theorem pbclo {Q : Exit → Act → World → Prop} {a0 : Act} {w0 : World} {eb : Nat} (e1 : gt a0 1 = .pointer (some ⟨sb, 0, none⟩)) (e5 : gt a0 5 = (.func (.func 55) #[] #[.pointer (some ⟨bx, 0, none⟩)])) (b1 : w0.heap[sb]? = some (.cells #[St x0, St x1, St x2, St x3, St x4, St x5] 24 (0, 0))) (i : Nat) (o : Oper) (a : Act) (w : World) (e0 : Nat) (h : pbs[i]? = some o) (hi : i ∈ pbC) (ho : Off pbDs a0 a) (hk : Ke w0 bx eb e0 w)
   (hd : ∀ e ∈ o.after, Region.binds .any e = true → e.on ≠ 36 → gt a (pbD e.on) = pbV x0 x1 x2 x3 x4 sb bx e.on) : wpOp Tryz.prog pbs Q i (fun a' w' => a' = a.put (some (pbD i)) (pbV x0 x1 x2 x3 x4 sb bx i) ∧ Ke w0 bx eb (firstN e0 (pbE x0 x1 x2 x3 x4 i)) w' ∧ Frx w.heap.size eb w w') a w := by
 have hi' : i = 6 ∨ i = 13 ∨ i = 20 ∨ i = 27 ∨ i = 34 := by simpa [pbC] using hi
 rcases hi' with rfl | rfl | rfl | rfl | rfl
 · cases h; exact pbh6 e1 e5 b1 ho hk hd
 · cases h; exact pbh13 e1 e5 b1 ho hk hd
 · cases h; exact pbh20 e1 e5 b1 ho hk hd
 · cases h; exact pbh27 e1 e5 b1 ho hk hd
 · cases h; exact pbh34 e1 e5 b1 ho hk hd
theorem pbsto {Q : Exit → Act → World → Prop} {a0 : Act} (o : Oper) (a : Act) (w : World) (g : Nat) (h : pbs[37]? = some o) (_ho : Off pbDs a0 a) (hg : gt a (pbD 36) = .pointer (some ⟨g, 0, none⟩)) (hb : w.heap[g]? = some (.cells #[St [], St [], St [], St [], St []] 33 (0, 0)))
   (hd : ∀ e ∈ o.after, Region.binds .any e = true → e.on ≠ 36 → gt a (pbD e.on) = pbV x0 x1 x2 x3 x4 sb bx e.on) : wpOp Tryz.prog pbs Q 37 (fun a' w' => a' = a ∧ w'.heap[g]? = some (.cells #[St (pubRes x0).1, St (pubRes x1).1, St (pubRes x2).1, St (pubRes x3).1, St (pubRes x4).1] 33 (0, 0)) ∧ Frx w.heap.size g w w') a w := by
 cases h
 refine op_skip (i := 37) (o := pb37) rfl rfl (pbxz a w g hb hg (hd { on := 35, ground := Go.Ground.data } (show _ ∈ (pb37).after by simp [pb37]) (by decide) (by decide))) ⟨rfl, ?_, ?_⟩
 · exact heap_setCell_same (heap_setCell_same (heap_setCell_same (heap_setCell_same (heap_setCell_same (hb) 0 _) 1 _) 2 _) 3 _) 4 _
 · exact (((((Frx.refl _ _ _).setCell 0 _).setCell 1 _).setCell 2 _).setCell 3 _).setCell 4 _
end
section
variable {x0 x1 x2 x3 x4 x5 : Bs} {sb bx : Nat}
set_option maxRecDepth 10000 in
theorem pbreg {Q : Exit → Act → World → Prop} {a0 : Act} {w0 w1 : World} {eb : Nat} (e1 : gt a0 1 = .pointer (some ⟨sb, 0, none⟩)) (e5 : gt a0 5 = (.func (.func 55) #[] #[.pointer (some ⟨bx, 0, none⟩)])) (b1 : w0.heap[sb]? = some (.cells #[St x0, St x1, St x2, St x3, St x4, St x5] 24 (0, 0))) (hz : 44 ≤ a0.tmps.size) (hk : Ke w0 bx eb 0 w1)
   (hd : ∀ (a : Act) (w : World) (g : Nat), Off pbDs a0 a → gt a (pbD 36) = .pointer (some ⟨g, 0, none⟩) → w0.heap.size ≤ g → g ≠ eb → g ≠ bx → Ke w0 bx eb (errsAll (pbE x0 x1 x2 x3 x4) pbC 0) w → w.heap[g]? = some (.cells #[St (pubRes x0).1, St (pubRes x1).1, St (pubRes x2).1, St (pubRes x3).1, St (pubRes x4).1] 33 (0, 0)) → Q .normal a w) : (Code.region 3 pbs true).wp Tryz.prog Q a0 w1 :=
 region_made pbDs pbD (pbV x0 x1 x2 x3 x4 sb bx) 36 37 pbC (pbE x0 x1 x2 x3 x4) #[St [], St [], St [], St [], St []] #[St (pubRes x0).1, St (pubRes x1).1, St (pubRes x2).1, St (pubRes x3).1, St (pubRes x4).1] 33 rfl rfl (by decide) pbs_back (fun i hi => ⟨pbD_mem hi, Nat.lt_of_lt_of_le (pbD_lt ⟨i, hi⟩) hz⟩) (fun i j hi hj h => pbD_inj ⟨i, hi⟩ ⟨j, hj⟩ (fun e => h (congrArg Fin.val e)))
   (by decide) (by decide) pbchain (fun o h => by cases h; exact ⟨{ on := 36, ground := Go.Ground.data }, (show _ ∈ (pb37).after by simp [pb37]), by decide, rfl⟩) hk
   (fun i o a w e0 h h1 h2 h3 ho hk hd => pbpure e1 e5 b1 i o a w e0 h ⟨h1, h2, h3⟩ ho hk hd)
   (fun i o a w e0 h h1 ho hk hd => pbclo e1 e5 b1 i o a w e0 h h1 ho hk hd)
   (fun a w => op_ok (i := 36) (o := pb36) rfl rfl (pbxa a w) ⟨rfl, rfl⟩)
   (fun o a w g h ho hg hb hd => pbsto o a w g h ho hg hb hd)
   (fun a w g ho _ hg h1 h2 h3 hk hb => hd a w g ho hg h1 h2 h3 hk hb)
end
end Go.Proofs.YtkifchjpgdmcoaaGreatDoor
