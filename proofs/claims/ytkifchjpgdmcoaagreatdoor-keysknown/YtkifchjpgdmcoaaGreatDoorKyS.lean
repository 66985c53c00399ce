/- Keys: a region that makes terms one behind the other, whatever order is drawn. -/
import Derived.Test.YtkifchjpgdmcoaaGreatDoorKyBAll
namespace Go.Proofs.YtkifchjpgdmcoaaGreatDoor
open Go.RowKit
def sb0 : Oper := { dst := some 12, op := Op.move (Operand.tmp 9), type := 56, pos := "keys.go:75", after := #[], guard := none }
def sb1 : Oper := { dst := some 13, op := Op.fieldAddr 33 (Operand.tmp 4) 1, type := 0, pos := "keys.go:75", after := #[], guard := none }
def sb2 : Oper := { dst := some 14, op := Op.load 22 (Operand.tmp 13), type := 22, pos := "keys.go:75", after := #[{ on := 1, ground := Go.Ground.data }], guard := none }
def sb3 : Oper := { dst := some 15, op := Op.move (Operand.tmp 2), type := 22, pos := "keys.go:75", after := #[], guard := none }
def sb4 : Oper := { dst := some 16, op := Op.call { callee := Callee.value (Operand.func 51), args := #[Operand.tmp 14, Operand.tmp 15], argTypes := #[22, 22] }, type := 30, pos := "keys.go:76", after := #[{ on := 2, ground := Go.Ground.data }, { on := 3, ground := Go.Ground.data }], guard := none }
def sb5 : Oper := { dst := some 17, op := Op.extract (Operand.tmp 16) 0, type := 22, pos := "keys.go:75", after := #[{ on := 4, ground := Go.Ground.data }], guard := none }
def sb6 : Oper := { dst := some 18, op := Op.extract (Operand.tmp 16) 1, type := 29, pos := "keys.go:75", after := #[{ on := 4, ground := Go.Ground.data }], guard := none }
def sb7 : Oper := { dst := some 19, op := Op.call { callee := Callee.value (Operand.tmp 12), args := #[Operand.tmp 17, Operand.tmp 18], argTypes := #[22, 29] }, type := 22, pos := "keys.go:76", after := #[{ on := 0, ground := Go.Ground.data }, { on := 5, ground := Go.Ground.data }, { on := 6, ground := Go.Ground.data }, { on := 4, ground := Go.Ground.chain }], guard := none }
def sb8 : Oper := { dst := some 20, op := Op.move (Operand.tmp 9), type := 56, pos := "keys.go:75", after := #[], guard := none }
def sb9 : Oper := { dst := some 21, op := Op.fieldAddr 33 (Operand.tmp 3) 3, type := 0, pos := "keys.go:75", after := #[], guard := none }
def sb10 : Oper := { dst := some 22, op := Op.load 22 (Operand.tmp 21), type := 22, pos := "keys.go:75", after := #[{ on := 9, ground := Go.Ground.data }], guard := none }
def sb11 : Oper := { dst := some 23, op := Op.move (Operand.tmp 2), type := 22, pos := "keys.go:75", after := #[], guard := none }
def sb12 : Oper := { dst := some 24, op := Op.call { callee := Callee.value (Operand.func 52), args := #[Operand.tmp 22, Operand.tmp 23], argTypes := #[22, 22] }, type := 30, pos := "keys.go:77", after := #[{ on := 10, ground := Go.Ground.data }, { on := 11, ground := Go.Ground.data }, { on := 7, ground := Go.Ground.chain }], guard := none }
def sb13 : Oper := { dst := some 25, op := Op.extract (Operand.tmp 24) 0, type := 22, pos := "keys.go:75", after := #[{ on := 12, ground := Go.Ground.data }], guard := none }
def sb14 : Oper := { dst := some 26, op := Op.extract (Operand.tmp 24) 1, type := 29, pos := "keys.go:75", after := #[{ on := 12, ground := Go.Ground.data }], guard := none }
def sb15 : Oper := { dst := some 27, op := Op.call { callee := Callee.value (Operand.tmp 20), args := #[Operand.tmp 25, Operand.tmp 26], argTypes := #[22, 29] }, type := 22, pos := "keys.go:77", after := #[{ on := 8, ground := Go.Ground.data }, { on := 13, ground := Go.Ground.data }, { on := 14, ground := Go.Ground.data }, { on := 12, ground := Go.Ground.chain }], guard := none }
def sb16 : Oper := { dst := some 28, op := Op.move (Operand.tmp 9), type := 56, pos := "keys.go:75", after := #[], guard := none }
def sb17 : Oper := { dst := some 29, op := Op.fieldAddr 33 (Operand.tmp 3) 4, type := 0, pos := "keys.go:75", after := #[], guard := none }
def sb18 : Oper := { dst := some 30, op := Op.load 22 (Operand.tmp 29), type := 22, pos := "keys.go:75", after := #[{ on := 17, ground := Go.Ground.data }], guard := none }
def sb19 : Oper := { dst := some 31, op := Op.move (Operand.tmp 2), type := 22, pos := "keys.go:75", after := #[], guard := none }
def sb20 : Oper := { dst := some 32, op := Op.call { callee := Callee.value (Operand.func 52), args := #[Operand.tmp 30, Operand.tmp 31], argTypes := #[22, 22] }, type := 30, pos := "keys.go:78", after := #[{ on := 18, ground := Go.Ground.data }, { on := 19, ground := Go.Ground.data }, { on := 15, ground := Go.Ground.chain }], guard := none }
def sb21 : Oper := { dst := some 33, op := Op.extract (Operand.tmp 32) 0, type := 22, pos := "keys.go:75", after := #[{ on := 20, ground := Go.Ground.data }], guard := none }
def sb22 : Oper := { dst := some 34, op := Op.extract (Operand.tmp 32) 1, type := 29, pos := "keys.go:75", after := #[{ on := 20, ground := Go.Ground.data }], guard := none }
def sb23 : Oper := { dst := some 35, op := Op.call { callee := Callee.value (Operand.tmp 28), args := #[Operand.tmp 33, Operand.tmp 34], argTypes := #[22, 29] }, type := 22, pos := "keys.go:78", after := #[{ on := 16, ground := Go.Ground.data }, { on := 21, ground := Go.Ground.data }, { on := 22, ground := Go.Ground.data }, { on := 20, ground := Go.Ground.chain }], guard := none }
def sb24 : Oper := { dst := some 36, op := Op.move (Operand.tmp 9), type := 56, pos := "keys.go:75", after := #[], guard := none }
def sb25 : Oper := { dst := some 37, op := Op.fieldAddr 33 (Operand.tmp 4) 4, type := 0, pos := "keys.go:75", after := #[], guard := none }
def sb26 : Oper := { dst := some 38, op := Op.load 22 (Operand.tmp 37), type := 22, pos := "keys.go:75", after := #[{ on := 25, ground := Go.Ground.data }], guard := none }
def sb27 : Oper := { dst := some 39, op := Op.move (Operand.tmp 2), type := 22, pos := "keys.go:75", after := #[], guard := none }
def sb28 : Oper := { dst := some 40, op := Op.call { callee := Callee.value (Operand.func 52), args := #[Operand.tmp 38, Operand.tmp 39], argTypes := #[22, 22] }, type := 30, pos := "keys.go:79", after := #[{ on := 26, ground := Go.Ground.data }, { on := 27, ground := Go.Ground.data }, { on := 23, ground := Go.Ground.chain }], guard := none }
def sb29 : Oper := { dst := some 41, op := Op.extract (Operand.tmp 40) 0, type := 22, pos := "keys.go:75", after := #[{ on := 28, ground := Go.Ground.data }], guard := none }
def sb30 : Oper := { dst := some 42, op := Op.extract (Operand.tmp 40) 1, type := 29, pos := "keys.go:75", after := #[{ on := 28, ground := Go.Ground.data }], guard := none }
def sb31 : Oper := { dst := some 43, op := Op.call { callee := Callee.value (Operand.tmp 36), args := #[Operand.tmp 41, Operand.tmp 42], argTypes := #[22, 29] }, type := 22, pos := "keys.go:79", after := #[{ on := 24, ground := Go.Ground.data }, { on := 29, ground := Go.Ground.data }, { on := 30, ground := Go.Ground.data }, { on := 28, ground := Go.Ground.chain }], guard := none }
def sb32 : Oper := { dst := some 44, op := Op.move (Operand.tmp 9), type := 56, pos := "keys.go:75", after := #[], guard := none }
def sb33 : Oper := { dst := some 45, op := Op.fieldAddr 33 (Operand.tmp 4) 2, type := 0, pos := "keys.go:75", after := #[], guard := none }
def sb34 : Oper := { dst := some 46, op := Op.load 22 (Operand.tmp 45), type := 22, pos := "keys.go:75", after := #[{ on := 33, ground := Go.Ground.data }], guard := none }
def sb35 : Oper := { dst := some 47, op := Op.call { callee := Callee.value (Operand.func 53), args := #[Operand.tmp 46], argTypes := #[22] }, type := 30, pos := "keys.go:80", after := #[{ on := 34, ground := Go.Ground.data }, { on := 31, ground := Go.Ground.chain }], guard := none }
def sb36 : Oper := { dst := some 48, op := Op.extract (Operand.tmp 47) 0, type := 22, pos := "keys.go:75", after := #[{ on := 35, ground := Go.Ground.data }], guard := none }
def sb37 : Oper := { dst := some 49, op := Op.extract (Operand.tmp 47) 1, type := 29, pos := "keys.go:75", after := #[{ on := 35, ground := Go.Ground.data }], guard := none }
def sb38 : Oper := { dst := some 50, op := Op.call { callee := Callee.value (Operand.tmp 44), args := #[Operand.tmp 48, Operand.tmp 49], argTypes := #[22, 29] }, type := 22, pos := "keys.go:80", after := #[{ on := 32, ground := Go.Ground.data }, { on := 36, ground := Go.Ground.data }, { on := 37, ground := Go.Ground.data }, { on := 35, ground := Go.Ground.chain }], guard := none }
def sb39 : Oper := { dst := some 51, op := Op.build 26 #[(0, Operand.tmp 19), (1, Operand.tmp 27), (2, Operand.tmp 35), (3, Operand.tmp 43), (4, Operand.tmp 50)], type := 26, pos := "keys.go:75", after := #[{ on := 7, ground := Go.Ground.data }, { on := 15, ground := Go.Ground.data }, { on := 23, ground := Go.Ground.data }, { on := 31, ground := Go.Ground.data }, { on := 38, ground := Go.Ground.data }], guard := none }
def sb40 : Oper := { dst := some 10, op := Op.alloc 26, type := 0, pos := "keys.go:75", after := #[], guard := none }
def sb41 : Oper := { dst := none, op := Op.store 26 (Operand.tmp 10) (Operand.tmp 51), type := 0, pos := "keys.go:75", after := #[{ on := 40, ground := Go.Ground.data }, { on := 39, ground := Go.Ground.data }, { on := 38, ground := Go.Ground.chain }, { on := 0, ground := Go.Ground.phase }, { on := 1, ground := Go.Ground.phase }, { on := 2, ground := Go.Ground.phase }, { on := 3, ground := Go.Ground.phase }, { on := 4, ground := Go.Ground.phase }, { on := 5, ground := Go.Ground.phase }, { on := 6, ground := Go.Ground.phase }, { on := 7, ground := Go.Ground.phase }, { on := 8, ground := Go.Ground.phase }, { on := 9, ground := Go.Ground.phase }, { on := 10, ground := Go.Ground.phase }, { on := 11, ground := Go.Ground.phase }, { on := 12, ground := Go.Ground.phase }, { on := 13, ground := Go.Ground.phase }, { on := 14, ground := Go.Ground.phase }, { on := 15, ground := Go.Ground.phase }, { on := 16, ground := Go.Ground.phase }, { on := 17, ground := Go.Ground.phase }, { on := 18, ground := Go.Ground.phase }, { on := 19, ground := Go.Ground.phase }, { on := 20, ground := Go.Ground.phase }, { on := 21, ground := Go.Ground.phase }, { on := 22, ground := Go.Ground.phase }, { on := 23, ground := Go.Ground.phase }, { on := 24, ground := Go.Ground.phase }, { on := 25, ground := Go.Ground.phase }, { on := 26, ground := Go.Ground.phase }, { on := 27, ground := Go.Ground.phase }, { on := 28, ground := Go.Ground.phase }, { on := 29, ground := Go.Ground.phase }, { on := 30, ground := Go.Ground.phase }, { on := 31, ground := Go.Ground.phase }, { on := 32, ground := Go.Ground.phase }, { on := 33, ground := Go.Ground.phase }, { on := 34, ground := Go.Ground.phase }, { on := 35, ground := Go.Ground.phase }, { on := 36, ground := Go.Ground.phase }, { on := 37, ground := Go.Ground.phase }, { on := 38, ground := Go.Ground.phase }, { on := 39, ground := Go.Ground.phase }, { on := 40, ground := Go.Ground.phase }], guard := none }
def sbs : Array Oper := #[sb0, sb1, sb2, sb3, sb4, sb5, sb6, sb7, sb8, sb9, sb10, sb11, sb12, sb13, sb14, sb15, sb16, sb17, sb18, sb19, sb20, sb21, sb22, sb23, sb24, sb25, sb26, sb27, sb28, sb29, sb30, sb31, sb32, sb33, sb34, sb35, sb36, sb37, sb38, sb39, sb40, sb41]
theorem sbs_size : sbs.size = 42 := rfl
set_option maxRecDepth 10000 in
theorem sbs_back (i : Nat) (o : Oper) (h : sbs[i]? = some o) : ∀ e ∈ o.after, e.on < i := by
 have hall : ∀ j : Fin 42, ∀ e ∈ (sbs[j.1]'(by have := j.2; have := sbs_size; omega)).after, e.on < j.1 := by decide +kernel
 obtain ⟨hi, rfl⟩ := Array.getElem?_eq_some_iff.1 h
 exact hall ⟨i, by have := sbs_size; omega⟩
def sbD : Nat → Nat
 | 0 => 12
 | 1 => 13
 | 2 => 14
 | 3 => 15
 | 4 => 16
 | 5 => 17
 | 6 => 18
 | 7 => 19
 | 8 => 20
 | 9 => 21
 | 10 => 22
 | 11 => 23
 | 12 => 24
 | 13 => 25
 | 14 => 26
 | 15 => 27
 | 16 => 28
 | 17 => 29
 | 18 => 30
 | 19 => 31
 | 20 => 32
 | 21 => 33
 | 22 => 34
 | 23 => 35
 | 24 => 36
 | 25 => 37
 | 26 => 38
 | 27 => 39
 | 28 => 40
 | 29 => 41
 | 30 => 42
 | 31 => 43
 | 32 => 44
 | 33 => 45
 | 34 => 46
 | 35 => 47
 | 36 => 48
 | 37 => 49
 | 38 => 50
 | 39 => 51
 | 40 => 10
 | _ => 0
def sbDs : List Nat := (List.range 41).map sbD
set_option maxRecDepth 10000 in
theorem sbD_mem {i : Nat} (h : i < 41) : sbD i ∈ sbDs := List.mem_map_of_mem (List.mem_range.2 h)
set_option maxRecDepth 10000 in
theorem sbD_lt : ∀ i : Fin 41, sbD i.1 < 52 := by decide +kernel
set_option maxRecDepth 10000 in
theorem sbD_inj : ∀ i j : Fin 41, i ≠ j → sbD i.1 ≠ sbD j.1 := by decide +kernel
section
def sbV (o3 : Bs) (o4 : Bs) (q1 : Bs) (q2 : Bs) (q4 : Bs) (pt : Bs) (sb : Nat) (tb : Nat) (bx : Nat) : Nat → Value
 | 0 => (.func (.func 55) #[] #[.pointer (some ⟨bx, 0, none⟩)])
 | 1 => .pointer (some ⟨tb, 1, none⟩)
 | 2 => St q1
 | 3 => St pt
 | 4 => .tuple #[St (jointRes q1 pt).1, .int .i64 ((jointRes q1 pt).2 : Int)]
 | 5 => St (jointRes q1 pt).1
 | 6 => .int .i64 ((jointRes q1 pt).2 : Int)
 | 7 => St (jointRes q1 pt).1
 | 8 => (.func (.func 55) #[] #[.pointer (some ⟨bx, 0, none⟩)])
 | 9 => .pointer (some ⟨sb, 3, none⟩)
 | 10 => St o3
 | 11 => St pt
 | 12 => .tuple #[St (boundRes o3 pt).1, .int .i64 ((boundRes o3 pt).2 : Int)]
 | 13 => St (boundRes o3 pt).1
 | 14 => .int .i64 ((boundRes o3 pt).2 : Int)
 | 15 => St (boundRes o3 pt).1
 | 16 => (.func (.func 55) #[] #[.pointer (some ⟨bx, 0, none⟩)])
 | 17 => .pointer (some ⟨sb, 4, none⟩)
 | 18 => St o4
 | 19 => St pt
 | 20 => .tuple #[St (boundRes o4 pt).1, .int .i64 ((boundRes o4 pt).2 : Int)]
 | 21 => St (boundRes o4 pt).1
 | 22 => .int .i64 ((boundRes o4 pt).2 : Int)
 | 23 => St (boundRes o4 pt).1
 | 24 => (.func (.func 55) #[] #[.pointer (some ⟨bx, 0, none⟩)])
 | 25 => .pointer (some ⟨tb, 4, none⟩)
 | 26 => St q4
 | 27 => St pt
 | 28 => .tuple #[St (boundRes q4 pt).1, .int .i64 ((boundRes q4 pt).2 : Int)]
 | 29 => St (boundRes q4 pt).1
 | 30 => .int .i64 ((boundRes q4 pt).2 : Int)
 | 31 => St (boundRes q4 pt).1
 | 32 => (.func (.func 55) #[] #[.pointer (some ⟨bx, 0, none⟩)])
 | 33 => .pointer (some ⟨tb, 2, none⟩)
 | 34 => St q2
 | 35 => .tuple #[St (pkRes q2).1, .int .i64 ((pkRes q2).2 : Int)]
 | 36 => St (pkRes q2).1
 | 37 => .int .i64 ((pkRes q2).2 : Int)
 | 38 => St (pkRes q2).1
 | 39 => .agg #[St (jointRes q1 pt).1, St (boundRes o3 pt).1, St (boundRes o4 pt).1, St (boundRes q4 pt).1, St (pkRes q2).1]
 | _ => undef
end
def sbE (o3 : Bs) (o4 : Bs) (q1 : Bs) (q2 : Bs) (q4 : Bs) (pt : Bs) : Nat → Nat
 | 7 => (jointRes q1 pt).2
 | 15 => (boundRes o3 pt).2
 | 23 => (boundRes o4 pt).2
 | 31 => (boundRes q4 pt).2
 | 38 => (pkRes q2).2
 | _ => 0
section
variable {o0 o1 o2 o3 o4 q0 q1 q2 q3 q4 pt : Bs} {sb tb bx : Nat}
theorem sbx0 (a : Act) (W : World) (h0 : gt a 9 = (.func (.func 55) #[] #[.pointer (some ⟨bx, 0, none⟩)])) : (execOp a.eval sb0).run Tryz.prog W = .ok (.value ((.func (.func 55) #[] #[.pointer (some ⟨bx, 0, none⟩)]))) W := by
 have g0 := gt_eq h0
 clear h0
 simp only [execOp, sb0]
 go_simp
theorem sbh0 {Q : Exit → Act → World → Prop} {a0 a : Act} {w0 w : World} {eb e0 : Nat} (_e3 : gt a0 3 = .pointer (some ⟨sb, 0, none⟩)) (_e4 : gt a0 4 = .pointer (some ⟨tb, 0, none⟩)) (e9 : gt a0 9 = (.func (.func 55) #[] #[.pointer (some ⟨bx, 0, none⟩)])) (_e2 : gt a0 2 = St pt) (_b3 : w0.heap[sb]? = some (.cells #[St o0, St o1, St o2, St o3, St o4] 33 (0, 0))) (_b4 : w0.heap[tb]? = some (.cells #[St q0, St q1, St q2, St q3, St q4] 33 (0, 0))) (ho : Off sbDs a0 a) (_hk : Ke w0 bx eb e0 w)
   (_hd : ∀ e ∈ (sb0).after, Region.binds .any e = true → e.on ≠ 40 → gt a (sbD e.on) = sbV o3 o4 q1 q2 q4 pt sb tb bx e.on) : wpOp Tryz.prog sbs Q 0 (fun a' w' => a' = a.put (some (sbD 0)) (sbV o3 o4 q1 q2 q4 pt sb tb bx 0) ∧ Below w.heap.size w w') a w := by
 exact op_ok (i := 0) (o := sb0) rfl rfl (sbx0 a w ((ho.slot (by decide)).trans e9)) ⟨rfl, Below.refl _ _⟩
theorem sbx1 (a : Act) (W : World) (h0 : gt a 4 = .pointer (some ⟨tb, 0, none⟩)) : (execOp a.eval sb1).run Tryz.prog W = .ok (.value (.pointer (some ⟨tb, 1, none⟩))) W := by
 have g0 := gt_eq h0
 clear h0
 simp only [execOp, sb1]
 go_simp
theorem sbh1 {Q : Exit → Act → World → Prop} {a0 a : Act} {w0 w : World} {eb e0 : Nat} (_e3 : gt a0 3 = .pointer (some ⟨sb, 0, none⟩)) (e4 : gt a0 4 = .pointer (some ⟨tb, 0, none⟩)) (_e9 : gt a0 9 = (.func (.func 55) #[] #[.pointer (some ⟨bx, 0, none⟩)])) (_e2 : gt a0 2 = St pt) (_b3 : w0.heap[sb]? = some (.cells #[St o0, St o1, St o2, St o3, St o4] 33 (0, 0))) (_b4 : w0.heap[tb]? = some (.cells #[St q0, St q1, St q2, St q3, St q4] 33 (0, 0))) (ho : Off sbDs a0 a) (_hk : Ke w0 bx eb e0 w)
   (_hd : ∀ e ∈ (sb1).after, Region.binds .any e = true → e.on ≠ 40 → gt a (sbD e.on) = sbV o3 o4 q1 q2 q4 pt sb tb bx e.on) : wpOp Tryz.prog sbs Q 1 (fun a' w' => a' = a.put (some (sbD 1)) (sbV o3 o4 q1 q2 q4 pt sb tb bx 1) ∧ Below w.heap.size w w') a w := by
 exact op_ok (i := 1) (o := sb1) rfl rfl (sbx1 a w ((ho.slot (by decide)).trans e4)) ⟨rfl, Below.refl _ _⟩
theorem sbx2 (a : Act) (W : World) (h0 : gt a 13 = .pointer (some ⟨tb, 1, none⟩)) (c : W.cell? ⟨tb, 1, none⟩ = some (St q1)) : (execOp a.eval sb2).run Tryz.prog W = .ok (.value (St q1)) W := by
 have g0 := gt_eq h0
 clear h0
 simp only [execOp, sb2]
 go_simp
theorem sbh2 {Q : Exit → Act → World → Prop} {a0 a : Act} {w0 w : World} {eb e0 : Nat} (_e3 : gt a0 3 = .pointer (some ⟨sb, 0, none⟩)) (_e4 : gt a0 4 = .pointer (some ⟨tb, 0, none⟩)) (_e9 : gt a0 9 = (.func (.func 55) #[] #[.pointer (some ⟨bx, 0, none⟩)])) (_e2 : gt a0 2 = St pt) (_b3 : w0.heap[sb]? = some (.cells #[St o0, St o1, St o2, St o3, St o4] 33 (0, 0))) (b4 : w0.heap[tb]? = some (.cells #[St q0, St q1, St q2, St q3, St q4] 33 (0, 0))) (_ho : Off sbDs a0 a) (hk : Ke w0 bx eb e0 w)
   (hd : ∀ e ∈ (sb2).after, Region.binds .any e = true → e.on ≠ 40 → gt a (sbD e.on) = sbV o3 o4 q1 q2 q4 pt sb tb bx e.on) : wpOp Tryz.prog sbs Q 2 (fun a' w' => a' = a.put (some (sbD 2)) (sbV o3 o4 q1 q2 q4 pt sb tb bx 2) ∧ Below w.heap.size w w') a w := by
 exact op_ok (i := 2) (o := sb2) rfl rfl (sbx2 a w (hd { on := 1, ground := Go.Ground.data } (by simp [sb2]) (by decide) (by decide)) (by rw [cell_of_heap ((hk.bel.block _ (heap_lt b4)).trans b4)]; rfl)) ⟨rfl, Below.refl _ _⟩
theorem sbx3 (a : Act) (W : World) (h0 : gt a 2 = St pt) : (execOp a.eval sb3).run Tryz.prog W = .ok (.value (St pt)) W := by
 have g0 := gt_eq h0
 clear h0
 simp only [execOp, sb3]
 go_simp
theorem sbh3 {Q : Exit → Act → World → Prop} {a0 a : Act} {w0 w : World} {eb e0 : Nat} (_e3 : gt a0 3 = .pointer (some ⟨sb, 0, none⟩)) (_e4 : gt a0 4 = .pointer (some ⟨tb, 0, none⟩)) (_e9 : gt a0 9 = (.func (.func 55) #[] #[.pointer (some ⟨bx, 0, none⟩)])) (e2 : gt a0 2 = St pt) (_b3 : w0.heap[sb]? = some (.cells #[St o0, St o1, St o2, St o3, St o4] 33 (0, 0))) (_b4 : w0.heap[tb]? = some (.cells #[St q0, St q1, St q2, St q3, St q4] 33 (0, 0))) (ho : Off sbDs a0 a) (_hk : Ke w0 bx eb e0 w)
   (_hd : ∀ e ∈ (sb3).after, Region.binds .any e = true → e.on ≠ 40 → gt a (sbD e.on) = sbV o3 o4 q1 q2 q4 pt sb tb bx e.on) : wpOp Tryz.prog sbs Q 3 (fun a' w' => a' = a.put (some (sbD 3)) (sbV o3 o4 q1 q2 q4 pt sb tb bx 3) ∧ Below w.heap.size w w') a w := by
 exact op_ok (i := 3) (o := sb3) rfl rfl (sbx3 a w ((ho.slot (by decide)).trans e2)) ⟨rfl, Below.refl _ _⟩
theorem sbx4 (a : Act) (W : World) (h0 : gt a 14 = St q1) (h1 : gt a 15 = St pt) : (execOp a.eval sb4).run Tryz.prog W = .ok (.enter 51 #[St q1, St pt]) W := by
 have g0 := gt_eq h0
 have g1 := gt_eq h1
 clear h0 h1
 simp only [execOp, sb4]
 go_simp
theorem sbh4 {Q : Exit → Act → World → Prop} {a0 a : Act} {w0 w : World} {eb e0 : Nat} (_e3 : gt a0 3 = .pointer (some ⟨sb, 0, none⟩)) (_e4 : gt a0 4 = .pointer (some ⟨tb, 0, none⟩)) (_e9 : gt a0 9 = (.func (.func 55) #[] #[.pointer (some ⟨bx, 0, none⟩)])) (_e2 : gt a0 2 = St pt) (_b3 : w0.heap[sb]? = some (.cells #[St o0, St o1, St o2, St o3, St o4] 33 (0, 0))) (_b4 : w0.heap[tb]? = some (.cells #[St q0, St q1, St q2, St q3, St q4] 33 (0, 0))) (_ho : Off sbDs a0 a) (_hk : Ke w0 bx eb e0 w)
   (hd : ∀ e ∈ (sb4).after, Region.binds .any e = true → e.on ≠ 40 → gt a (sbD e.on) = sbV o3 o4 q1 q2 q4 pt sb tb bx e.on) : wpOp Tryz.prog sbs Q 4 (fun a' w' => a' = a.put (some (sbD 4)) (sbV o3 o4 q1 q2 q4 pt sb tb bx 4) ∧ Below w.heap.size w w') a w := by
 refine op_call (i := 4) (o := sb4) (R := fun v w' => v = sbV o3 o4 q1 q2 q4 pt sb tb bx 4 ∧ Below w.heap.size w w') rfl rfl (sbx4 a w (hd { on := 2, ground := Go.Ground.data } (by simp [sb4]) (by decide) (by decide)) (hd { on := 3, ground := Go.Ground.data } (by simp [sb4]) (by decide) (by decide))) ((joints_any q1 pt w).mono (fun e w' ⟨h1, h2⟩ => ⟨_, h1, rfl, h2⟩)) ?_
 rintro v w' ⟨rfl, h2⟩
 exact ⟨rfl, h2⟩
theorem sbx5 (a : Act) (W : World) (h0 : gt a 16 = .tuple #[St (jointRes q1 pt).1, .int .i64 ((jointRes q1 pt).2 : Int)]) : (execOp a.eval sb5).run Tryz.prog W = .ok (.value (St (jointRes q1 pt).1)) W := by
 have g0 := gt_eq h0
 clear h0
 simp only [execOp, sb5]
 go_simp
theorem sbh5 {Q : Exit → Act → World → Prop} {a0 a : Act} {w0 w : World} {eb e0 : Nat} (_e3 : gt a0 3 = .pointer (some ⟨sb, 0, none⟩)) (_e4 : gt a0 4 = .pointer (some ⟨tb, 0, none⟩)) (_e9 : gt a0 9 = (.func (.func 55) #[] #[.pointer (some ⟨bx, 0, none⟩)])) (_e2 : gt a0 2 = St pt) (_b3 : w0.heap[sb]? = some (.cells #[St o0, St o1, St o2, St o3, St o4] 33 (0, 0))) (_b4 : w0.heap[tb]? = some (.cells #[St q0, St q1, St q2, St q3, St q4] 33 (0, 0))) (_ho : Off sbDs a0 a) (_hk : Ke w0 bx eb e0 w)
   (hd : ∀ e ∈ (sb5).after, Region.binds .any e = true → e.on ≠ 40 → gt a (sbD e.on) = sbV o3 o4 q1 q2 q4 pt sb tb bx e.on) : wpOp Tryz.prog sbs Q 5 (fun a' w' => a' = a.put (some (sbD 5)) (sbV o3 o4 q1 q2 q4 pt sb tb bx 5) ∧ Below w.heap.size w w') a w := by
 exact op_ok (i := 5) (o := sb5) rfl rfl (sbx5 a w (hd { on := 4, ground := Go.Ground.data } (by simp [sb5]) (by decide) (by decide))) ⟨rfl, Below.refl _ _⟩
theorem sbx6 (a : Act) (W : World) (h0 : gt a 16 = .tuple #[St (jointRes q1 pt).1, .int .i64 ((jointRes q1 pt).2 : Int)]) : (execOp a.eval sb6).run Tryz.prog W = .ok (.value (.int .i64 ((jointRes q1 pt).2 : Int))) W := by
 have g0 := gt_eq h0
 clear h0
 simp only [execOp, sb6]
 go_simp
theorem sbh6 {Q : Exit → Act → World → Prop} {a0 a : Act} {w0 w : World} {eb e0 : Nat} (_e3 : gt a0 3 = .pointer (some ⟨sb, 0, none⟩)) (_e4 : gt a0 4 = .pointer (some ⟨tb, 0, none⟩)) (_e9 : gt a0 9 = (.func (.func 55) #[] #[.pointer (some ⟨bx, 0, none⟩)])) (_e2 : gt a0 2 = St pt) (_b3 : w0.heap[sb]? = some (.cells #[St o0, St o1, St o2, St o3, St o4] 33 (0, 0))) (_b4 : w0.heap[tb]? = some (.cells #[St q0, St q1, St q2, St q3, St q4] 33 (0, 0))) (_ho : Off sbDs a0 a) (_hk : Ke w0 bx eb e0 w)
   (hd : ∀ e ∈ (sb6).after, Region.binds .any e = true → e.on ≠ 40 → gt a (sbD e.on) = sbV o3 o4 q1 q2 q4 pt sb tb bx e.on) : wpOp Tryz.prog sbs Q 6 (fun a' w' => a' = a.put (some (sbD 6)) (sbV o3 o4 q1 q2 q4 pt sb tb bx 6) ∧ Below w.heap.size w w') a w := by
 exact op_ok (i := 6) (o := sb6) rfl rfl (sbx6 a w (hd { on := 4, ground := Go.Ground.data } (by simp [sb6]) (by decide) (by decide))) ⟨rfl, Below.refl _ _⟩
theorem sbx7 (a : Act) (W : World) (h0 : gt a 12 = (.func (.func 55) #[] #[.pointer (some ⟨bx, 0, none⟩)])) (h1 : gt a 17 = St (jointRes q1 pt).1) (h2 : gt a 18 = .int .i64 ((jointRes q1 pt).2 : Int)) : (execOp a.eval sb7).run Tryz.prog W = .ok (.enter 55 #[St (jointRes q1 pt).1, .int .i64 ((jointRes q1 pt).2 : Int), .pointer (some ⟨bx, 0, none⟩)]) W := by
 have g0 := gt_eq h0
 have g1 := gt_eq h1
 have g2 := gt_eq h2
 clear h0 h1 h2
 simp only [execOp, sb7]
 go_simp
theorem sbh7 {Q : Exit → Act → World → Prop} {a0 a : Act} {w0 w : World} {eb e0 : Nat} (_e3 : gt a0 3 = .pointer (some ⟨sb, 0, none⟩)) (_e4 : gt a0 4 = .pointer (some ⟨tb, 0, none⟩)) (_e9 : gt a0 9 = (.func (.func 55) #[] #[.pointer (some ⟨bx, 0, none⟩)])) (_e2 : gt a0 2 = St pt) (_b3 : w0.heap[sb]? = some (.cells #[St o0, St o1, St o2, St o3, St o4] 33 (0, 0))) (_b4 : w0.heap[tb]? = some (.cells #[St q0, St q1, St q2, St q3, St q4] 33 (0, 0))) (_ho : Off sbDs a0 a) (hk : Ke w0 bx eb e0 w)
   (hd : ∀ e ∈ (sb7).after, Region.binds .any e = true → e.on ≠ 40 → gt a (sbD e.on) = sbV o3 o4 q1 q2 q4 pt sb tb bx e.on) : wpOp Tryz.prog sbs Q 7 (fun a' w' => a' = a.put (some (sbD 7)) (sbV o3 o4 q1 q2 q4 pt sb tb bx 7) ∧ Ke w0 bx eb (firstN e0 (sbE o3 o4 q1 q2 q4 pt 7)) w' ∧ Frx w.heap.size eb w w') a w := by
 refine op_call (i := 7) (o := sb7) (R := fun v w' => v = sbV o3 o4 q1 q2 q4 pt sb tb bx 7 ∧ Ke w0 bx eb (firstN e0 (sbE o3 o4 q1 q2 q4 pt 7)) w' ∧ Frx w.heap.size eb w w') rfl rfl (sbx7 a w (hd { on := 0, ground := Go.Ground.data } (by simp [sb7]) (by decide) (by decide)) (hd { on := 5, ground := Go.Ground.data } (by simp [sb7]) (by decide) (by decide)) (hd { on := 6, ground := Go.Ground.data } (by simp [sb7]) (by decide) (by decide))) ((keep_any hk (jointRes q1 pt).1 (jointRes q1 pt).2).mono (fun e w' ⟨h1, h2, h3⟩ => ⟨_, h1, rfl, h2, h3⟩)) ?_
 rintro v w' ⟨rfl, h2, h3⟩
 exact ⟨rfl, h2, h3⟩
theorem sbx8 (a : Act) (W : World) (h0 : gt a 9 = (.func (.func 55) #[] #[.pointer (some ⟨bx, 0, none⟩)])) : (execOp a.eval sb8).run Tryz.prog W = .ok (.value ((.func (.func 55) #[] #[.pointer (some ⟨bx, 0, none⟩)]))) W := by
 have g0 := gt_eq h0
 clear h0
 simp only [execOp, sb8]
 go_simp
theorem sbh8 {Q : Exit → Act → World → Prop} {a0 a : Act} {w0 w : World} {eb e0 : Nat} (_e3 : gt a0 3 = .pointer (some ⟨sb, 0, none⟩)) (_e4 : gt a0 4 = .pointer (some ⟨tb, 0, none⟩)) (e9 : gt a0 9 = (.func (.func 55) #[] #[.pointer (some ⟨bx, 0, none⟩)])) (_e2 : gt a0 2 = St pt) (_b3 : w0.heap[sb]? = some (.cells #[St o0, St o1, St o2, St o3, St o4] 33 (0, 0))) (_b4 : w0.heap[tb]? = some (.cells #[St q0, St q1, St q2, St q3, St q4] 33 (0, 0))) (ho : Off sbDs a0 a) (_hk : Ke w0 bx eb e0 w)
   (_hd : ∀ e ∈ (sb8).after, Region.binds .any e = true → e.on ≠ 40 → gt a (sbD e.on) = sbV o3 o4 q1 q2 q4 pt sb tb bx e.on) : wpOp Tryz.prog sbs Q 8 (fun a' w' => a' = a.put (some (sbD 8)) (sbV o3 o4 q1 q2 q4 pt sb tb bx 8) ∧ Below w.heap.size w w') a w := by
 exact op_ok (i := 8) (o := sb8) rfl rfl (sbx8 a w ((ho.slot (by decide)).trans e9)) ⟨rfl, Below.refl _ _⟩
theorem sbx9 (a : Act) (W : World) (h0 : gt a 3 = .pointer (some ⟨sb, 0, none⟩)) : (execOp a.eval sb9).run Tryz.prog W = .ok (.value (.pointer (some ⟨sb, 3, none⟩))) W := by
 have g0 := gt_eq h0
 clear h0
 simp only [execOp, sb9]
 go_simp
theorem sbh9 {Q : Exit → Act → World → Prop} {a0 a : Act} {w0 w : World} {eb e0 : Nat} (e3 : gt a0 3 = .pointer (some ⟨sb, 0, none⟩)) (_e4 : gt a0 4 = .pointer (some ⟨tb, 0, none⟩)) (_e9 : gt a0 9 = (.func (.func 55) #[] #[.pointer (some ⟨bx, 0, none⟩)])) (_e2 : gt a0 2 = St pt) (_b3 : w0.heap[sb]? = some (.cells #[St o0, St o1, St o2, St o3, St o4] 33 (0, 0))) (_b4 : w0.heap[tb]? = some (.cells #[St q0, St q1, St q2, St q3, St q4] 33 (0, 0))) (ho : Off sbDs a0 a) (_hk : Ke w0 bx eb e0 w)
   (_hd : ∀ e ∈ (sb9).after, Region.binds .any e = true → e.on ≠ 40 → gt a (sbD e.on) = sbV o3 o4 q1 q2 q4 pt sb tb bx e.on) : wpOp Tryz.prog sbs Q 9 (fun a' w' => a' = a.put (some (sbD 9)) (sbV o3 o4 q1 q2 q4 pt sb tb bx 9) ∧ Below w.heap.size w w') a w := by
 exact op_ok (i := 9) (o := sb9) rfl rfl (sbx9 a w ((ho.slot (by decide)).trans e3)) ⟨rfl, Below.refl _ _⟩
theorem sbx10 (a : Act) (W : World) (h0 : gt a 21 = .pointer (some ⟨sb, 3, none⟩)) (c : W.cell? ⟨sb, 3, none⟩ = some (St o3)) : (execOp a.eval sb10).run Tryz.prog W = .ok (.value (St o3)) W := by
 have g0 := gt_eq h0
 clear h0
 simp only [execOp, sb10]
 go_simp
theorem sbh10 {Q : Exit → Act → World → Prop} {a0 a : Act} {w0 w : World} {eb e0 : Nat} (_e3 : gt a0 3 = .pointer (some ⟨sb, 0, none⟩)) (_e4 : gt a0 4 = .pointer (some ⟨tb, 0, none⟩)) (_e9 : gt a0 9 = (.func (.func 55) #[] #[.pointer (some ⟨bx, 0, none⟩)])) (_e2 : gt a0 2 = St pt) (b3 : w0.heap[sb]? = some (.cells #[St o0, St o1, St o2, St o3, St o4] 33 (0, 0))) (_b4 : w0.heap[tb]? = some (.cells #[St q0, St q1, St q2, St q3, St q4] 33 (0, 0))) (_ho : Off sbDs a0 a) (hk : Ke w0 bx eb e0 w)
   (hd : ∀ e ∈ (sb10).after, Region.binds .any e = true → e.on ≠ 40 → gt a (sbD e.on) = sbV o3 o4 q1 q2 q4 pt sb tb bx e.on) : wpOp Tryz.prog sbs Q 10 (fun a' w' => a' = a.put (some (sbD 10)) (sbV o3 o4 q1 q2 q4 pt sb tb bx 10) ∧ Below w.heap.size w w') a w := by
 exact op_ok (i := 10) (o := sb10) rfl rfl (sbx10 a w (hd { on := 9, ground := Go.Ground.data } (by simp [sb10]) (by decide) (by decide)) (by rw [cell_of_heap ((hk.bel.block _ (heap_lt b3)).trans b3)]; rfl)) ⟨rfl, Below.refl _ _⟩
theorem sbx11 (a : Act) (W : World) (h0 : gt a 2 = St pt) : (execOp a.eval sb11).run Tryz.prog W = .ok (.value (St pt)) W := by
 have g0 := gt_eq h0
 clear h0
 simp only [execOp, sb11]
 go_simp
theorem sbh11 {Q : Exit → Act → World → Prop} {a0 a : Act} {w0 w : World} {eb e0 : Nat} (_e3 : gt a0 3 = .pointer (some ⟨sb, 0, none⟩)) (_e4 : gt a0 4 = .pointer (some ⟨tb, 0, none⟩)) (_e9 : gt a0 9 = (.func (.func 55) #[] #[.pointer (some ⟨bx, 0, none⟩)])) (e2 : gt a0 2 = St pt) (_b3 : w0.heap[sb]? = some (.cells #[St o0, St o1, St o2, St o3, St o4] 33 (0, 0))) (_b4 : w0.heap[tb]? = some (.cells #[St q0, St q1, St q2, St q3, St q4] 33 (0, 0))) (ho : Off sbDs a0 a) (_hk : Ke w0 bx eb e0 w)
   (_hd : ∀ e ∈ (sb11).after, Region.binds .any e = true → e.on ≠ 40 → gt a (sbD e.on) = sbV o3 o4 q1 q2 q4 pt sb tb bx e.on) : wpOp Tryz.prog sbs Q 11 (fun a' w' => a' = a.put (some (sbD 11)) (sbV o3 o4 q1 q2 q4 pt sb tb bx 11) ∧ Below w.heap.size w w') a w := by
 exact op_ok (i := 11) (o := sb11) rfl rfl (sbx11 a w ((ho.slot (by decide)).trans e2)) ⟨rfl, Below.refl _ _⟩
theorem sbx12 (a : Act) (W : World) (h0 : gt a 22 = St o3) (h1 : gt a 23 = St pt) : (execOp a.eval sb12).run Tryz.prog W = .ok (.enter 52 #[St o3, St pt]) W := by
 have g0 := gt_eq h0
 have g1 := gt_eq h1
 clear h0 h1
 simp only [execOp, sb12]
 go_simp
theorem sbh12 {Q : Exit → Act → World → Prop} {a0 a : Act} {w0 w : World} {eb e0 : Nat} (_e3 : gt a0 3 = .pointer (some ⟨sb, 0, none⟩)) (_e4 : gt a0 4 = .pointer (some ⟨tb, 0, none⟩)) (_e9 : gt a0 9 = (.func (.func 55) #[] #[.pointer (some ⟨bx, 0, none⟩)])) (_e2 : gt a0 2 = St pt) (_b3 : w0.heap[sb]? = some (.cells #[St o0, St o1, St o2, St o3, St o4] 33 (0, 0))) (_b4 : w0.heap[tb]? = some (.cells #[St q0, St q1, St q2, St q3, St q4] 33 (0, 0))) (_ho : Off sbDs a0 a) (_hk : Ke w0 bx eb e0 w)
   (hd : ∀ e ∈ (sb12).after, Region.binds .any e = true → e.on ≠ 40 → gt a (sbD e.on) = sbV o3 o4 q1 q2 q4 pt sb tb bx e.on) : wpOp Tryz.prog sbs Q 12 (fun a' w' => a' = a.put (some (sbD 12)) (sbV o3 o4 q1 q2 q4 pt sb tb bx 12) ∧ Below w.heap.size w w') a w := by
 refine op_call (i := 12) (o := sb12) (R := fun v w' => v = sbV o3 o4 q1 q2 q4 pt sb tb bx 12 ∧ Below w.heap.size w w') rfl rfl (sbx12 a w (hd { on := 10, ground := Go.Ground.data } (by simp [sb12]) (by decide) (by decide)) (hd { on := 11, ground := Go.Ground.data } (by simp [sb12]) (by decide) (by decide))) ((bounds_any o3 pt w).mono (fun e w' ⟨h1, h2⟩ => ⟨_, h1, rfl, h2⟩)) ?_
 rintro v w' ⟨rfl, h2⟩
 exact ⟨rfl, h2⟩
theorem sbx13 (a : Act) (W : World) (h0 : gt a 24 = .tuple #[St (boundRes o3 pt).1, .int .i64 ((boundRes o3 pt).2 : Int)]) : (execOp a.eval sb13).run Tryz.prog W = .ok (.value (St (boundRes o3 pt).1)) W := by
 have g0 := gt_eq h0
 clear h0
 simp only [execOp, sb13]
 go_simp
theorem sbh13 {Q : Exit → Act → World → Prop} {a0 a : Act} {w0 w : World} {eb e0 : Nat} (_e3 : gt a0 3 = .pointer (some ⟨sb, 0, none⟩)) (_e4 : gt a0 4 = .pointer (some ⟨tb, 0, none⟩)) (_e9 : gt a0 9 = (.func (.func 55) #[] #[.pointer (some ⟨bx, 0, none⟩)])) (_e2 : gt a0 2 = St pt) (_b3 : w0.heap[sb]? = some (.cells #[St o0, St o1, St o2, St o3, St o4] 33 (0, 0))) (_b4 : w0.heap[tb]? = some (.cells #[St q0, St q1, St q2, St q3, St q4] 33 (0, 0))) (_ho : Off sbDs a0 a) (_hk : Ke w0 bx eb e0 w)
   (hd : ∀ e ∈ (sb13).after, Region.binds .any e = true → e.on ≠ 40 → gt a (sbD e.on) = sbV o3 o4 q1 q2 q4 pt sb tb bx e.on) : wpOp Tryz.prog sbs Q 13 (fun a' w' => a' = a.put (some (sbD 13)) (sbV o3 o4 q1 q2 q4 pt sb tb bx 13) ∧ Below w.heap.size w w') a w := by
 exact op_ok (i := 13) (o := sb13) rfl rfl (sbx13 a w (hd { on := 12, ground := Go.Ground.data } (by simp [sb13]) (by decide) (by decide))) ⟨rfl, Below.refl _ _⟩
theorem sbx14 (a : Act) (W : World) (h0 : gt a 24 = .tuple #[St (boundRes o3 pt).1, .int .i64 ((boundRes o3 pt).2 : Int)]) : (execOp a.eval sb14).run Tryz.prog W = .ok (.value (.int .i64 ((boundRes o3 pt).2 : Int))) W := by
 have g0 := gt_eq h0
 clear h0
 simp only [execOp, sb14]
 go_simp
theorem sbh14 {Q : Exit → Act → World → Prop} {a0 a : Act} {w0 w : World} {eb e0 : Nat} (_e3 : gt a0 3 = .pointer (some ⟨sb, 0, none⟩)) (_e4 : gt a0 4 = .pointer (some ⟨tb, 0, none⟩)) (_e9 : gt a0 9 = (.func (.func 55) #[] #[.pointer (some ⟨bx, 0, none⟩)])) (_e2 : gt a0 2 = St pt) (_b3 : w0.heap[sb]? = some (.cells #[St o0, St o1, St o2, St o3, St o4] 33 (0, 0))) (_b4 : w0.heap[tb]? = some (.cells #[St q0, St q1, St q2, St q3, St q4] 33 (0, 0))) (_ho : Off sbDs a0 a) (_hk : Ke w0 bx eb e0 w)
   (hd : ∀ e ∈ (sb14).after, Region.binds .any e = true → e.on ≠ 40 → gt a (sbD e.on) = sbV o3 o4 q1 q2 q4 pt sb tb bx e.on) : wpOp Tryz.prog sbs Q 14 (fun a' w' => a' = a.put (some (sbD 14)) (sbV o3 o4 q1 q2 q4 pt sb tb bx 14) ∧ Below w.heap.size w w') a w := by
 exact op_ok (i := 14) (o := sb14) rfl rfl (sbx14 a w (hd { on := 12, ground := Go.Ground.data } (by simp [sb14]) (by decide) (by decide))) ⟨rfl, Below.refl _ _⟩
theorem sbx15 (a : Act) (W : World) (h0 : gt a 20 = (.func (.func 55) #[] #[.pointer (some ⟨bx, 0, none⟩)])) (h1 : gt a 25 = St (boundRes o3 pt).1) (h2 : gt a 26 = .int .i64 ((boundRes o3 pt).2 : Int)) : (execOp a.eval sb15).run Tryz.prog W = .ok (.enter 55 #[St (boundRes o3 pt).1, .int .i64 ((boundRes o3 pt).2 : Int), .pointer (some ⟨bx, 0, none⟩)]) W := by
 have g0 := gt_eq h0
 have g1 := gt_eq h1
 have g2 := gt_eq h2
 clear h0 h1 h2
 simp only [execOp, sb15]
 go_simp
theorem sbh15 {Q : Exit → Act → World → Prop} {a0 a : Act} {w0 w : World} {eb e0 : Nat} (_e3 : gt a0 3 = .pointer (some ⟨sb, 0, none⟩)) (_e4 : gt a0 4 = .pointer (some ⟨tb, 0, none⟩)) (_e9 : gt a0 9 = (.func (.func 55) #[] #[.pointer (some ⟨bx, 0, none⟩)])) (_e2 : gt a0 2 = St pt) (_b3 : w0.heap[sb]? = some (.cells #[St o0, St o1, St o2, St o3, St o4] 33 (0, 0))) (_b4 : w0.heap[tb]? = some (.cells #[St q0, St q1, St q2, St q3, St q4] 33 (0, 0))) (_ho : Off sbDs a0 a) (hk : Ke w0 bx eb e0 w)
   (hd : ∀ e ∈ (sb15).after, Region.binds .any e = true → e.on ≠ 40 → gt a (sbD e.on) = sbV o3 o4 q1 q2 q4 pt sb tb bx e.on) : wpOp Tryz.prog sbs Q 15 (fun a' w' => a' = a.put (some (sbD 15)) (sbV o3 o4 q1 q2 q4 pt sb tb bx 15) ∧ Ke w0 bx eb (firstN e0 (sbE o3 o4 q1 q2 q4 pt 15)) w' ∧ Frx w.heap.size eb w w') a w := by
 refine op_call (i := 15) (o := sb15) (R := fun v w' => v = sbV o3 o4 q1 q2 q4 pt sb tb bx 15 ∧ Ke w0 bx eb (firstN e0 (sbE o3 o4 q1 q2 q4 pt 15)) w' ∧ Frx w.heap.size eb w w') rfl rfl (sbx15 a w (hd { on := 8, ground := Go.Ground.data } (by simp [sb15]) (by decide) (by decide)) (hd { on := 13, ground := Go.Ground.data } (by simp [sb15]) (by decide) (by decide)) (hd { on := 14, ground := Go.Ground.data } (by simp [sb15]) (by decide) (by decide))) ((keep_any hk (boundRes o3 pt).1 (boundRes o3 pt).2).mono (fun e w' ⟨h1, h2, h3⟩ => ⟨_, h1, rfl, h2, h3⟩)) ?_
 rintro v w' ⟨rfl, h2, h3⟩
 exact ⟨rfl, h2, h3⟩
theorem sbx16 (a : Act) (W : World) (h0 : gt a 9 = (.func (.func 55) #[] #[.pointer (some ⟨bx, 0, none⟩)])) : (execOp a.eval sb16).run Tryz.prog W = .ok (.value ((.func (.func 55) #[] #[.pointer (some ⟨bx, 0, none⟩)]))) W := by
 have g0 := gt_eq h0
 clear h0
 simp only [execOp, sb16]
 go_simp
theorem sbh16 {Q : Exit → Act → World → Prop} {a0 a : Act} {w0 w : World} {eb e0 : Nat} (_e3 : gt a0 3 = .pointer (some ⟨sb, 0, none⟩)) (_e4 : gt a0 4 = .pointer (some ⟨tb, 0, none⟩)) (e9 : gt a0 9 = (.func (.func 55) #[] #[.pointer (some ⟨bx, 0, none⟩)])) (_e2 : gt a0 2 = St pt) (_b3 : w0.heap[sb]? = some (.cells #[St o0, St o1, St o2, St o3, St o4] 33 (0, 0))) (_b4 : w0.heap[tb]? = some (.cells #[St q0, St q1, St q2, St q3, St q4] 33 (0, 0))) (ho : Off sbDs a0 a) (_hk : Ke w0 bx eb e0 w)
   (_hd : ∀ e ∈ (sb16).after, Region.binds .any e = true → e.on ≠ 40 → gt a (sbD e.on) = sbV o3 o4 q1 q2 q4 pt sb tb bx e.on) : wpOp Tryz.prog sbs Q 16 (fun a' w' => a' = a.put (some (sbD 16)) (sbV o3 o4 q1 q2 q4 pt sb tb bx 16) ∧ Below w.heap.size w w') a w := by
 exact op_ok (i := 16) (o := sb16) rfl rfl (sbx16 a w ((ho.slot (by decide)).trans e9)) ⟨rfl, Below.refl _ _⟩
theorem sbx17 (a : Act) (W : World) (h0 : gt a 3 = .pointer (some ⟨sb, 0, none⟩)) : (execOp a.eval sb17).run Tryz.prog W = .ok (.value (.pointer (some ⟨sb, 4, none⟩))) W := by
 have g0 := gt_eq h0
 clear h0
 simp only [execOp, sb17]
 go_simp
theorem sbh17 {Q : Exit → Act → World → Prop} {a0 a : Act} {w0 w : World} {eb e0 : Nat} (e3 : gt a0 3 = .pointer (some ⟨sb, 0, none⟩)) (_e4 : gt a0 4 = .pointer (some ⟨tb, 0, none⟩)) (_e9 : gt a0 9 = (.func (.func 55) #[] #[.pointer (some ⟨bx, 0, none⟩)])) (_e2 : gt a0 2 = St pt) (_b3 : w0.heap[sb]? = some (.cells #[St o0, St o1, St o2, St o3, St o4] 33 (0, 0))) (_b4 : w0.heap[tb]? = some (.cells #[St q0, St q1, St q2, St q3, St q4] 33 (0, 0))) (ho : Off sbDs a0 a) (_hk : Ke w0 bx eb e0 w)
   (_hd : ∀ e ∈ (sb17).after, Region.binds .any e = true → e.on ≠ 40 → gt a (sbD e.on) = sbV o3 o4 q1 q2 q4 pt sb tb bx e.on) : wpOp Tryz.prog sbs Q 17 (fun a' w' => a' = a.put (some (sbD 17)) (sbV o3 o4 q1 q2 q4 pt sb tb bx 17) ∧ Below w.heap.size w w') a w := by
 exact op_ok (i := 17) (o := sb17) rfl rfl (sbx17 a w ((ho.slot (by decide)).trans e3)) ⟨rfl, Below.refl _ _⟩
theorem sbx18 (a : Act) (W : World) (h0 : gt a 29 = .pointer (some ⟨sb, 4, none⟩)) (c : W.cell? ⟨sb, 4, none⟩ = some (St o4)) : (execOp a.eval sb18).run Tryz.prog W = .ok (.value (St o4)) W := by
 have g0 := gt_eq h0
 clear h0
 simp only [execOp, sb18]
 go_simp
theorem sbh18 {Q : Exit → Act → World → Prop} {a0 a : Act} {w0 w : World} {eb e0 : Nat} (_e3 : gt a0 3 = .pointer (some ⟨sb, 0, none⟩)) (_e4 : gt a0 4 = .pointer (some ⟨tb, 0, none⟩)) (_e9 : gt a0 9 = (.func (.func 55) #[] #[.pointer (some ⟨bx, 0, none⟩)])) (_e2 : gt a0 2 = St pt) (b3 : w0.heap[sb]? = some (.cells #[St o0, St o1, St o2, St o3, St o4] 33 (0, 0))) (_b4 : w0.heap[tb]? = some (.cells #[St q0, St q1, St q2, St q3, St q4] 33 (0, 0))) (_ho : Off sbDs a0 a) (hk : Ke w0 bx eb e0 w)
   (hd : ∀ e ∈ (sb18).after, Region.binds .any e = true → e.on ≠ 40 → gt a (sbD e.on) = sbV o3 o4 q1 q2 q4 pt sb tb bx e.on) : wpOp Tryz.prog sbs Q 18 (fun a' w' => a' = a.put (some (sbD 18)) (sbV o3 o4 q1 q2 q4 pt sb tb bx 18) ∧ Below w.heap.size w w') a w := by
 exact op_ok (i := 18) (o := sb18) rfl rfl (sbx18 a w (hd { on := 17, ground := Go.Ground.data } (by simp [sb18]) (by decide) (by decide)) (by rw [cell_of_heap ((hk.bel.block _ (heap_lt b3)).trans b3)]; rfl)) ⟨rfl, Below.refl _ _⟩
theorem sbx19 (a : Act) (W : World) (h0 : gt a 2 = St pt) : (execOp a.eval sb19).run Tryz.prog W = .ok (.value (St pt)) W := by
 have g0 := gt_eq h0
 clear h0
 simp only [execOp, sb19]
 go_simp
theorem sbh19 {Q : Exit → Act → World → Prop} {a0 a : Act} {w0 w : World} {eb e0 : Nat} (_e3 : gt a0 3 = .pointer (some ⟨sb, 0, none⟩)) (_e4 : gt a0 4 = .pointer (some ⟨tb, 0, none⟩)) (_e9 : gt a0 9 = (.func (.func 55) #[] #[.pointer (some ⟨bx, 0, none⟩)])) (e2 : gt a0 2 = St pt) (_b3 : w0.heap[sb]? = some (.cells #[St o0, St o1, St o2, St o3, St o4] 33 (0, 0))) (_b4 : w0.heap[tb]? = some (.cells #[St q0, St q1, St q2, St q3, St q4] 33 (0, 0))) (ho : Off sbDs a0 a) (_hk : Ke w0 bx eb e0 w)
   (_hd : ∀ e ∈ (sb19).after, Region.binds .any e = true → e.on ≠ 40 → gt a (sbD e.on) = sbV o3 o4 q1 q2 q4 pt sb tb bx e.on) : wpOp Tryz.prog sbs Q 19 (fun a' w' => a' = a.put (some (sbD 19)) (sbV o3 o4 q1 q2 q4 pt sb tb bx 19) ∧ Below w.heap.size w w') a w := by
 exact op_ok (i := 19) (o := sb19) rfl rfl (sbx19 a w ((ho.slot (by decide)).trans e2)) ⟨rfl, Below.refl _ _⟩
theorem sbx20 (a : Act) (W : World) (h0 : gt a 30 = St o4) (h1 : gt a 31 = St pt) : (execOp a.eval sb20).run Tryz.prog W = .ok (.enter 52 #[St o4, St pt]) W := by
 have g0 := gt_eq h0
 have g1 := gt_eq h1
 clear h0 h1
 simp only [execOp, sb20]
 go_simp
theorem sbh20 {Q : Exit → Act → World → Prop} {a0 a : Act} {w0 w : World} {eb e0 : Nat} (_e3 : gt a0 3 = .pointer (some ⟨sb, 0, none⟩)) (_e4 : gt a0 4 = .pointer (some ⟨tb, 0, none⟩)) (_e9 : gt a0 9 = (.func (.func 55) #[] #[.pointer (some ⟨bx, 0, none⟩)])) (_e2 : gt a0 2 = St pt) (_b3 : w0.heap[sb]? = some (.cells #[St o0, St o1, St o2, St o3, St o4] 33 (0, 0))) (_b4 : w0.heap[tb]? = some (.cells #[St q0, St q1, St q2, St q3, St q4] 33 (0, 0))) (_ho : Off sbDs a0 a) (_hk : Ke w0 bx eb e0 w)
   (hd : ∀ e ∈ (sb20).after, Region.binds .any e = true → e.on ≠ 40 → gt a (sbD e.on) = sbV o3 o4 q1 q2 q4 pt sb tb bx e.on) : wpOp Tryz.prog sbs Q 20 (fun a' w' => a' = a.put (some (sbD 20)) (sbV o3 o4 q1 q2 q4 pt sb tb bx 20) ∧ Below w.heap.size w w') a w := by
 refine op_call (i := 20) (o := sb20) (R := fun v w' => v = sbV o3 o4 q1 q2 q4 pt sb tb bx 20 ∧ Below w.heap.size w w') rfl rfl (sbx20 a w (hd { on := 18, ground := Go.Ground.data } (by simp [sb20]) (by decide) (by decide)) (hd { on := 19, ground := Go.Ground.data } (by simp [sb20]) (by decide) (by decide))) ((bounds_any o4 pt w).mono (fun e w' ⟨h1, h2⟩ => ⟨_, h1, rfl, h2⟩)) ?_
 rintro v w' ⟨rfl, h2⟩
 exact ⟨rfl, h2⟩
theorem sbx21 (a : Act) (W : World) (h0 : gt a 32 = .tuple #[St (boundRes o4 pt).1, .int .i64 ((boundRes o4 pt).2 : Int)]) : (execOp a.eval sb21).run Tryz.prog W = .ok (.value (St (boundRes o4 pt).1)) W := by
 have g0 := gt_eq h0
 clear h0
 simp only [execOp, sb21]
 go_simp
theorem sbh21 {Q : Exit → Act → World → Prop} {a0 a : Act} {w0 w : World} {eb e0 : Nat} (_e3 : gt a0 3 = .pointer (some ⟨sb, 0, none⟩)) (_e4 : gt a0 4 = .pointer (some ⟨tb, 0, none⟩)) (_e9 : gt a0 9 = (.func (.func 55) #[] #[.pointer (some ⟨bx, 0, none⟩)])) (_e2 : gt a0 2 = St pt) (_b3 : w0.heap[sb]? = some (.cells #[St o0, St o1, St o2, St o3, St o4] 33 (0, 0))) (_b4 : w0.heap[tb]? = some (.cells #[St q0, St q1, St q2, St q3, St q4] 33 (0, 0))) (_ho : Off sbDs a0 a) (_hk : Ke w0 bx eb e0 w)
   (hd : ∀ e ∈ (sb21).after, Region.binds .any e = true → e.on ≠ 40 → gt a (sbD e.on) = sbV o3 o4 q1 q2 q4 pt sb tb bx e.on) : wpOp Tryz.prog sbs Q 21 (fun a' w' => a' = a.put (some (sbD 21)) (sbV o3 o4 q1 q2 q4 pt sb tb bx 21) ∧ Below w.heap.size w w') a w := by
 exact op_ok (i := 21) (o := sb21) rfl rfl (sbx21 a w (hd { on := 20, ground := Go.Ground.data } (by simp [sb21]) (by decide) (by decide))) ⟨rfl, Below.refl _ _⟩
theorem sbx22 (a : Act) (W : World) (h0 : gt a 32 = .tuple #[St (boundRes o4 pt).1, .int .i64 ((boundRes o4 pt).2 : Int)]) : (execOp a.eval sb22).run Tryz.prog W = .ok (.value (.int .i64 ((boundRes o4 pt).2 : Int))) W := by
 have g0 := gt_eq h0
 clear h0
 simp only [execOp, sb22]
 go_simp
theorem sbh22 {Q : Exit → Act → World → Prop} {a0 a : Act} {w0 w : World} {eb e0 : Nat} (_e3 : gt a0 3 = .pointer (some ⟨sb, 0, none⟩)) (_e4 : gt a0 4 = .pointer (some ⟨tb, 0, none⟩)) (_e9 : gt a0 9 = (.func (.func 55) #[] #[.pointer (some ⟨bx, 0, none⟩)])) (_e2 : gt a0 2 = St pt) (_b3 : w0.heap[sb]? = some (.cells #[St o0, St o1, St o2, St o3, St o4] 33 (0, 0))) (_b4 : w0.heap[tb]? = some (.cells #[St q0, St q1, St q2, St q3, St q4] 33 (0, 0))) (_ho : Off sbDs a0 a) (_hk : Ke w0 bx eb e0 w)
   (hd : ∀ e ∈ (sb22).after, Region.binds .any e = true → e.on ≠ 40 → gt a (sbD e.on) = sbV o3 o4 q1 q2 q4 pt sb tb bx e.on) : wpOp Tryz.prog sbs Q 22 (fun a' w' => a' = a.put (some (sbD 22)) (sbV o3 o4 q1 q2 q4 pt sb tb bx 22) ∧ Below w.heap.size w w') a w := by
 exact op_ok (i := 22) (o := sb22) rfl rfl (sbx22 a w (hd { on := 20, ground := Go.Ground.data } (by simp [sb22]) (by decide) (by decide))) ⟨rfl, Below.refl _ _⟩
theorem sbx23 (a : Act) (W : World) (h0 : gt a 28 = (.func (.func 55) #[] #[.pointer (some ⟨bx, 0, none⟩)])) (h1 : gt a 33 = St (boundRes o4 pt).1) (h2 : gt a 34 = .int .i64 ((boundRes o4 pt).2 : Int)) : (execOp a.eval sb23).run Tryz.prog W = .ok (.enter 55 #[St (boundRes o4 pt).1, .int .i64 ((boundRes o4 pt).2 : Int), .pointer (some ⟨bx, 0, none⟩)]) W := by
 have g0 := gt_eq h0
 have g1 := gt_eq h1
 have g2 := gt_eq h2
 clear h0 h1 h2
 simp only [execOp, sb23]
 go_simp
theorem sbh23 {Q : Exit → Act → World → Prop} {a0 a : Act} {w0 w : World} {eb e0 : Nat} (_e3 : gt a0 3 = .pointer (some ⟨sb, 0, none⟩)) (_e4 : gt a0 4 = .pointer (some ⟨tb, 0, none⟩)) (_e9 : gt a0 9 = (.func (.func 55) #[] #[.pointer (some ⟨bx, 0, none⟩)])) (_e2 : gt a0 2 = St pt) (_b3 : w0.heap[sb]? = some (.cells #[St o0, St o1, St o2, St o3, St o4] 33 (0, 0))) (_b4 : w0.heap[tb]? = some (.cells #[St q0, St q1, St q2, St q3, St q4] 33 (0, 0))) (_ho : Off sbDs a0 a) (hk : Ke w0 bx eb e0 w)
   (hd : ∀ e ∈ (sb23).after, Region.binds .any e = true → e.on ≠ 40 → gt a (sbD e.on) = sbV o3 o4 q1 q2 q4 pt sb tb bx e.on) : wpOp Tryz.prog sbs Q 23 (fun a' w' => a' = a.put (some (sbD 23)) (sbV o3 o4 q1 q2 q4 pt sb tb bx 23) ∧ Ke w0 bx eb (firstN e0 (sbE o3 o4 q1 q2 q4 pt 23)) w' ∧ Frx w.heap.size eb w w') a w := by
 refine op_call (i := 23) (o := sb23) (R := fun v w' => v = sbV o3 o4 q1 q2 q4 pt sb tb bx 23 ∧ Ke w0 bx eb (firstN e0 (sbE o3 o4 q1 q2 q4 pt 23)) w' ∧ Frx w.heap.size eb w w') rfl rfl (sbx23 a w (hd { on := 16, ground := Go.Ground.data } (by simp [sb23]) (by decide) (by decide)) (hd { on := 21, ground := Go.Ground.data } (by simp [sb23]) (by decide) (by decide)) (hd { on := 22, ground := Go.Ground.data } (by simp [sb23]) (by decide) (by decide))) ((keep_any hk (boundRes o4 pt).1 (boundRes o4 pt).2).mono (fun e w' ⟨h1, h2, h3⟩ => ⟨_, h1, rfl, h2, h3⟩)) ?_
 rintro v w' ⟨rfl, h2, h3⟩
 exact ⟨rfl, h2, h3⟩
theorem sbx24 (a : Act) (W : World) (h0 : gt a 9 = (.func (.func 55) #[] #[.pointer (some ⟨bx, 0, none⟩)])) : (execOp a.eval sb24).run Tryz.prog W = .ok (.value ((.func (.func 55) #[] #[.pointer (some ⟨bx, 0, none⟩)]))) W := by
 have g0 := gt_eq h0
 clear h0
 simp only [execOp, sb24]
 go_simp
theorem sbh24 {Q : Exit → Act → World → Prop} {a0 a : Act} {w0 w : World} {eb e0 : Nat} (_e3 : gt a0 3 = .pointer (some ⟨sb, 0, none⟩)) (_e4 : gt a0 4 = .pointer (some ⟨tb, 0, none⟩)) (e9 : gt a0 9 = (.func (.func 55) #[] #[.pointer (some ⟨bx, 0, none⟩)])) (_e2 : gt a0 2 = St pt) (_b3 : w0.heap[sb]? = some (.cells #[St o0, St o1, St o2, St o3, St o4] 33 (0, 0))) (_b4 : w0.heap[tb]? = some (.cells #[St q0, St q1, St q2, St q3, St q4] 33 (0, 0))) (ho : Off sbDs a0 a) (_hk : Ke w0 bx eb e0 w)
   (_hd : ∀ e ∈ (sb24).after, Region.binds .any e = true → e.on ≠ 40 → gt a (sbD e.on) = sbV o3 o4 q1 q2 q4 pt sb tb bx e.on) : wpOp Tryz.prog sbs Q 24 (fun a' w' => a' = a.put (some (sbD 24)) (sbV o3 o4 q1 q2 q4 pt sb tb bx 24) ∧ Below w.heap.size w w') a w := by
 exact op_ok (i := 24) (o := sb24) rfl rfl (sbx24 a w ((ho.slot (by decide)).trans e9)) ⟨rfl, Below.refl _ _⟩
theorem sbx25 (a : Act) (W : World) (h0 : gt a 4 = .pointer (some ⟨tb, 0, none⟩)) : (execOp a.eval sb25).run Tryz.prog W = .ok (.value (.pointer (some ⟨tb, 4, none⟩))) W := by
 have g0 := gt_eq h0
 clear h0
 simp only [execOp, sb25]
 go_simp
theorem sbh25 {Q : Exit → Act → World → Prop} {a0 a : Act} {w0 w : World} {eb e0 : Nat} (_e3 : gt a0 3 = .pointer (some ⟨sb, 0, none⟩)) (e4 : gt a0 4 = .pointer (some ⟨tb, 0, none⟩)) (_e9 : gt a0 9 = (.func (.func 55) #[] #[.pointer (some ⟨bx, 0, none⟩)])) (_e2 : gt a0 2 = St pt) (_b3 : w0.heap[sb]? = some (.cells #[St o0, St o1, St o2, St o3, St o4] 33 (0, 0))) (_b4 : w0.heap[tb]? = some (.cells #[St q0, St q1, St q2, St q3, St q4] 33 (0, 0))) (ho : Off sbDs a0 a) (_hk : Ke w0 bx eb e0 w)
   (_hd : ∀ e ∈ (sb25).after, Region.binds .any e = true → e.on ≠ 40 → gt a (sbD e.on) = sbV o3 o4 q1 q2 q4 pt sb tb bx e.on) : wpOp Tryz.prog sbs Q 25 (fun a' w' => a' = a.put (some (sbD 25)) (sbV o3 o4 q1 q2 q4 pt sb tb bx 25) ∧ Below w.heap.size w w') a w := by
 exact op_ok (i := 25) (o := sb25) rfl rfl (sbx25 a w ((ho.slot (by decide)).trans e4)) ⟨rfl, Below.refl _ _⟩
theorem sbx26 (a : Act) (W : World) (h0 : gt a 37 = .pointer (some ⟨tb, 4, none⟩)) (c : W.cell? ⟨tb, 4, none⟩ = some (St q4)) : (execOp a.eval sb26).run Tryz.prog W = .ok (.value (St q4)) W := by
 have g0 := gt_eq h0
 clear h0
 simp only [execOp, sb26]
 go_simp
theorem sbh26 {Q : Exit → Act → World → Prop} {a0 a : Act} {w0 w : World} {eb e0 : Nat} (_e3 : gt a0 3 = .pointer (some ⟨sb, 0, none⟩)) (_e4 : gt a0 4 = .pointer (some ⟨tb, 0, none⟩)) (_e9 : gt a0 9 = (.func (.func 55) #[] #[.pointer (some ⟨bx, 0, none⟩)])) (_e2 : gt a0 2 = St pt) (_b3 : w0.heap[sb]? = some (.cells #[St o0, St o1, St o2, St o3, St o4] 33 (0, 0))) (b4 : w0.heap[tb]? = some (.cells #[St q0, St q1, St q2, St q3, St q4] 33 (0, 0))) (_ho : Off sbDs a0 a) (hk : Ke w0 bx eb e0 w)
   (hd : ∀ e ∈ (sb26).after, Region.binds .any e = true → e.on ≠ 40 → gt a (sbD e.on) = sbV o3 o4 q1 q2 q4 pt sb tb bx e.on) : wpOp Tryz.prog sbs Q 26 (fun a' w' => a' = a.put (some (sbD 26)) (sbV o3 o4 q1 q2 q4 pt sb tb bx 26) ∧ Below w.heap.size w w') a w := by
 exact op_ok (i := 26) (o := sb26) rfl rfl (sbx26 a w (hd { on := 25, ground := Go.Ground.data } (by simp [sb26]) (by decide) (by decide)) (by rw [cell_of_heap ((hk.bel.block _ (heap_lt b4)).trans b4)]; rfl)) ⟨rfl, Below.refl _ _⟩
theorem sbx27 (a : Act) (W : World) (h0 : gt a 2 = St pt) : (execOp a.eval sb27).run Tryz.prog W = .ok (.value (St pt)) W := by
 have g0 := gt_eq h0
 clear h0
 simp only [execOp, sb27]
 go_simp
theorem sbh27 {Q : Exit → Act → World → Prop} {a0 a : Act} {w0 w : World} {eb e0 : Nat} (_e3 : gt a0 3 = .pointer (some ⟨sb, 0, none⟩)) (_e4 : gt a0 4 = .pointer (some ⟨tb, 0, none⟩)) (_e9 : gt a0 9 = (.func (.func 55) #[] #[.pointer (some ⟨bx, 0, none⟩)])) (e2 : gt a0 2 = St pt) (_b3 : w0.heap[sb]? = some (.cells #[St o0, St o1, St o2, St o3, St o4] 33 (0, 0))) (_b4 : w0.heap[tb]? = some (.cells #[St q0, St q1, St q2, St q3, St q4] 33 (0, 0))) (ho : Off sbDs a0 a) (_hk : Ke w0 bx eb e0 w)
   (_hd : ∀ e ∈ (sb27).after, Region.binds .any e = true → e.on ≠ 40 → gt a (sbD e.on) = sbV o3 o4 q1 q2 q4 pt sb tb bx e.on) : wpOp Tryz.prog sbs Q 27 (fun a' w' => a' = a.put (some (sbD 27)) (sbV o3 o4 q1 q2 q4 pt sb tb bx 27) ∧ Below w.heap.size w w') a w := by
 exact op_ok (i := 27) (o := sb27) rfl rfl (sbx27 a w ((ho.slot (by decide)).trans e2)) ⟨rfl, Below.refl _ _⟩
theorem sbx28 (a : Act) (W : World) (h0 : gt a 38 = St q4) (h1 : gt a 39 = St pt) : (execOp a.eval sb28).run Tryz.prog W = .ok (.enter 52 #[St q4, St pt]) W := by
 have g0 := gt_eq h0
 have g1 := gt_eq h1
 clear h0 h1
 simp only [execOp, sb28]
 go_simp
theorem sbh28 {Q : Exit → Act → World → Prop} {a0 a : Act} {w0 w : World} {eb e0 : Nat} (_e3 : gt a0 3 = .pointer (some ⟨sb, 0, none⟩)) (_e4 : gt a0 4 = .pointer (some ⟨tb, 0, none⟩)) (_e9 : gt a0 9 = (.func (.func 55) #[] #[.pointer (some ⟨bx, 0, none⟩)])) (_e2 : gt a0 2 = St pt) (_b3 : w0.heap[sb]? = some (.cells #[St o0, St o1, St o2, St o3, St o4] 33 (0, 0))) (_b4 : w0.heap[tb]? = some (.cells #[St q0, St q1, St q2, St q3, St q4] 33 (0, 0))) (_ho : Off sbDs a0 a) (_hk : Ke w0 bx eb e0 w)
   (hd : ∀ e ∈ (sb28).after, Region.binds .any e = true → e.on ≠ 40 → gt a (sbD e.on) = sbV o3 o4 q1 q2 q4 pt sb tb bx e.on) : wpOp Tryz.prog sbs Q 28 (fun a' w' => a' = a.put (some (sbD 28)) (sbV o3 o4 q1 q2 q4 pt sb tb bx 28) ∧ Below w.heap.size w w') a w := by
 refine op_call (i := 28) (o := sb28) (R := fun v w' => v = sbV o3 o4 q1 q2 q4 pt sb tb bx 28 ∧ Below w.heap.size w w') rfl rfl (sbx28 a w (hd { on := 26, ground := Go.Ground.data } (by simp [sb28]) (by decide) (by decide)) (hd { on := 27, ground := Go.Ground.data } (by simp [sb28]) (by decide) (by decide))) ((bounds_any q4 pt w).mono (fun e w' ⟨h1, h2⟩ => ⟨_, h1, rfl, h2⟩)) ?_
 rintro v w' ⟨rfl, h2⟩
 exact ⟨rfl, h2⟩
theorem sbx29 (a : Act) (W : World) (h0 : gt a 40 = .tuple #[St (boundRes q4 pt).1, .int .i64 ((boundRes q4 pt).2 : Int)]) : (execOp a.eval sb29).run Tryz.prog W = .ok (.value (St (boundRes q4 pt).1)) W := by
 have g0 := gt_eq h0
 clear h0
 simp only [execOp, sb29]
 go_simp
theorem sbh29 {Q : Exit → Act → World → Prop} {a0 a : Act} {w0 w : World} {eb e0 : Nat} (_e3 : gt a0 3 = .pointer (some ⟨sb, 0, none⟩)) (_e4 : gt a0 4 = .pointer (some ⟨tb, 0, none⟩)) (_e9 : gt a0 9 = (.func (.func 55) #[] #[.pointer (some ⟨bx, 0, none⟩)])) (_e2 : gt a0 2 = St pt) (_b3 : w0.heap[sb]? = some (.cells #[St o0, St o1, St o2, St o3, St o4] 33 (0, 0))) (_b4 : w0.heap[tb]? = some (.cells #[St q0, St q1, St q2, St q3, St q4] 33 (0, 0))) (_ho : Off sbDs a0 a) (_hk : Ke w0 bx eb e0 w)
   (hd : ∀ e ∈ (sb29).after, Region.binds .any e = true → e.on ≠ 40 → gt a (sbD e.on) = sbV o3 o4 q1 q2 q4 pt sb tb bx e.on) : wpOp Tryz.prog sbs Q 29 (fun a' w' => a' = a.put (some (sbD 29)) (sbV o3 o4 q1 q2 q4 pt sb tb bx 29) ∧ Below w.heap.size w w') a w := by
 exact op_ok (i := 29) (o := sb29) rfl rfl (sbx29 a w (hd { on := 28, ground := Go.Ground.data } (by simp [sb29]) (by decide) (by decide))) ⟨rfl, Below.refl _ _⟩
theorem sbx30 (a : Act) (W : World) (h0 : gt a 40 = .tuple #[St (boundRes q4 pt).1, .int .i64 ((boundRes q4 pt).2 : Int)]) : (execOp a.eval sb30).run Tryz.prog W = .ok (.value (.int .i64 ((boundRes q4 pt).2 : Int))) W := by
 have g0 := gt_eq h0
 clear h0
 simp only [execOp, sb30]
 go_simp
theorem sbh30 {Q : Exit → Act → World → Prop} {a0 a : Act} {w0 w : World} {eb e0 : Nat} (_e3 : gt a0 3 = .pointer (some ⟨sb, 0, none⟩)) (_e4 : gt a0 4 = .pointer (some ⟨tb, 0, none⟩)) (_e9 : gt a0 9 = (.func (.func 55) #[] #[.pointer (some ⟨bx, 0, none⟩)])) (_e2 : gt a0 2 = St pt) (_b3 : w0.heap[sb]? = some (.cells #[St o0, St o1, St o2, St o3, St o4] 33 (0, 0))) (_b4 : w0.heap[tb]? = some (.cells #[St q0, St q1, St q2, St q3, St q4] 33 (0, 0))) (_ho : Off sbDs a0 a) (_hk : Ke w0 bx eb e0 w)
   (hd : ∀ e ∈ (sb30).after, Region.binds .any e = true → e.on ≠ 40 → gt a (sbD e.on) = sbV o3 o4 q1 q2 q4 pt sb tb bx e.on) : wpOp Tryz.prog sbs Q 30 (fun a' w' => a' = a.put (some (sbD 30)) (sbV o3 o4 q1 q2 q4 pt sb tb bx 30) ∧ Below w.heap.size w w') a w := by
 exact op_ok (i := 30) (o := sb30) rfl rfl (sbx30 a w (hd { on := 28, ground := Go.Ground.data } (by simp [sb30]) (by decide) (by decide))) ⟨rfl, Below.refl _ _⟩
theorem sbx31 (a : Act) (W : World) (h0 : gt a 36 = (.func (.func 55) #[] #[.pointer (some ⟨bx, 0, none⟩)])) (h1 : gt a 41 = St (boundRes q4 pt).1) (h2 : gt a 42 = .int .i64 ((boundRes q4 pt).2 : Int)) : (execOp a.eval sb31).run Tryz.prog W = .ok (.enter 55 #[St (boundRes q4 pt).1, .int .i64 ((boundRes q4 pt).2 : Int), .pointer (some ⟨bx, 0, none⟩)]) W := by
 have g0 := gt_eq h0
 have g1 := gt_eq h1
 have g2 := gt_eq h2
 clear h0 h1 h2
 simp only [execOp, sb31]
 go_simp
theorem sbh31 {Q : Exit → Act → World → Prop} {a0 a : Act} {w0 w : World} {eb e0 : Nat} (_e3 : gt a0 3 = .pointer (some ⟨sb, 0, none⟩)) (_e4 : gt a0 4 = .pointer (some ⟨tb, 0, none⟩)) (_e9 : gt a0 9 = (.func (.func 55) #[] #[.pointer (some ⟨bx, 0, none⟩)])) (_e2 : gt a0 2 = St pt) (_b3 : w0.heap[sb]? = some (.cells #[St o0, St o1, St o2, St o3, St o4] 33 (0, 0))) (_b4 : w0.heap[tb]? = some (.cells #[St q0, St q1, St q2, St q3, St q4] 33 (0, 0))) (_ho : Off sbDs a0 a) (hk : Ke w0 bx eb e0 w)
   (hd : ∀ e ∈ (sb31).after, Region.binds .any e = true → e.on ≠ 40 → gt a (sbD e.on) = sbV o3 o4 q1 q2 q4 pt sb tb bx e.on) : wpOp Tryz.prog sbs Q 31 (fun a' w' => a' = a.put (some (sbD 31)) (sbV o3 o4 q1 q2 q4 pt sb tb bx 31) ∧ Ke w0 bx eb (firstN e0 (sbE o3 o4 q1 q2 q4 pt 31)) w' ∧ Frx w.heap.size eb w w') a w := by
 refine op_call (i := 31) (o := sb31) (R := fun v w' => v = sbV o3 o4 q1 q2 q4 pt sb tb bx 31 ∧ Ke w0 bx eb (firstN e0 (sbE o3 o4 q1 q2 q4 pt 31)) w' ∧ Frx w.heap.size eb w w') rfl rfl (sbx31 a w (hd { on := 24, ground := Go.Ground.data } (by simp [sb31]) (by decide) (by decide)) (hd { on := 29, ground := Go.Ground.data } (by simp [sb31]) (by decide) (by decide)) (hd { on := 30, ground := Go.Ground.data } (by simp [sb31]) (by decide) (by decide))) ((keep_any hk (boundRes q4 pt).1 (boundRes q4 pt).2).mono (fun e w' ⟨h1, h2, h3⟩ => ⟨_, h1, rfl, h2, h3⟩)) ?_
 rintro v w' ⟨rfl, h2, h3⟩
 exact ⟨rfl, h2, h3⟩
theorem sbx32 (a : Act) (W : World) (h0 : gt a 9 = (.func (.func 55) #[] #[.pointer (some ⟨bx, 0, none⟩)])) : (execOp a.eval sb32).run Tryz.prog W = .ok (.value ((.func (.func 55) #[] #[.pointer (some ⟨bx, 0, none⟩)]))) W := by
 have g0 := gt_eq h0
 clear h0
 simp only [execOp, sb32]
 go_simp
theorem sbh32 {Q : Exit → Act → World → Prop} {a0 a : Act} {w0 w : World} {eb e0 : Nat} (_e3 : gt a0 3 = .pointer (some ⟨sb, 0, none⟩)) (_e4 : gt a0 4 = .pointer (some ⟨tb, 0, none⟩)) (e9 : gt a0 9 = (.func (.func 55) #[] #[.pointer (some ⟨bx, 0, none⟩)])) (_e2 : gt a0 2 = St pt) (_b3 : w0.heap[sb]? = some (.cells #[St o0, St o1, St o2, St o3, St o4] 33 (0, 0))) (_b4 : w0.heap[tb]? = some (.cells #[St q0, St q1, St q2, St q3, St q4] 33 (0, 0))) (ho : Off sbDs a0 a) (_hk : Ke w0 bx eb e0 w)
   (_hd : ∀ e ∈ (sb32).after, Region.binds .any e = true → e.on ≠ 40 → gt a (sbD e.on) = sbV o3 o4 q1 q2 q4 pt sb tb bx e.on) : wpOp Tryz.prog sbs Q 32 (fun a' w' => a' = a.put (some (sbD 32)) (sbV o3 o4 q1 q2 q4 pt sb tb bx 32) ∧ Below w.heap.size w w') a w := by
 exact op_ok (i := 32) (o := sb32) rfl rfl (sbx32 a w ((ho.slot (by decide)).trans e9)) ⟨rfl, Below.refl _ _⟩
theorem sbx33 (a : Act) (W : World) (h0 : gt a 4 = .pointer (some ⟨tb, 0, none⟩)) : (execOp a.eval sb33).run Tryz.prog W = .ok (.value (.pointer (some ⟨tb, 2, none⟩))) W := by
 have g0 := gt_eq h0
 clear h0
 simp only [execOp, sb33]
 go_simp
theorem sbh33 {Q : Exit → Act → World → Prop} {a0 a : Act} {w0 w : World} {eb e0 : Nat} (_e3 : gt a0 3 = .pointer (some ⟨sb, 0, none⟩)) (e4 : gt a0 4 = .pointer (some ⟨tb, 0, none⟩)) (_e9 : gt a0 9 = (.func (.func 55) #[] #[.pointer (some ⟨bx, 0, none⟩)])) (_e2 : gt a0 2 = St pt) (_b3 : w0.heap[sb]? = some (.cells #[St o0, St o1, St o2, St o3, St o4] 33 (0, 0))) (_b4 : w0.heap[tb]? = some (.cells #[St q0, St q1, St q2, St q3, St q4] 33 (0, 0))) (ho : Off sbDs a0 a) (_hk : Ke w0 bx eb e0 w)
   (_hd : ∀ e ∈ (sb33).after, Region.binds .any e = true → e.on ≠ 40 → gt a (sbD e.on) = sbV o3 o4 q1 q2 q4 pt sb tb bx e.on) : wpOp Tryz.prog sbs Q 33 (fun a' w' => a' = a.put (some (sbD 33)) (sbV o3 o4 q1 q2 q4 pt sb tb bx 33) ∧ Below w.heap.size w w') a w := by
 exact op_ok (i := 33) (o := sb33) rfl rfl (sbx33 a w ((ho.slot (by decide)).trans e4)) ⟨rfl, Below.refl _ _⟩
theorem sbx34 (a : Act) (W : World) (h0 : gt a 45 = .pointer (some ⟨tb, 2, none⟩)) (c : W.cell? ⟨tb, 2, none⟩ = some (St q2)) : (execOp a.eval sb34).run Tryz.prog W = .ok (.value (St q2)) W := by
 have g0 := gt_eq h0
 clear h0
 simp only [execOp, sb34]
 go_simp
theorem sbh34 {Q : Exit → Act → World → Prop} {a0 a : Act} {w0 w : World} {eb e0 : Nat} (_e3 : gt a0 3 = .pointer (some ⟨sb, 0, none⟩)) (_e4 : gt a0 4 = .pointer (some ⟨tb, 0, none⟩)) (_e9 : gt a0 9 = (.func (.func 55) #[] #[.pointer (some ⟨bx, 0, none⟩)])) (_e2 : gt a0 2 = St pt) (_b3 : w0.heap[sb]? = some (.cells #[St o0, St o1, St o2, St o3, St o4] 33 (0, 0))) (b4 : w0.heap[tb]? = some (.cells #[St q0, St q1, St q2, St q3, St q4] 33 (0, 0))) (_ho : Off sbDs a0 a) (hk : Ke w0 bx eb e0 w)
   (hd : ∀ e ∈ (sb34).after, Region.binds .any e = true → e.on ≠ 40 → gt a (sbD e.on) = sbV o3 o4 q1 q2 q4 pt sb tb bx e.on) : wpOp Tryz.prog sbs Q 34 (fun a' w' => a' = a.put (some (sbD 34)) (sbV o3 o4 q1 q2 q4 pt sb tb bx 34) ∧ Below w.heap.size w w') a w := by
 exact op_ok (i := 34) (o := sb34) rfl rfl (sbx34 a w (hd { on := 33, ground := Go.Ground.data } (by simp [sb34]) (by decide) (by decide)) (by rw [cell_of_heap ((hk.bel.block _ (heap_lt b4)).trans b4)]; rfl)) ⟨rfl, Below.refl _ _⟩
theorem sbx35 (a : Act) (W : World) (h0 : gt a 46 = St q2) : (execOp a.eval sb35).run Tryz.prog W = .ok (.enter 53 #[St q2]) W := by
 have g0 := gt_eq h0
 clear h0
 simp only [execOp, sb35]
 go_simp
theorem sbh35 {Q : Exit → Act → World → Prop} {a0 a : Act} {w0 w : World} {eb e0 : Nat} (_e3 : gt a0 3 = .pointer (some ⟨sb, 0, none⟩)) (_e4 : gt a0 4 = .pointer (some ⟨tb, 0, none⟩)) (_e9 : gt a0 9 = (.func (.func 55) #[] #[.pointer (some ⟨bx, 0, none⟩)])) (_e2 : gt a0 2 = St pt) (_b3 : w0.heap[sb]? = some (.cells #[St o0, St o1, St o2, St o3, St o4] 33 (0, 0))) (_b4 : w0.heap[tb]? = some (.cells #[St q0, St q1, St q2, St q3, St q4] 33 (0, 0))) (_ho : Off sbDs a0 a) (_hk : Ke w0 bx eb e0 w)
   (hd : ∀ e ∈ (sb35).after, Region.binds .any e = true → e.on ≠ 40 → gt a (sbD e.on) = sbV o3 o4 q1 q2 q4 pt sb tb bx e.on) : wpOp Tryz.prog sbs Q 35 (fun a' w' => a' = a.put (some (sbD 35)) (sbV o3 o4 q1 q2 q4 pt sb tb bx 35) ∧ Below w.heap.size w w') a w := by
 refine op_call (i := 35) (o := sb35) (R := fun v w' => v = sbV o3 o4 q1 q2 q4 pt sb tb bx 35 ∧ Below w.heap.size w w') rfl rfl (sbx35 a w (hd { on := 34, ground := Go.Ground.data } (by simp [sb35]) (by decide) (by decide))) ((pk_any q2 w).mono (fun e w' ⟨h1, h2⟩ => ⟨_, h1, rfl, h2⟩)) ?_
 rintro v w' ⟨rfl, h2⟩
 exact ⟨rfl, h2⟩
theorem sbx36 (a : Act) (W : World) (h0 : gt a 47 = .tuple #[St (pkRes q2).1, .int .i64 ((pkRes q2).2 : Int)]) : (execOp a.eval sb36).run Tryz.prog W = .ok (.value (St (pkRes q2).1)) W := by
 have g0 := gt_eq h0
 clear h0
 simp only [execOp, sb36]
 go_simp
theorem sbh36 {Q : Exit → Act → World → Prop} {a0 a : Act} {w0 w : World} {eb e0 : Nat} (_e3 : gt a0 3 = .pointer (some ⟨sb, 0, none⟩)) (_e4 : gt a0 4 = .pointer (some ⟨tb, 0, none⟩)) (_e9 : gt a0 9 = (.func (.func 55) #[] #[.pointer (some ⟨bx, 0, none⟩)])) (_e2 : gt a0 2 = St pt) (_b3 : w0.heap[sb]? = some (.cells #[St o0, St o1, St o2, St o3, St o4] 33 (0, 0))) (_b4 : w0.heap[tb]? = some (.cells #[St q0, St q1, St q2, St q3, St q4] 33 (0, 0))) (_ho : Off sbDs a0 a) (_hk : Ke w0 bx eb e0 w)
   (hd : ∀ e ∈ (sb36).after, Region.binds .any e = true → e.on ≠ 40 → gt a (sbD e.on) = sbV o3 o4 q1 q2 q4 pt sb tb bx e.on) : wpOp Tryz.prog sbs Q 36 (fun a' w' => a' = a.put (some (sbD 36)) (sbV o3 o4 q1 q2 q4 pt sb tb bx 36) ∧ Below w.heap.size w w') a w := by
 exact op_ok (i := 36) (o := sb36) rfl rfl (sbx36 a w (hd { on := 35, ground := Go.Ground.data } (by simp [sb36]) (by decide) (by decide))) ⟨rfl, Below.refl _ _⟩
theorem sbx37 (a : Act) (W : World) (h0 : gt a 47 = .tuple #[St (pkRes q2).1, .int .i64 ((pkRes q2).2 : Int)]) : (execOp a.eval sb37).run Tryz.prog W = .ok (.value (.int .i64 ((pkRes q2).2 : Int))) W := by
 have g0 := gt_eq h0
 clear h0
 simp only [execOp, sb37]
 go_simp
theorem sbh37 {Q : Exit → Act → World → Prop} {a0 a : Act} {w0 w : World} {eb e0 : Nat} (_e3 : gt a0 3 = .pointer (some ⟨sb, 0, none⟩)) (_e4 : gt a0 4 = .pointer (some ⟨tb, 0, none⟩)) (_e9 : gt a0 9 = (.func (.func 55) #[] #[.pointer (some ⟨bx, 0, none⟩)])) (_e2 : gt a0 2 = St pt) (_b3 : w0.heap[sb]? = some (.cells #[St o0, St o1, St o2, St o3, St o4] 33 (0, 0))) (_b4 : w0.heap[tb]? = some (.cells #[St q0, St q1, St q2, St q3, St q4] 33 (0, 0))) (_ho : Off sbDs a0 a) (_hk : Ke w0 bx eb e0 w)
   (hd : ∀ e ∈ (sb37).after, Region.binds .any e = true → e.on ≠ 40 → gt a (sbD e.on) = sbV o3 o4 q1 q2 q4 pt sb tb bx e.on) : wpOp Tryz.prog sbs Q 37 (fun a' w' => a' = a.put (some (sbD 37)) (sbV o3 o4 q1 q2 q4 pt sb tb bx 37) ∧ Below w.heap.size w w') a w := by
 exact op_ok (i := 37) (o := sb37) rfl rfl (sbx37 a w (hd { on := 35, ground := Go.Ground.data } (by simp [sb37]) (by decide) (by decide))) ⟨rfl, Below.refl _ _⟩
theorem sbx38 (a : Act) (W : World) (h0 : gt a 44 = (.func (.func 55) #[] #[.pointer (some ⟨bx, 0, none⟩)])) (h1 : gt a 48 = St (pkRes q2).1) (h2 : gt a 49 = .int .i64 ((pkRes q2).2 : Int)) : (execOp a.eval sb38).run Tryz.prog W = .ok (.enter 55 #[St (pkRes q2).1, .int .i64 ((pkRes q2).2 : Int), .pointer (some ⟨bx, 0, none⟩)]) W := by
 have g0 := gt_eq h0
 have g1 := gt_eq h1
 have g2 := gt_eq h2
 clear h0 h1 h2
 simp only [execOp, sb38]
 go_simp
theorem sbh38 {Q : Exit → Act → World → Prop} {a0 a : Act} {w0 w : World} {eb e0 : Nat} (_e3 : gt a0 3 = .pointer (some ⟨sb, 0, none⟩)) (_e4 : gt a0 4 = .pointer (some ⟨tb, 0, none⟩)) (_e9 : gt a0 9 = (.func (.func 55) #[] #[.pointer (some ⟨bx, 0, none⟩)])) (_e2 : gt a0 2 = St pt) (_b3 : w0.heap[sb]? = some (.cells #[St o0, St o1, St o2, St o3, St o4] 33 (0, 0))) (_b4 : w0.heap[tb]? = some (.cells #[St q0, St q1, St q2, St q3, St q4] 33 (0, 0))) (_ho : Off sbDs a0 a) (hk : Ke w0 bx eb e0 w)
   (hd : ∀ e ∈ (sb38).after, Region.binds .any e = true → e.on ≠ 40 → gt a (sbD e.on) = sbV o3 o4 q1 q2 q4 pt sb tb bx e.on) : wpOp Tryz.prog sbs Q 38 (fun a' w' => a' = a.put (some (sbD 38)) (sbV o3 o4 q1 q2 q4 pt sb tb bx 38) ∧ Ke w0 bx eb (firstN e0 (sbE o3 o4 q1 q2 q4 pt 38)) w' ∧ Frx w.heap.size eb w w') a w := by
 refine op_call (i := 38) (o := sb38) (R := fun v w' => v = sbV o3 o4 q1 q2 q4 pt sb tb bx 38 ∧ Ke w0 bx eb (firstN e0 (sbE o3 o4 q1 q2 q4 pt 38)) w' ∧ Frx w.heap.size eb w w') rfl rfl (sbx38 a w (hd { on := 32, ground := Go.Ground.data } (by simp [sb38]) (by decide) (by decide)) (hd { on := 36, ground := Go.Ground.data } (by simp [sb38]) (by decide) (by decide)) (hd { on := 37, ground := Go.Ground.data } (by simp [sb38]) (by decide) (by decide))) ((keep_any hk (pkRes q2).1 (pkRes q2).2).mono (fun e w' ⟨h1, h2, h3⟩ => ⟨_, h1, rfl, h2, h3⟩)) ?_
 rintro v w' ⟨rfl, h2, h3⟩
 exact ⟨rfl, h2, h3⟩
theorem sbx39 (a : Act) (W : World) (h0 : gt a 19 = St (jointRes q1 pt).1) (h1 : gt a 27 = St (boundRes o3 pt).1) (h2 : gt a 35 = St (boundRes o4 pt).1) (h3 : gt a 43 = St (boundRes q4 pt).1) (h4 : gt a 50 = St (pkRes q2).1) : (execOp a.eval sb39).run Tryz.prog W = .ok (.value (.agg #[St (jointRes q1 pt).1, St (boundRes o3 pt).1, St (boundRes o4 pt).1, St (boundRes q4 pt).1, St (pkRes q2).1])) W := by
 have g0 := gt_eq h0
 have g1 := gt_eq h1
 have g2 := gt_eq h2
 have g3 := gt_eq h3
 have g4 := gt_eq h4
 clear h0 h1 h2 h3 h4
 simp only [execOp, sb39]
 go_simp
theorem sbh39 {Q : Exit → Act → World → Prop} {a0 a : Act} {w0 w : World} {eb e0 : Nat} (_e3 : gt a0 3 = .pointer (some ⟨sb, 0, none⟩)) (_e4 : gt a0 4 = .pointer (some ⟨tb, 0, none⟩)) (_e9 : gt a0 9 = (.func (.func 55) #[] #[.pointer (some ⟨bx, 0, none⟩)])) (_e2 : gt a0 2 = St pt) (_b3 : w0.heap[sb]? = some (.cells #[St o0, St o1, St o2, St o3, St o4] 33 (0, 0))) (_b4 : w0.heap[tb]? = some (.cells #[St q0, St q1, St q2, St q3, St q4] 33 (0, 0))) (_ho : Off sbDs a0 a) (_hk : Ke w0 bx eb e0 w)
   (hd : ∀ e ∈ (sb39).after, Region.binds .any e = true → e.on ≠ 40 → gt a (sbD e.on) = sbV o3 o4 q1 q2 q4 pt sb tb bx e.on) : wpOp Tryz.prog sbs Q 39 (fun a' w' => a' = a.put (some (sbD 39)) (sbV o3 o4 q1 q2 q4 pt sb tb bx 39) ∧ Below w.heap.size w w') a w := by
 exact op_ok (i := 39) (o := sb39) rfl rfl (sbx39 a w (hd { on := 7, ground := Go.Ground.data } (by simp [sb39]) (by decide) (by decide)) (hd { on := 15, ground := Go.Ground.data } (by simp [sb39]) (by decide) (by decide)) (hd { on := 23, ground := Go.Ground.data } (by simp [sb39]) (by decide) (by decide)) (hd { on := 31, ground := Go.Ground.data } (by simp [sb39]) (by decide) (by decide)) (hd { on := 38, ground := Go.Ground.data } (by simp [sb39]) (by decide) (by decide))) ⟨rfl, Below.refl _ _⟩
theorem sbxa (a : Act) (W : World) : (execOp a.eval sb40).run Tryz.prog W = .ok (.value (.pointer (some ⟨W.heap.size, 0, none⟩))) (W.alloc (.cells #[St [], St [], St [], St [], St []] 26)) := by
 simp only [execOp, sb40]
 go_simp
theorem sbxz (a : Act) (W : World) (g : Nat) (hg : W.heap[g]? = some (.cells #[St [], St [], St [], St [], St []] 26 (0, 0))) (h0 : gt a 10 = .pointer (some ⟨g, 0, none⟩)) (h1 : gt a 51 = .agg #[St (jointRes q1 pt).1, St (boundRes o3 pt).1, St (boundRes o4 pt).1, St (boundRes q4 pt).1, St (pkRes q2).1]) :
   (execOp a.eval sb41).run Tryz.prog W = .ok .skip (((((W.setCell ⟨g, 0, none⟩ (St (jointRes q1 pt).1)).setCell ⟨g, 1, none⟩ (St (boundRes o3 pt).1)).setCell ⟨g, 2, none⟩ (St (boundRes o4 pt).1)).setCell ⟨g, 3, none⟩ (St (boundRes q4 pt).1)).setCell ⟨g, 4, none⟩ (St (pkRes q2).1)) := by
 have g0 := gt_eq h0
 have g1 := gt_eq h1
 have c : ∀ o, W.cell? ⟨g, o, none⟩ = (#[St [], St [], St [], St [], St []] : Array Value)[o]? := fun o => cell_of_heap hg o
 have f : ∀ o, W.frozen? ⟨g, o, none⟩ = false := fun o => frozen_of_heap hg o
 have c0 : W.cell? ⟨g, 0, none⟩ = some (St []) := c 0
 have c1 : W.cell? ⟨g, 1, none⟩ = some (St []) := c 1
 have c2 : W.cell? ⟨g, 2, none⟩ = some (St []) := c 2
 have c3 : W.cell? ⟨g, 3, none⟩ = some (St []) := c 3
 have c4 : W.cell? ⟨g, 4, none⟩ = some (St []) := c 4
 clear h0 h1 c hg
 simp only [execOp, sb41]
 go_simp
end
def sbC : List Nat := [7, 15, 23, 31, 38]
set_option maxRecDepth 10000 in
theorem sbchain (l : Array Bool) (hc : ∀ (i : Nat) (o : Oper), sbs[i]? = some o → dn l i → ∀ e ∈ o.after, Region.binds .any e = true → dn l e.on) : sbC.Pairwise (fun j k => dn l k → dn l j) := by
 have k15 : dn l 15 → dn l 7 := fun hd15 => (hc 12 sb12 rfl (hc 15 sb15 rfl hd15 { on := 12, ground := Go.Ground.chain } (by simp [sb15]) (by decide)) { on := 7, ground := Go.Ground.chain } (by simp [sb12]) (by decide))
 have k23 : dn l 23 → dn l 15 := fun hd23 => (hc 20 sb20 rfl (hc 23 sb23 rfl hd23 { on := 20, ground := Go.Ground.chain } (by simp [sb23]) (by decide)) { on := 15, ground := Go.Ground.chain } (by simp [sb20]) (by decide))
 have k31 : dn l 31 → dn l 23 := fun hd31 => (hc 28 sb28 rfl (hc 31 sb31 rfl hd31 { on := 28, ground := Go.Ground.chain } (by simp [sb31]) (by decide)) { on := 23, ground := Go.Ground.chain } (by simp [sb28]) (by decide))
 have k38 : dn l 38 → dn l 31 := fun hd38 => (hc 35 sb35 rfl (hc 38 sb38 rfl hd38 { on := 35, ground := Go.Ground.chain } (by simp [sb38]) (by decide)) { on := 31, ground := Go.Ground.chain } (by simp [sb35]) (by decide))
 unfold sbC
 simp only [List.pairwise_cons, List.mem_cons, List.not_mem_nil, or_false, forall_eq_or_imp, forall_eq, List.Pairwise.nil, and_true, false_imp_iff, implies_true]
 exact ⟨⟨(fun h => k15 h), (fun h => k15 (k23 h)), (fun h => k15 (k23 (k31 h))), (fun h => k15 (k23 (k31 (k38 h))))⟩, ⟨(fun h => k23 h), (fun h => k23 (k31 h)), (fun h => k23 (k31 (k38 h)))⟩, ⟨(fun h => k31 h), (fun h => k31 (k38 h))⟩, (fun h => k38 h)⟩
section
variable {o0 o1 o2 o3 o4 q0 q1 q2 q3 q4 pt : Bs} {sb tb bx : Nat}
set_option maxRecDepth 10000 in
theorem sbpure {Q : Exit → Act → World → Prop} {a0 : Act} {w0 : World} {eb : Nat} (e3 : gt a0 3 = .pointer (some ⟨sb, 0, none⟩)) (e4 : gt a0 4 = .pointer (some ⟨tb, 0, none⟩)) (e9 : gt a0 9 = (.func (.func 55) #[] #[.pointer (some ⟨bx, 0, none⟩)])) (e2 : gt a0 2 = St pt) (b3 : w0.heap[sb]? = some (.cells #[St o0, St o1, St o2, St o3, St o4] 33 (0, 0))) (b4 : w0.heap[tb]? = some (.cells #[St q0, St q1, St q2, St q3, St q4] 33 (0, 0))) (i : Nat) (o : Oper) (a : Act) (w : World) (e0 : Nat) (h : sbs[i]? = some o) (hi : i < 41 ∧ i ≠ 40 ∧ i ∉ sbC) (ho : Off sbDs a0 a) (hk : Ke w0 bx eb e0 w)
   (hd : ∀ e ∈ o.after, Region.binds .any e = true → e.on ≠ 40 → gt a (sbD e.on) = sbV o3 o4 q1 q2 q4 pt sb tb bx e.on) : wpOp Tryz.prog sbs Q i (fun a' w' => a' = a.put (some (sbD i)) (sbV o3 o4 q1 q2 q4 pt sb tb bx i) ∧ Below w.heap.size w w') a w := by
 match i, h, hi with
 | 0, h, hi => (cases h; exact sbh0 e3 e4 e9 e2 b3 b4 ho hk hd)
 | 1, h, hi => (cases h; exact sbh1 e3 e4 e9 e2 b3 b4 ho hk hd)
 | 2, h, hi => (cases h; exact sbh2 e3 e4 e9 e2 b3 b4 ho hk hd)
 | 3, h, hi => (cases h; exact sbh3 e3 e4 e9 e2 b3 b4 ho hk hd)
 | 4, h, hi => (cases h; exact sbh4 e3 e4 e9 e2 b3 b4 ho hk hd)
 | 5, h, hi => (cases h; exact sbh5 e3 e4 e9 e2 b3 b4 ho hk hd)
 | 6, h, hi => (cases h; exact sbh6 e3 e4 e9 e2 b3 b4 ho hk hd)
 | 7, h, hi => exact absurd (show 7 ∈ sbC by decide) hi.2.2
 | 8, h, hi => (cases h; exact sbh8 e3 e4 e9 e2 b3 b4 ho hk hd)
 | 9, h, hi => (cases h; exact sbh9 e3 e4 e9 e2 b3 b4 ho hk hd)
 | 10, h, hi => (cases h; exact sbh10 e3 e4 e9 e2 b3 b4 ho hk hd)
 | 11, h, hi => (cases h; exact sbh11 e3 e4 e9 e2 b3 b4 ho hk hd)
 | 12, h, hi => (cases h; exact sbh12 e3 e4 e9 e2 b3 b4 ho hk hd)
 | 13, h, hi => (cases h; exact sbh13 e3 e4 e9 e2 b3 b4 ho hk hd)
 | 14, h, hi => (cases h; exact sbh14 e3 e4 e9 e2 b3 b4 ho hk hd)
 | 15, h, hi => exact absurd (show 15 ∈ sbC by decide) hi.2.2
 | 16, h, hi => (cases h; exact sbh16 e3 e4 e9 e2 b3 b4 ho hk hd)
 | 17, h, hi => (cases h; exact sbh17 e3 e4 e9 e2 b3 b4 ho hk hd)
 | 18, h, hi => (cases h; exact sbh18 e3 e4 e9 e2 b3 b4 ho hk hd)
 | 19, h, hi => (cases h; exact sbh19 e3 e4 e9 e2 b3 b4 ho hk hd)
 | 20, h, hi => (cases h; exact sbh20 e3 e4 e9 e2 b3 b4 ho hk hd)
 | 21, h, hi => (cases h; exact sbh21 e3 e4 e9 e2 b3 b4 ho hk hd)
 | 22, h, hi => (cases h; exact sbh22 e3 e4 e9 e2 b3 b4 ho hk hd)
 | 23, h, hi => exact absurd (show 23 ∈ sbC by decide) hi.2.2
 | 24, h, hi => (cases h; exact sbh24 e3 e4 e9 e2 b3 b4 ho hk hd)
 | 25, h, hi => (cases h; exact sbh25 e3 e4 e9 e2 b3 b4 ho hk hd)
 | 26, h, hi => (cases h; exact sbh26 e3 e4 e9 e2 b3 b4 ho hk hd)
 | 27, h, hi => (cases h; exact sbh27 e3 e4 e9 e2 b3 b4 ho hk hd)
 | 28, h, hi => (cases h; exact sbh28 e3 e4 e9 e2 b3 b4 ho hk hd)
 | 29, h, hi => (cases h; exact sbh29 e3 e4 e9 e2 b3 b4 ho hk hd)
 | 30, h, hi => (cases h; exact sbh30 e3 e4 e9 e2 b3 b4 ho hk hd)
 | 31, h, hi => exact absurd (show 31 ∈ sbC by decide) hi.2.2
 | 32, h, hi => (cases h; exact sbh32 e3 e4 e9 e2 b3 b4 ho hk hd)
 | 33, h, hi => (cases h; exact sbh33 e3 e4 e9 e2 b3 b4 ho hk hd)
 | 34, h, hi => (cases h; exact sbh34 e3 e4 e9 e2 b3 b4 ho hk hd)
 | 35, h, hi => (cases h; exact sbh35 e3 e4 e9 e2 b3 b4 ho hk hd)
 | 36, h, hi => (cases h; exact sbh36 e3 e4 e9 e2 b3 b4 ho hk hd)
 | 37, h, hi => (cases h; exact sbh37 e3 e4 e9 e2 b3 b4 ho hk hd)
 | 38, h, hi => exact absurd (show 38 ∈ sbC by decide) hi.2.2
 | 39, h, hi => (cases h; exact sbh39 e3 e4 e9 e2 b3 b4 ho hk hd)
 | 40, h, hi => exact absurd rfl hi.2.1
 | 41, h, hi => exact absurd hi.1 (by decide)
 | n + 42, h, hi => exact absurd hi.1 (by omega)
set_option maxRecDepth 10000 in
theorem sbclo {Q : Exit → Act → World → Prop} {a0 : Act} {w0 : World} {eb : Nat} (e3 : gt a0 3 = .pointer (some ⟨sb, 0, none⟩)) (e4 : gt a0 4 = .pointer (some ⟨tb, 0, none⟩)) (e9 : gt a0 9 = (.func (.func 55) #[] #[.pointer (some ⟨bx, 0, none⟩)])) (e2 : gt a0 2 = St pt) (b3 : w0.heap[sb]? = some (.cells #[St o0, St o1, St o2, St o3, St o4] 33 (0, 0))) (b4 : w0.heap[tb]? = some (.cells #[St q0, St q1, St q2, St q3, St q4] 33 (0, 0))) (i : Nat) (o : Oper) (a : Act) (w : World) (e0 : Nat) (h : sbs[i]? = some o) (hi : i ∈ sbC) (ho : Off sbDs a0 a) (hk : Ke w0 bx eb e0 w)
   (hd : ∀ e ∈ o.after, Region.binds .any e = true → e.on ≠ 40 → gt a (sbD e.on) = sbV o3 o4 q1 q2 q4 pt sb tb bx e.on) : wpOp Tryz.prog sbs Q i (fun a' w' => a' = a.put (some (sbD i)) (sbV o3 o4 q1 q2 q4 pt sb tb bx i) ∧ Ke w0 bx eb (firstN e0 (sbE o3 o4 q1 q2 q4 pt i)) w' ∧ Frx w.heap.size eb w w') a w := by
 have hi' : i = 7 ∨ i = 15 ∨ i = 23 ∨ i = 31 ∨ i = 38 := by simpa [sbC] using hi
 rcases hi' with rfl | rfl | rfl | rfl | rfl
 · cases h; exact sbh7 e3 e4 e9 e2 b3 b4 ho hk hd
 · cases h; exact sbh15 e3 e4 e9 e2 b3 b4 ho hk hd
 · cases h; exact sbh23 e3 e4 e9 e2 b3 b4 ho hk hd
 · cases h; exact sbh31 e3 e4 e9 e2 b3 b4 ho hk hd
 · cases h; exact sbh38 e3 e4 e9 e2 b3 b4 ho hk hd
theorem sbsto {Q : Exit → Act → World → Prop} {a0 : Act} (o : Oper) (a : Act) (w : World) (g : Nat) (h : sbs[41]? = some o) (_ho : Off sbDs a0 a) (hg : gt a (sbD 40) = .pointer (some ⟨g, 0, none⟩)) (hb : w.heap[g]? = some (.cells #[St [], St [], St [], St [], St []] 26 (0, 0)))
   (hd : ∀ e ∈ o.after, Region.binds .any e = true → e.on ≠ 40 → gt a (sbD e.on) = sbV o3 o4 q1 q2 q4 pt sb tb bx e.on) : wpOp Tryz.prog sbs Q 41 (fun a' w' => a' = a ∧ w'.heap[g]? = some (.cells #[St (jointRes q1 pt).1, St (boundRes o3 pt).1, St (boundRes o4 pt).1, St (boundRes q4 pt).1, St (pkRes q2).1] 26 (0, 0)) ∧ Frx w.heap.size g w w') a w := by
 cases h
 refine op_skip (i := 41) (o := sb41) rfl rfl (sbxz a w g hb hg (hd { on := 39, ground := Go.Ground.data } (show _ ∈ (sb41).after by simp [sb41]) (by decide) (by decide))) ⟨rfl, ?_, ?_⟩
 · exact heap_setCell_same (heap_setCell_same (heap_setCell_same (heap_setCell_same (heap_setCell_same (hb) 0 _) 1 _) 2 _) 3 _) 4 _
 · exact (((((Frx.refl _ _ _).setCell 0 _).setCell 1 _).setCell 2 _).setCell 3 _).setCell 4 _
end
section
variable {o0 o1 o2 o3 o4 q0 q1 q2 q3 q4 pt : Bs} {sb tb bx : Nat}
set_option maxRecDepth 10000 in
theorem sbreg {Q : Exit → Act → World → Prop} {a0 : Act} {w0 w1 : World} {eb : Nat} (e3 : gt a0 3 = .pointer (some ⟨sb, 0, none⟩)) (e4 : gt a0 4 = .pointer (some ⟨tb, 0, none⟩)) (e9 : gt a0 9 = (.func (.func 55) #[] #[.pointer (some ⟨bx, 0, none⟩)])) (e2 : gt a0 2 = St pt) (b3 : w0.heap[sb]? = some (.cells #[St o0, St o1, St o2, St o3, St o4] 33 (0, 0))) (b4 : w0.heap[tb]? = some (.cells #[St q0, St q1, St q2, St q3, St q4] 33 (0, 0))) (hz : 52 ≤ a0.tmps.size) (hk : Ke w0 bx eb 0 w1)
   (hd : ∀ (a : Act) (w : World) (g : Nat), Off sbDs a0 a → gt a (sbD 40) = .pointer (some ⟨g, 0, none⟩) → w0.heap.size ≤ g → g ≠ eb → g ≠ bx → Ke w0 bx eb (errsAll (sbE o3 o4 q1 q2 q4 pt) sbC 0) w → w.heap[g]? = some (.cells #[St (jointRes q1 pt).1, St (boundRes o3 pt).1, St (boundRes o4 pt).1, St (boundRes q4 pt).1, St (pkRes q2).1] 26 (0, 0)) → Q .normal a w) : (Code.region 3 sbs true).wp Tryz.prog Q a0 w1 :=
 region_made sbDs sbD (sbV o3 o4 q1 q2 q4 pt sb tb bx) 40 41 sbC (sbE o3 o4 q1 q2 q4 pt) #[St [], St [], St [], St [], St []] #[St (jointRes q1 pt).1, St (boundRes o3 pt).1, St (boundRes o4 pt).1, St (boundRes q4 pt).1, St (pkRes q2).1] 26 rfl rfl (by decide) sbs_back (fun i hi => ⟨sbD_mem hi, Nat.lt_of_lt_of_le (sbD_lt ⟨i, hi⟩) hz⟩) (fun i j hi hj h => sbD_inj ⟨i, hi⟩ ⟨j, hj⟩ (fun e => h (congrArg Fin.val e)))
   (by decide) (by decide) sbchain (fun o h => by cases h; exact ⟨{ on := 40, ground := Go.Ground.data }, (show _ ∈ (sb41).after by simp [sb41]), by decide, rfl⟩) hk
   (fun i o a w e0 h h1 h2 h3 ho hk hd => sbpure e3 e4 e9 e2 b3 b4 i o a w e0 h ⟨h1, h2, h3⟩ ho hk hd)
   (fun i o a w e0 h h1 ho hk hd => sbclo e3 e4 e9 e2 b3 b4 i o a w e0 h h1 ho hk hd)
   (fun a w => op_ok (i := 40) (o := sb40) rfl rfl (sbxa a w) ⟨rfl, rfl⟩)
   (fun o a w g h ho hg hb hd => sbsto o a w g h ho hg hb hd)
   (fun a w g ho _ hg h1 h2 h3 hk hb => hd a w g ho hg h1 h2 h3 hk hb)
end
end Go.Proofs.YtkifchjpgdmcoaaGreatDoor
