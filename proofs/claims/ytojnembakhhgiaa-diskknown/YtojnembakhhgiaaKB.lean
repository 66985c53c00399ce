/- The examples of the chapter, nil disks, and what bounds ask: the law. -/
import Derived.Test.YtojnembakhhgiaaKnAll
namespace Go.Proofs.Ytojnembakhhgiaa
open Go.RowKit

def kr0 : Oper := { dst := some 76, op := Go.Op.move (Go.Operand.tmp 2), type := 45, pos := "law.go:276", after := #[], guard := none }
def kr1 : Oper := { dst := some 77, op := Go.Op.move (Go.Operand.tmp 4), type := 3, pos := "law.go:276", after := #[], guard := none }
def kr2 : Oper := { dst := some 78, op := Go.Op.indexAddr 45 (Go.Operand.tmp 76) (Go.Operand.tmp 77), type := 0, pos := "law.go:276", after := #[{ on := 0, ground := Go.Ground.data }, { on := 1, ground := Go.Ground.data }], guard := none }
def kr3 : Oper := { dst := some 79, op := Go.Op.load 35 (Go.Operand.tmp 78), type := 35, pos := "law.go:276", after := #[{ on := 2, ground := Go.Ground.data }], guard := none }
def kr4 : Oper := { dst := some 80, op := Go.Op.move (Go.Operand.tmp 3), type := 45, pos := "law.go:276", after := #[], guard := none }
def kr5 : Oper := { dst := some 81, op := Go.Op.move (Go.Operand.tmp 4), type := 3, pos := "law.go:276", after := #[], guard := none }
def kr6 : Oper := { dst := some 82, op := Go.Op.indexAddr 45 (Go.Operand.tmp 80) (Go.Operand.tmp 81), type := 0, pos := "law.go:276", after := #[{ on := 4, ground := Go.Ground.data }, { on := 5, ground := Go.Ground.data }], guard := none }
def kr7 : Oper := { dst := some 83, op := Go.Op.load 35 (Go.Operand.tmp 82), type := 35, pos := "law.go:276", after := #[{ on := 6, ground := Go.Ground.data }], guard := none }
def kr8 : Oper := { dst := some 84, op := Go.Op.binOp Go.BinOp.neq 35 (Go.Operand.tmp 79) (Go.Operand.tmp 83) 35, type := 4, pos := "law.go:276", after := #[{ on := 3, ground := Go.Ground.data }, { on := 7, ground := Go.Ground.data }], guard := none }

def ks0 : Oper := { dst := some 135, op := Go.Op.move (Go.Operand.tmp 7), type := 45, pos := "law.go:292", after := #[], guard := none }
def ks1 : Oper := { dst := some 136, op := Go.Op.indexAddr 45 (Go.Operand.tmp 135) (Go.Operand.const (Go.Value.int Go.IntKind.i64 0)), type := 0, pos := "law.go:292", after := #[{ on := 0, ground := Go.Ground.data }], guard := none }
def ks2 : Oper := { dst := some 137, op := Go.Op.load 35 (Go.Operand.tmp 136), type := 35, pos := "law.go:292", after := #[{ on := 1, ground := Go.Ground.data }], guard := none }
def ks3 : Oper := { dst := some 138, op := Go.Op.binOp Go.BinOp.eql 35 (Go.Operand.tmp 137) (Go.Operand.const (Go.Value.int Go.IntKind.i64 0)) 35, type := 4, pos := "law.go:292", after := #[{ on := 2, ground := Go.Ground.data }], guard := none }
def ks4 : Oper := { dst := some 139, op := Go.Op.move (Go.Operand.tmp 138), type := 4, pos := "law.go:292", after := #[{ on := 3, ground := Go.Ground.data }], guard := none }
def ks5 : Oper := { dst := some 140, op := Go.Op.move (Go.Operand.tmp 7), type := 45, pos := "law.go:292", after := #[{ on := 4, ground := Go.Ground.guard }], guard := some (4, true) }
def ks6 : Oper := { dst := some 141, op := Go.Op.indexAddr 45 (Go.Operand.tmp 140) (Go.Operand.const (Go.Value.int Go.IntKind.i64 1)), type := 0, pos := "law.go:292", after := #[{ on := 5, ground := Go.Ground.data }, { on := 4, ground := Go.Ground.guard }], guard := some (4, true) }
def ks7 : Oper := { dst := some 142, op := Go.Op.load 35 (Go.Operand.tmp 141), type := 35, pos := "law.go:292", after := #[{ on := 6, ground := Go.Ground.data }, { on := 4, ground := Go.Ground.guard }], guard := some (4, true) }
def ks8 : Oper := { dst := some 143, op := Go.Op.binOp Go.BinOp.eql 35 (Go.Operand.tmp 142) (Go.Operand.const (Go.Value.int Go.IntKind.i64 0)) 35, type := 4, pos := "law.go:292", after := #[{ on := 7, ground := Go.Ground.data }, { on := 4, ground := Go.Ground.guard }], guard := some (4, true) }
def ks9 : Oper := { dst := some 144, op := Go.Op.pick (Go.Operand.tmp 139) (Go.Operand.tmp 143) (Go.Operand.const (Go.Value.bool false)), type := 4, pos := "law.go:292", after := #[{ on := 4, ground := Go.Ground.data }, { on := 8, ground := Go.Ground.data }], guard := none }
def ks10 : Oper := { dst := some 145, op := Go.Op.move (Go.Operand.tmp 144), type := 4, pos := "law.go:292", after := #[{ on := 9, ground := Go.Ground.data }, { on := 4, ground := Go.Ground.chain }], guard := none }
def ks11 : Oper := { dst := some 146, op := Go.Op.move (Go.Operand.tmp 7), type := 45, pos := "law.go:292", after := #[{ on := 10, ground := Go.Ground.guard }], guard := some (10, true) }
def ks12 : Oper := { dst := some 147, op := Go.Op.indexAddr 45 (Go.Operand.tmp 146) (Go.Operand.const (Go.Value.int Go.IntKind.i64 2)), type := 0, pos := "law.go:292", after := #[{ on := 11, ground := Go.Ground.data }, { on := 10, ground := Go.Ground.guard }], guard := some (10, true) }
def ks13 : Oper := { dst := some 148, op := Go.Op.load 35 (Go.Operand.tmp 147), type := 35, pos := "law.go:292", after := #[{ on := 12, ground := Go.Ground.data }, { on := 10, ground := Go.Ground.guard }], guard := some (10, true) }
def ks14 : Oper := { dst := some 149, op := Go.Op.binOp Go.BinOp.eql 35 (Go.Operand.tmp 148) (Go.Operand.const (Go.Value.int Go.IntKind.i64 0)) 35, type := 4, pos := "law.go:292", after := #[{ on := 13, ground := Go.Ground.data }, { on := 10, ground := Go.Ground.guard }], guard := some (10, true) }
def ks15 : Oper := { dst := some 150, op := Go.Op.pick (Go.Operand.tmp 145) (Go.Operand.tmp 149) (Go.Operand.const (Go.Value.bool false)), type := 4, pos := "law.go:292", after := #[{ on := 10, ground := Go.Ground.data }, { on := 14, ground := Go.Ground.data }], guard := none }
def ks16 : Oper := { dst := some 151, op := Go.Op.move (Go.Operand.tmp 150), type := 4, pos := "law.go:292", after := #[{ on := 15, ground := Go.Ground.data }, { on := 10, ground := Go.Ground.chain }], guard := none }
def ks17 : Oper := { dst := some 152, op := Go.Op.move (Go.Operand.tmp 8), type := 35, pos := "law.go:292", after := #[{ on := 16, ground := Go.Ground.guard }], guard := some (16, true) }
def ks18 : Oper := { dst := some 153, op := Go.Op.binOp Go.BinOp.eql 35 (Go.Operand.tmp 152) (Go.Operand.const (Go.Value.int Go.IntKind.i64 7)) 35, type := 4, pos := "law.go:292", after := #[{ on := 17, ground := Go.Ground.data }, { on := 16, ground := Go.Ground.guard }], guard := some (16, true) }
def ks19 : Oper := { dst := some 154, op := Go.Op.pick (Go.Operand.tmp 151) (Go.Operand.tmp 153) (Go.Operand.const (Go.Value.bool false)), type := 4, pos := "law.go:292", after := #[{ on := 16, ground := Go.Ground.data }, { on := 18, ground := Go.Ground.data }], guard := none }
def ks20 : Oper := { dst := some 155, op := Go.Op.move (Go.Operand.tmp 154), type := 4, pos := "law.go:292", after := #[{ on := 19, ground := Go.Ground.data }, { on := 16, ground := Go.Ground.chain }], guard := none }
def ks21 : Oper := { dst := some 156, op := Go.Op.move (Go.Operand.tmp 9), type := 4, pos := "law.go:292", after := #[{ on := 20, ground := Go.Ground.guard }], guard := some (20, true) }
def ks22 : Oper := { dst := some 157, op := Go.Op.pick (Go.Operand.tmp 155) (Go.Operand.tmp 156) (Go.Operand.const (Go.Value.bool false)), type := 4, pos := "law.go:292", after := #[{ on := 20, ground := Go.Ground.data }, { on := 21, ground := Go.Ground.data }], guard := none }
def ks23 : Oper := { dst := some 158, op := Go.Op.move (Go.Operand.tmp 157), type := 4, pos := "law.go:292", after := #[{ on := 22, ground := Go.Ground.data }, { on := 20, ground := Go.Ground.chain }], guard := none }
def ks24 : Oper := { dst := some 159, op := Go.Op.move (Go.Operand.tmp 11), type := 35, pos := "law.go:292", after := #[{ on := 23, ground := Go.Ground.guard }], guard := some (23, true) }
def ks25 : Oper := { dst := some 160, op := Go.Op.binOp Go.BinOp.eql 35 (Go.Operand.tmp 159) (Go.Operand.const (Go.Value.int Go.IntKind.i64 7)) 35, type := 4, pos := "law.go:292", after := #[{ on := 24, ground := Go.Ground.data }, { on := 23, ground := Go.Ground.guard }], guard := some (23, true) }
def ks26 : Oper := { dst := some 161, op := Go.Op.pick (Go.Operand.tmp 158) (Go.Operand.tmp 160) (Go.Operand.const (Go.Value.bool false)), type := 4, pos := "law.go:292", after := #[{ on := 23, ground := Go.Ground.data }, { on := 25, ground := Go.Ground.data }], guard := none }
def ks27 : Oper := { dst := some 162, op := Go.Op.move (Go.Operand.tmp 161), type := 4, pos := "law.go:292", after := #[{ on := 26, ground := Go.Ground.data }, { on := 23, ground := Go.Ground.chain }], guard := none }
def ks28 : Oper := { dst := some 163, op := Go.Op.move (Go.Operand.tmp 12), type := 4, pos := "law.go:292", after := #[{ on := 27, ground := Go.Ground.guard }], guard := some (27, true) }
def ks29 : Oper := { dst := some 164, op := Go.Op.pick (Go.Operand.tmp 162) (Go.Operand.tmp 163) (Go.Operand.const (Go.Value.bool false)), type := 4, pos := "law.go:292", after := #[{ on := 27, ground := Go.Ground.data }, { on := 28, ground := Go.Ground.data }], guard := none }
def ks30 : Oper := { dst := some 165, op := Go.Op.move (Go.Operand.tmp 164), type := 4, pos := "law.go:292", after := #[{ on := 29, ground := Go.Ground.data }, { on := 27, ground := Go.Ground.chain }], guard := none }
def ks31 : Oper := { dst := some 166, op := Go.Op.move (Go.Operand.tmp 13), type := 3, pos := "law.go:292", after := #[{ on := 30, ground := Go.Ground.guard }], guard := some (30, true) }
def ks32 : Oper := { dst := some 167, op := Go.Op.binOp Go.BinOp.eql 3 (Go.Operand.tmp 166) (Go.Operand.const (Go.Value.int Go.IntKind.i64 2)) 3, type := 4, pos := "law.go:292", after := #[{ on := 31, ground := Go.Ground.data }, { on := 30, ground := Go.Ground.guard }], guard := some (30, true) }
def ks33 : Oper := { dst := some 168, op := Go.Op.pick (Go.Operand.tmp 165) (Go.Operand.tmp 167) (Go.Operand.const (Go.Value.bool false)), type := 4, pos := "law.go:292", after := #[{ on := 30, ground := Go.Ground.data }, { on := 32, ground := Go.Ground.data }], guard := none }
def ks34 : Oper := { dst := some 169, op := Go.Op.move (Go.Operand.tmp 168), type := 4, pos := "law.go:292", after := #[{ on := 33, ground := Go.Ground.data }, { on := 30, ground := Go.Ground.chain }], guard := none }
def ks35 : Oper := { dst := some 170, op := Go.Op.move (Go.Operand.tmp 14), type := 35, pos := "law.go:292", after := #[{ on := 34, ground := Go.Ground.guard }], guard := some (34, true) }
def ks36 : Oper := { dst := some 171, op := Go.Op.binOp Go.BinOp.eql 35 (Go.Operand.tmp 170) (Go.Operand.const (Go.Value.int Go.IntKind.i64 0)) 35, type := 4, pos := "law.go:292", after := #[{ on := 35, ground := Go.Ground.data }, { on := 34, ground := Go.Ground.guard }], guard := some (34, true) }
def ks37 : Oper := { dst := some 172, op := Go.Op.pick (Go.Operand.tmp 169) (Go.Operand.tmp 171) (Go.Operand.const (Go.Value.bool false)), type := 4, pos := "law.go:292", after := #[{ on := 34, ground := Go.Ground.data }, { on := 36, ground := Go.Ground.data }], guard := none }
def ks38 : Oper := { dst := some 173, op := Go.Op.move (Go.Operand.tmp 172), type := 4, pos := "law.go:292", after := #[{ on := 37, ground := Go.Ground.data }, { on := 34, ground := Go.Ground.chain }], guard := none }
def ks39 : Oper := { dst := some 174, op := Go.Op.move (Go.Operand.tmp 16), type := 35, pos := "law.go:292", after := #[{ on := 38, ground := Go.Ground.guard }], guard := some (38, true) }
def ks40 : Oper := { dst := some 175, op := Go.Op.binOp Go.BinOp.eql 35 (Go.Operand.tmp 174) (Go.Operand.const (Go.Value.int Go.IntKind.i64 0)) 35, type := 4, pos := "law.go:292", after := #[{ on := 39, ground := Go.Ground.data }, { on := 38, ground := Go.Ground.guard }], guard := some (38, true) }
def ks41 : Oper := { dst := some 176, op := Go.Op.pick (Go.Operand.tmp 173) (Go.Operand.tmp 175) (Go.Operand.const (Go.Value.bool false)), type := 4, pos := "law.go:292", after := #[{ on := 38, ground := Go.Ground.data }, { on := 40, ground := Go.Ground.data }], guard := none }
def ks42 : Oper := { dst := some 177, op := Go.Op.move (Go.Operand.tmp 176), type := 4, pos := "law.go:292", after := #[{ on := 41, ground := Go.Ground.data }, { on := 38, ground := Go.Ground.chain }], guard := none }
def ks43 : Oper := { dst := some 178, op := Go.Op.move (Go.Operand.tmp 15), type := 23, pos := "law.go:292", after := #[{ on := 42, ground := Go.Ground.guard }], guard := some (42, true) }
def ks44 : Oper := { dst := some 179, op := Go.Op.convert 23 9 (Go.Operand.tmp 178), type := 9, pos := "law.go:292", after := #[{ on := 43, ground := Go.Ground.data }, { on := 42, ground := Go.Ground.guard }], guard := some (42, true) }
def ks45 : Oper := { dst := some 180, op := Go.Op.call { callee := Go.Callee.value (Go.Operand.func 17), args := #[Go.Operand.const (Go.Value.int Go.IntKind.i64 256), Go.Operand.const (Go.Value.int Go.IntKind.u8 0)], argTypes := #[3, 5] }, type := 23, pos := "law.go:292", after := #[{ on := 42, ground := Go.Ground.chain }, { on := 42, ground := Go.Ground.guard }], guard := some (42, true) }
def ks46 : Oper := { dst := some 181, op := Go.Op.convert 23 9 (Go.Operand.tmp 180), type := 9, pos := "law.go:292", after := #[{ on := 45, ground := Go.Ground.data }, { on := 42, ground := Go.Ground.guard }], guard := some (42, true) }
def ks47 : Oper := { dst := some 182, op := Go.Op.binOp Go.BinOp.eql 9 (Go.Operand.tmp 179) (Go.Operand.tmp 181) 9, type := 4, pos := "law.go:292", after := #[{ on := 44, ground := Go.Ground.data }, { on := 46, ground := Go.Ground.data }, { on := 42, ground := Go.Ground.guard }], guard := some (42, true) }
def ks48 : Oper := { dst := some 183, op := Go.Op.pick (Go.Operand.tmp 177) (Go.Operand.tmp 182) (Go.Operand.const (Go.Value.bool false)), type := 4, pos := "law.go:292", after := #[{ on := 42, ground := Go.Ground.data }, { on := 47, ground := Go.Ground.data }], guard := none }
def ks49 : Oper := { dst := some 184, op := Go.Op.move (Go.Operand.tmp 183), type := 4, pos := "law.go:292", after := #[{ on := 48, ground := Go.Ground.data }, { on := 45, ground := Go.Ground.chain }], guard := none }
def ks50 : Oper := { dst := some 185, op := Go.Op.move (Go.Operand.tmp 18), type := 35, pos := "law.go:292", after := #[{ on := 49, ground := Go.Ground.guard }], guard := some (49, true) }
def ks51 : Oper := { dst := some 186, op := Go.Op.binOp Go.BinOp.eql 35 (Go.Operand.tmp 185) (Go.Operand.const (Go.Value.int Go.IntKind.i64 0)) 35, type := 4, pos := "law.go:292", after := #[{ on := 50, ground := Go.Ground.data }, { on := 49, ground := Go.Ground.guard }], guard := some (49, true) }
def ks52 : Oper := { dst := some 187, op := Go.Op.pick (Go.Operand.tmp 184) (Go.Operand.tmp 186) (Go.Operand.const (Go.Value.bool false)), type := 4, pos := "law.go:292", after := #[{ on := 49, ground := Go.Ground.data }, { on := 51, ground := Go.Ground.data }], guard := none }
def ks53 : Oper := { dst := some 188, op := Go.Op.move (Go.Operand.tmp 187), type := 4, pos := "law.go:292", after := #[{ on := 52, ground := Go.Ground.data }, { on := 49, ground := Go.Ground.chain }], guard := none }
def ks54 : Oper := { dst := some 189, op := Go.Op.move (Go.Operand.tmp 17), type := 23, pos := "law.go:292", after := #[{ on := 53, ground := Go.Ground.guard }], guard := some (53, true) }
def ks55 : Oper := { dst := some 190, op := Go.Op.convert 23 9 (Go.Operand.tmp 189), type := 9, pos := "law.go:292", after := #[{ on := 54, ground := Go.Ground.data }, { on := 53, ground := Go.Ground.guard }], guard := some (53, true) }
def ks56 : Oper := { dst := some 191, op := Go.Op.call { callee := Go.Callee.value (Go.Operand.func 17), args := #[Go.Operand.const (Go.Value.int Go.IntKind.i64 256), Go.Operand.const (Go.Value.int Go.IntKind.u8 2)], argTypes := #[3, 5] }, type := 23, pos := "law.go:292", after := #[{ on := 53, ground := Go.Ground.chain }, { on := 53, ground := Go.Ground.guard }], guard := some (53, true) }
def ks57 : Oper := { dst := some 192, op := Go.Op.convert 23 9 (Go.Operand.tmp 191), type := 9, pos := "law.go:292", after := #[{ on := 56, ground := Go.Ground.data }, { on := 53, ground := Go.Ground.guard }], guard := some (53, true) }
def ks58 : Oper := { dst := some 193, op := Go.Op.binOp Go.BinOp.eql 9 (Go.Operand.tmp 190) (Go.Operand.tmp 192) 9, type := 4, pos := "law.go:292", after := #[{ on := 55, ground := Go.Ground.data }, { on := 57, ground := Go.Ground.data }, { on := 53, ground := Go.Ground.guard }], guard := some (53, true) }
def ks59 : Oper := { dst := some 194, op := Go.Op.pick (Go.Operand.tmp 188) (Go.Operand.tmp 193) (Go.Operand.const (Go.Value.bool false)), type := 4, pos := "law.go:292", after := #[{ on := 53, ground := Go.Ground.data }, { on := 58, ground := Go.Ground.data }], guard := none }
def ks60 : Oper := { dst := some 19, op := Go.Op.assign (Go.Operand.tmp 194), type := 4, pos := "law.go:292", after := #[{ on := 59, ground := Go.Ground.data }, { on := 56, ground := Go.Ground.chain }, { on := 0, ground := Go.Ground.phase }, { on := 1, ground := Go.Ground.phase }, { on := 2, ground := Go.Ground.phase }, { on := 3, ground := Go.Ground.phase }, { on := 4, ground := Go.Ground.phase }, { on := 5, ground := Go.Ground.phase }, { on := 6, ground := Go.Ground.phase }, { on := 7, ground := Go.Ground.phase }, { on := 8, ground := Go.Ground.phase }, { on := 9, ground := Go.Ground.phase }, { on := 10, ground := Go.Ground.phase }, { on := 11, ground := Go.Ground.phase }, { on := 12, ground := Go.Ground.phase }, { on := 13, ground := Go.Ground.phase }, { on := 14, ground := Go.Ground.phase }, { on := 15, ground := Go.Ground.phase }, { on := 16, ground := Go.Ground.phase }, { on := 17, ground := Go.Ground.phase }, { on := 18, ground := Go.Ground.phase }, { on := 19, ground := Go.Ground.phase }, { on := 20, ground := Go.Ground.phase }, { on := 21, ground := Go.Ground.phase }, { on := 22, ground := Go.Ground.phase }, { on := 23, ground := Go.Ground.phase }, { on := 24, ground := Go.Ground.phase }, { on := 25, ground := Go.Ground.phase }, { on := 26, ground := Go.Ground.phase }, { on := 27, ground := Go.Ground.phase }, { on := 28, ground := Go.Ground.phase }, { on := 29, ground := Go.Ground.phase }, { on := 30, ground := Go.Ground.phase }, { on := 31, ground := Go.Ground.phase }, { on := 32, ground := Go.Ground.phase }, { on := 33, ground := Go.Ground.phase }, { on := 34, ground := Go.Ground.phase }, { on := 35, ground := Go.Ground.phase }, { on := 36, ground := Go.Ground.phase }, { on := 37, ground := Go.Ground.phase }, { on := 38, ground := Go.Ground.phase }, { on := 39, ground := Go.Ground.phase }, { on := 40, ground := Go.Ground.phase }, { on := 41, ground := Go.Ground.phase }, { on := 42, ground := Go.Ground.phase }, { on := 43, ground := Go.Ground.phase }, { on := 44, ground := Go.Ground.phase }, { on := 45, ground := Go.Ground.phase }, { on := 46, ground := Go.Ground.phase }, { on := 47, ground := Go.Ground.phase }, { on := 48, ground := Go.Ground.phase }, { on := 49, ground := Go.Ground.phase }, { on := 50, ground := Go.Ground.phase }, { on := 51, ground := Go.Ground.phase }, { on := 52, ground := Go.Ground.phase }, { on := 53, ground := Go.Ground.phase }, { on := 54, ground := Go.Ground.phase }, { on := 55, ground := Go.Ground.phase }, { on := 56, ground := Go.Ground.phase }, { on := 57, ground := Go.Ground.phase }, { on := 58, ground := Go.Ground.phase }, { on := 59, ground := Go.Ground.phase }], guard := none }

theorem g_text {ops : Array Oper} {S : World → Prop} {op : Oper} {a : Act} {bv : Value} {b : Bs} (hg : Region.wanted op (yielded ops a.tmps) = true) (x : Operand) (ho : op.op = .convert 23 9 x) (hx : a.eval x = bv) (hr : ∀ w, S w → Br w bv b) : YieldsIf Try.prog ops S op (St b) a :=
  .inl ⟨hg, fun w hw => by
    unfold execOp
    simp only [ho, hx, Sem.run_bind, Sem.run_pure, text_br (hr w hw), Result.andThen_ok]⟩
theorem g_ok {P : Program} {ops : Array Oper} {Q : Exit → Act → World → Prop} {i : Nat} {o : Oper} {a : Act} {w w' : World} {v : Value} {K : Act → World → Prop} (ho : ops[i]? = some o) (hg : Region.wanted o (yielded ops a.tmps) = true) (hr : (execOp a.eval o).run P w = .ok (.value v) w') (hK : K (a.put o.dst v) w') : wpOp P ops Q i K a w := by
  unfold wpOp
  simp only [ho]
  rw [if_pos hg]
  refine .inl ?_
  unfold Oper.wp
  rw [hr]
  exact hK
theorem g_conv {op : Oper} {a : Act} {w : World} (x : Operand) (hop : op.op = .convert 23 9 x) (v u : Value) (hx : a.eval x = v) (hr : (convert 23 9 v).run Try.prog w = .ok u w) : (execOp a.eval op).run Try.prog w = .ok (.value u) w := by
  unfold execOp
  simp only [hop, hx, Sem.run_bind, Sem.run_pure, hr, Result.andThen_ok]
theorem load35 {w : World} {b o : Nat} {v : Value} (h : w.cell? ⟨b, o, none⟩ = some v) : (Instr.loadAt 35 (.pointer (some ⟨b, o, none⟩))).run Try.prog w = .ok v w := by go_simp
def kdE : List Int := [0, 90, 2, 0, 92, 0, 93, 2, 91, 91, 91, 91, 2, 2]
set_option maxRecDepth 100000 in
set_option maxHeartbeats 16000000 in
theorem known_any (w : World) : Calls Try.prog 4 #[] w fun e w' => e = .returned (.bool true) ∧ Below w.heap.size w w' := by
  obtain ⟨qd0, qd1, qd2, qd3, qd4, qd5, qd6, qd7, qd8, qd9, qd10, qd11, qd12, qd13, qu, qs⟩ := kd_is
  obtain ⟨sd0, sd1, sd2, sd3, sd4, sd5, sd6, sd7, sd8, sd9, sd10, sd11, sd12, sd13⟩ := kd_small
  have HWK : Hid (∀ W, Calls Try.prog 5 #[] W fun e w' => e = .returned (.bool true) ∧ Below W.heap.size W w') := hid (fun W => works_any W)
  obtain ⟨K, hK⟩ : ∃ K : Nat → Prop, K = fun g => g < w.heap.size := ⟨_, rfl⟩
  have HN2 : Hid (Calls Try.prog 6 #[.int .i64 2] w fun e w' => e = .returned (.pointer (some ⟨w.heap.size, 0, none⟩)) ∧ Dp K w' w.heap.size kd0 ∧ Kw K w w') := hid (by
    refine (dp_new w 2).mono ?_
    rintro e w' ⟨he, h1, h2⟩
    rw [hK]
    exact ⟨he, h1, below_kw h2 (fun g hg => hg)⟩)
  have HNW : Hid (∀ W q, Kw K w W → Calls Try.prog 6 #[.int .i64 q] W fun e w' => e = .returned (.pointer (some ⟨W.heap.size, 0, none⟩)) ∧ Dp K w' W.heap.size (newD q) ∧ Kw K W w' ∧ Below W.heap.size W w') := hid (fun W q hW => by
    refine (dp_new W q).mono ?_
    rintro e w' ⟨he, h1, h2⟩
    have hKW : ∀ g, K g → g < W.heap.size := fun g hg => by rw [hK] at hg; exact Nat.lt_of_lt_of_le hg hW.size
    exact ⟨he, h1.less hKW, below_kw h2 hKW, h2⟩)
  have HKB : Hid (∀ W, Kw K w W → Below w.heap.size w W) := hid (fun W hW => by rw [hK] at hW; exact kw_below hW)
  have HKL : Hid (∀ g, K g → g < w.heap.size) := hid (fun g hg => by rw [hK] at hg; exact hg)
  obtain ⟨d, hd⟩ : ∃ d, d = w.heap.size := ⟨_, rfl⟩
  rw [← hd] at HN2
  have HTX : Hid (∀ (W : World) (g : Nat), W.heap[g]? = some (.cells (bcs (List.replicate 101 (97 : UInt8))).toArray 5 (0, 0)) → (convert 23 9 (.slice (some ⟨g, 0, none⟩) 101 101)).run Try.prog W = .ok (St (List.replicate 101 (97 : UInt8))) W) := hid (fun W g h => by
    have := text_br (brOf h)
    rw [List.length_replicate] at this
    exact this)
  have HY256x1 : Hid (∀ W : World, Calls Try.prog 17 #[.int .i64 256, .int .u8 1] W fun e w' => e = .returned (.slice (some ⟨W.heap.size, 0, none⟩) 256 256) ∧ w'.heap[W.heap.size]? = some (.cells (bcs (List.replicate 256 (1 : UInt8))).toArray 5 (0, 0)) ∧ Below W.heap.size W w') := hid (fun W => bytes_any W 256 (by omega) 1)
  have HY256x2 : Hid (∀ W : World, Calls Try.prog 17 #[.int .i64 256, .int .u8 2] W fun e w' => e = .returned (.slice (some ⟨W.heap.size, 0, none⟩) 256 256) ∧ w'.heap[W.heap.size]? = some (.cells (bcs (List.replicate 256 (2 : UInt8))).toArray 5 (0, 0)) ∧ Below W.heap.size W w') := hid (fun W => bytes_any W 256 (by omega) 2)
  have HY257x1 : Hid (∀ W : World, Calls Try.prog 17 #[.int .i64 257, .int .u8 1] W fun e w' => e = .returned (.slice (some ⟨W.heap.size, 0, none⟩) 257 257) ∧ w'.heap[W.heap.size]? = some (.cells (bcs (List.replicate 257 (1 : UInt8))).toArray 5 (0, 0)) ∧ Below W.heap.size W w') := hid (fun W => bytes_any W 257 (by omega) 1)
  have HY101x97 : Hid (∀ W : World, Calls Try.prog 17 #[.int .i64 101, .int .u8 97] W fun e w' => e = .returned (.slice (some ⟨W.heap.size, 0, none⟩) 101 101) ∧ w'.heap[W.heap.size]? = some (.cells (bcs (List.replicate 101 (97 : UInt8))).toArray 5 (0, 0)) ∧ Below W.heap.size W w') := hid (fun W => bytes_any W 101 (by omega) 97)
  have HY256x0 : Hid (∀ W : World, Calls Try.prog 17 #[.int .i64 256, .int .u8 0] W fun e w' => e = .returned (.slice (some ⟨W.heap.size, 0, none⟩) 256 256) ∧ w'.heap[W.heap.size]? = some (.cells (bcs (List.replicate 256 (0 : UInt8))).toArray 5 (0, 0)) ∧ Below W.heap.size W w') := hid (fun W => bytes_any W 256 (by omega) 0)
  have Hd0 : Hid (∀ W, Dp K W d kd0 → Calls Try.prog 11 #[.pointer (some ⟨d, 0, none⟩), St [102]] W fun e w' => e = .returned (.int .i64 0) ∧ Dp K w' d kd1 ∧ Kw K W w') := hid (fun W h => by
    have := dp_create h [102] (by decide) sd0
    rw [qd0] at this
    exact this)
  have Hd1 : Hid (∀ W, Dp K W d kd1 → Calls Try.prog 11 #[.pointer (some ⟨d, 0, none⟩), St [102]] W fun e w' => e = .returned (.int .i64 90) ∧ Dp K w' d kd2 ∧ Kw K W w') := hid (fun W h => by
    have := dp_create h [102] (by decide) sd1
    rw [qd1] at this
    exact this)
  have Hd2 : Hid (∀ W, Dp K W d kd2 → Calls Try.prog 11 #[.pointer (some ⟨d, 0, none⟩), St []] W fun e w' => e = .returned (.int .i64 2) ∧ Dp K w' d kd3 ∧ Kw K W w') := hid (fun W h => by
    have := dp_create h [] (by decide) sd2
    rw [qd2] at this
    exact this)
  have Hd3 : Hid (∀ W w1, Dp K W d kd3 → Below W.heap.size W w1 → w1.heap[W.heap.size]? = some (.cells (bcs (List.replicate 256 (1 : UInt8))).toArray 5 (0, 0)) → Calls Try.prog 12 #[.pointer (some ⟨d, 0, none⟩), St [102], .int .i64 0, .slice (some ⟨W.heap.size, 0, none⟩) 256 256] w1 fun e w' => e = .returned (.int .i64 0) ∧ Dp K w' d kd4 ∧ Kw K W w') := hid (fun W w1 h hB hb => by
    have := kb_write h sd3 [102] (by decide) 0 (by omega) 256 (by omega) 1 hB hb
    rw [qd3] at this
    exact this)
  have Hd4 : Hid (∀ W w1, Dp K W d kd4 → Below W.heap.size W w1 → w1.heap[W.heap.size]? = some (.cells (bcs (List.replicate 256 (1 : UInt8))).toArray 5 (0, 0)) → Calls Try.prog 12 #[.pointer (some ⟨d, 0, none⟩), St [102], .int .i64 2, .slice (some ⟨W.heap.size, 0, none⟩) 256 256] w1 fun e w' => e = .returned (.int .i64 92) ∧ Dp K w' d kd5 ∧ Kw K W w') := hid (fun W w1 h hB hb => by
    have := kb_write h sd4 [102] (by decide) 2 (by omega) 256 (by omega) 1 hB hb
    rw [qd4] at this
    exact this)
  have Hd5 : Hid (∀ W w1, Dp K W d kd5 → Below W.heap.size W w1 → w1.heap[W.heap.size]? = some (.cells (bcs (List.replicate 256 (2 : UInt8))).toArray 5 (0, 0)) → Calls Try.prog 12 #[.pointer (some ⟨d, 0, none⟩), St [102], .int .i64 1, .slice (some ⟨W.heap.size, 0, none⟩) 256 256] w1 fun e w' => e = .returned (.int .i64 0) ∧ Dp K w' d kd6 ∧ Kw K W w') := hid (fun W w1 h hB hb => by
    have := kb_write h sd5 [102] (by decide) 1 (by omega) 256 (by omega) 2 hB hb
    rw [qd5] at this
    exact this)
  have Hd6 : Hid (∀ W w1, Dp K W d kd6 → Below W.heap.size W w1 → w1.heap[W.heap.size]? = some (.cells (bcs (List.replicate 256 (1 : UInt8))).toArray 5 (0, 0)) → Calls Try.prog 12 #[.pointer (some ⟨d, 0, none⟩), St [102], .int .i64 2, .slice (some ⟨W.heap.size, 0, none⟩) 256 256] w1 fun e w' => e = .returned (.int .i64 93) ∧ Dp K w' d kd7 ∧ Kw K W w') := hid (fun W w1 h hB hb => by
    have := kb_write h sd6 [102] (by decide) 2 (by omega) 256 (by omega) 1 hB hb
    rw [qd6] at this
    exact this)
  have Hd7 : Hid (∀ W w1, Dp K W d kd7 → Below W.heap.size W w1 → w1.heap[W.heap.size]? = some (.cells (bcs (List.replicate 257 (1 : UInt8))).toArray 5 (0, 0)) → Calls Try.prog 12 #[.pointer (some ⟨d, 0, none⟩), St [102], .int .i64 0, .slice (some ⟨W.heap.size, 0, none⟩) 257 257] w1 fun e w' => e = .returned (.int .i64 2) ∧ Dp K w' d kd8 ∧ Kw K W w') := hid (fun W w1 h hB hb => by
    have := kb_write h sd7 [102] (by decide) 0 (by omega) 257 (by omega) 1 hB hb
    rw [qd7] at this
    exact this)
  have Hd8 : Hid (∀ W, Dp K W d kd8 → Calls Try.prog 12 #[.pointer (some ⟨d, 0, none⟩), St [103], .int .i64 0, .slice none 0 0] W fun e w' => e = .returned (.int .i64 91) ∧ Dp K w' d kd9 ∧ Kw K W w') := hid (fun W h => by
    have := dp_write h [103] (by decide) sd8 0 (by omega) (.slice none 0 0) [] (Bo.nil W) (fun g hg => by cases hg) (by decide)
    rw [qd8] at this
    exact this)
  have Hd9 : Hid (∀ W, Dp K W d kd9 → Calls Try.prog 14 #[.pointer (some ⟨d, 0, none⟩), St [103]] W fun e w' => e = .returned (.int .i64 91) ∧ Dp K w' d kd10 ∧ Kw K W w') := hid (fun W h => by
    have := dp_sync h [103] (by decide) sd9
    rw [qd9] at this
    exact this)
  have Hd10 : Hid (∀ W, Dp K W d kd10 → Calls Try.prog 18 #[.pointer (some ⟨d, 0, none⟩), St [103]] W fun e w' => e = .returned (.int .i64 91) ∧ Dp K w' d kd11 ∧ Kw K W w') := hid (fun W h => by
    have := dp_remove h [103] (by decide) sd10
    rw [qd10] at this
    exact this)
  have Hd11 : Hid (∀ W, Dp K W d kd11 → Calls Try.prog 19 #[.pointer (some ⟨d, 0, none⟩), St [103], St [104]] W fun e w' => e = .returned (.int .i64 91) ∧ Dp K w' d kd12 ∧ Kw K W w') := hid (fun W h => by
    have := dp_rename h [103] (by decide) sd11 [104]
    rw [qd11] at this
    exact this)
  have Hd12 : Hid (∀ W, Dp K W d kd12 → Calls Try.prog 19 #[.pointer (some ⟨d, 0, none⟩), St [102], St []] W fun e w' => e = .returned (.int .i64 2) ∧ Dp K w' d kd13 ∧ Kw K W w') := hid (fun W h => by
    have := dp_rename h [102] (by decide) sd12 []
    rw [qd12] at this
    exact this)
  have Hd13 : Hid (∀ W, Dp K W d kd13 → Calls Try.prog 11 #[.pointer (some ⟨d, 0, none⟩), St (List.replicate 101 (97 : UInt8))] W fun e w' => e = .returned (.int .i64 2) ∧ Dp K w' d kd14 ∧ Kw K W w') := hid (fun W h => by
    have := dp_create h (List.replicate 101 (97 : UInt8)) (by decide) sd13
    rw [qd13] at this
    exact this)
  have HUS : Hid (∀ W, Dp K W d kd14 → Calls Try.prog 20 #[.pointer (some ⟨d, 0, none⟩)] W fun e w' => e = .returned (.int .i64 2) ∧ Dp K w' d kd14 ∧ Kw K W w') := hid (fun W h => by
    have := dp_used h
    rw [qu] at this
    refine this.mono ?_
    rintro e w' ⟨he, hB⟩
    exact ⟨he, h.low hB, below_kw hB (fun g hg => h.lt hg)⟩)
  have HSP : Hid (∀ W, Dp K W d kd14 → Calls Try.prog 21 #[.pointer (some ⟨d, 0, none⟩)] W fun e w' => e = .returned (.int .i64 3) ∧ w' = W) := hid (fun W h => by
    have := dp_steps h
    rw [qs] at this
    exact this)
  have HLOW : Hid (∀ W w', Dp K W d kd14 → Below W.heap.size W w' → Dp K w' d kd14 ∧ Kw K W w') := hid (fun W w' h hB => ⟨h.low hB, below_kw hB (fun g hg => h.lt hg)⟩)
  generalize kd0 = z0 at *
  generalize kd1 = z1 at *
  generalize kd2 = z2 at *
  generalize kd3 = z3 at *
  generalize kd4 = z4 at *
  generalize kd5 = z5 at *
  generalize kd6 = z6 at *
  generalize kd7 = z7 at *
  generalize kd8 = z8 at *
  generalize kd9 = z9 at *
  generalize kd10 = z10 at *
  generalize kd11 = z11 at *
  generalize kd12 = z12 at *
  generalize kd13 = z13 at *
  generalize kd14 = z14 at *
  clear hK hd qd0 qd1 qd2 qd3 qd4 qd5 qd6 qd7 qd8 qd9 qd10 qd11 qd12 qd13 qu qs sd0 sd1 sd2 sd3 sd4 sd5 sd6 sd7 sd8 sd9 sd10 sd11 sd12 sd13
  go_enter Try.func4, Try.ntmps4
  go_wp2_with fail
  refine HN2.out.mono ?_
  rintro e w1 ⟨rfl, h1, k1⟩
  have K1 := hid k1
  clear k1
  have C1 := hid (Hd0.out w1 h1)
  clear h1
  go_wp2_with fail
  refine C1.out.mono ?_
  rintro e w2 ⟨rfl, h2, k2⟩
  have K2 := hid (K1.out.trans k2)
  clear k2 C1
  have C2 := hid (Hd1.out w2 h2)
  clear h2
  go_wp2_with fail
  refine C2.out.mono ?_
  rintro e w3 ⟨rfl, h3, k3⟩
  have K3 := hid (K2.out.trans k3)
  clear k3 C2
  have C3 := hid (Hd2.out w3 h3)
  clear h3
  go_wp2_with fail
  refine C3.out.mono ?_
  rintro e w4 ⟨rfl, h4, k4⟩
  have K4 := hid (K3.out.trans k4)
  clear k4 C3
  go_wp2_with fail
  refine (HY256x1.out w4).mono ?_
  rintro e x4 ⟨rfl, hb, hB⟩
  have C4 := hid (Hd3.out w4 x4 h4 hB hb)
  clear hb hB h4
  go_wp2_with fail
  refine C4.out.mono ?_
  rintro e w5 ⟨rfl, h5, k5⟩
  have K5 := hid (K4.out.trans k5)
  clear k5 C4
  go_wp2_with fail
  refine (HY256x1.out w5).mono ?_
  rintro e x5 ⟨rfl, hb, hB⟩
  have C5 := hid (Hd4.out w5 x5 h5 hB hb)
  clear hb hB h5
  go_wp2_with fail
  refine C5.out.mono ?_
  rintro e w6 ⟨rfl, h6, k6⟩
  have K6 := hid (K5.out.trans k6)
  clear k6 C5
  go_wp2_with fail
  refine (HY256x2.out w6).mono ?_
  rintro e x6 ⟨rfl, hb, hB⟩
  have C6 := hid (Hd5.out w6 x6 h6 hB hb)
  clear hb hB h6
  go_wp2_with fail
  refine C6.out.mono ?_
  rintro e w7 ⟨rfl, h7, k7⟩
  have K7 := hid (K6.out.trans k7)
  clear k7 C6
  go_wp2_with fail
  refine (HY256x1.out w7).mono ?_
  rintro e x7 ⟨rfl, hb, hB⟩
  have C7 := hid (Hd6.out w7 x7 h7 hB hb)
  clear hb hB h7
  go_wp2_with fail
  refine C7.out.mono ?_
  rintro e w8 ⟨rfl, h8, k8⟩
  have K8 := hid (K7.out.trans k8)
  clear k8 C7
  go_wp2_with fail
  refine (HY257x1.out w8).mono ?_
  rintro e x8 ⟨rfl, hb, hB⟩
  have C8 := hid (Hd7.out w8 x8 h8 hB hb)
  clear hb hB h8
  go_wp2_with fail
  refine C8.out.mono ?_
  rintro e w9 ⟨rfl, h9, k9⟩
  have K9 := hid (K8.out.trans k9)
  clear k9 C8
  have C9 := hid (Hd8.out w9 h9)
  clear h9
  go_wp2_with fail
  refine C9.out.mono ?_
  rintro e w10 ⟨rfl, h10, k10⟩
  have K10 := hid (K9.out.trans k10)
  clear k10 C9
  have C10 := hid (Hd9.out w10 h10)
  clear h10
  go_wp2_with fail
  refine C10.out.mono ?_
  rintro e w11 ⟨rfl, h11, k11⟩
  have K11 := hid (K10.out.trans k11)
  clear k11 C10
  have C11 := hid (Hd10.out w11 h11)
  clear h11
  go_wp2_with fail
  refine C11.out.mono ?_
  rintro e w12 ⟨rfl, h12, k12⟩
  have K12 := hid (K11.out.trans k12)
  clear k12 C11
  have C12 := hid (Hd11.out w12 h12)
  clear h12
  go_wp2_with fail
  refine C12.out.mono ?_
  rintro e w13 ⟨rfl, h13, k13⟩
  have K13 := hid (K12.out.trans k13)
  clear k13 C12
  have C13 := hid (Hd12.out w13 h13)
  clear h13
  go_wp2_with fail
  refine C13.out.mono ?_
  rintro e w14 ⟨rfl, h14, k14⟩
  have K14 := hid (K13.out.trans k14)
  clear k14 C13
  go_wp2_with fail
  refine (HY101x97.out w14).mono ?_
  rintro e x14 ⟨rfl, hb, hB⟩
  have hcv := HTX.out x14 w14.heap.size hb
  have C14 := hid (Hd13.out x14 (h14.low hB))
  have K14 := hid (K14.out.trans (below_kw hB (fun g hg => h14.lt hg)))
  clear hb hB h14
  generalize List.replicate 101 (97 : UInt8) = LL at hcv C14
  go_wp2_with fail
  refine C14.out.mono ?_
  clear hcv
  rintro e w15 ⟨rfl, h15, k15⟩
  have K15 := hid (K14.out.trans k15)
  clear k15 C14
  have H15 := hid h15
  clear h15
  go_wp2_with fail
  obtain ⟨g1, hg1⟩ : ∃ g1, g1 = w15.heap.size := ⟨_, rfl⟩
  obtain ⟨g2, hg2⟩ : ∃ g2, g2 = w15.heap.size + 1 := ⟨_, rfl⟩
  obtain ⟨wa, hwa⟩ : ∃ wa, wa = (w15.alloc (.cells #[.int .i64 0, .int .i64 90, .int .i64 2, .int .i64 0, .int .i64 92, .int .i64 0, .int .i64 93, .int .i64 2, .int .i64 91, .int .i64 91, .int .i64 91, .int .i64 91, .int .i64 2, .int .i64 2] 35)).alloc (.cells #[.int .i64 0, .int .i64 90, .int .i64 2, .int .i64 0, .int .i64 92, .int .i64 0, .int .i64 93, .int .i64 2, .int .i64 91, .int .i64 91, .int .i64 91, .int .i64 91, .int .i64 2, .int .i64 2] 35) := ⟨_, rfl⟩
  have HWA : Hid (Below w15.heap.size w15 wa) := hid (hwa ▸ ((Below.refl _ _).alloc (Nat.le_refl _) _).alloc (by simp) _)
  have HC1 : Hid (∀ j : Nat, (hj : j < 14) → wa.cell? ⟨g1, j, none⟩ = some (.int .i64 (kdE[j]'hj))) := hid (fun j hj => by
    have hb : wa.heap[g1]? = some (.cells (kdE.map (Value.int .i64)).toArray 35 (0, 0)) := by
      rw [hwa, hg1, Below.heap_alloc _ _ _ (by simp), heap_alloc_new]
      rfl
    rw [cell_of_heap hb, List.getElem?_toArray, List.getElem?_map, List.getElem?_eq_getElem (show j < kdE.length from hj)]
    rfl)
  have HC2 : Hid (∀ j : Nat, (hj : j < 14) → wa.cell? ⟨g2, j, none⟩ = some (.int .i64 (kdE[j]'hj))) := hid (fun j hj => by
    have hb : wa.heap[g2]? = some (.cells (kdE.map (Value.int .i64)).toArray 35 (0, 0)) := by
      have hz : (w15.alloc (.cells #[.int .i64 0, .int .i64 90, .int .i64 2, .int .i64 0, .int .i64 92, .int .i64 0, .int .i64 93, .int .i64 2, .int .i64 91, .int .i64 91, .int .i64 91, .int .i64 91, .int .i64 2, .int .i64 2] 35)).heap.size = w15.heap.size + 1 := by simp
      rw [hwa, hg2, ← hz, heap_alloc_new]
      rfl
    rw [cell_of_heap hb, List.getElem?_toArray, List.getElem?_map, List.getElem?_eq_getElem (show j < kdE.length from hj)]
    rfl)
  rw [← hwa, ← hg2, ← hg1]
  clear hwa hg1 hg2
  go_loopg [4] 14 (fun gg vj wr => ∃ j : Nat, gg = 14 - j ∧ j ≤ 14 ∧ vj = .int .i64 (j : Int) ∧ Below wa.heap.size wa wr)
  case atStart => exact ⟨0, rfl, Nat.zero_le _, rfl, Below.refl _ _⟩
  case round =>
    obtain ⟨j, rfl, hj, rfl, hbel⟩ := hrel
    by_cases hjl : j < 14
    · have hc1 := HC1.out j hjl
      have hc2 := HC2.out j hjl
      generalize (kdE[j]'hjl) = x at hc1 hc2
      have d1 : wr.cell? ⟨g1, j, none⟩ = some (.int .i64 x) := by rw [← hc1]; exact World.cell?_of_block (hbel.block g1 (World.block_lt_of_cell? wa ⟨g1, j, none⟩ hc1))
      have d2 : wr.cell? ⟨g2, j, none⟩ = some (.int .i64 x) := by rw [← hc2]; exact World.cell?_of_block (hbel.block g2 (World.block_lt_of_cell? wa ⟨g2, j, none⟩ hc2))
      have hjw : IntKind.i64.wrap ((j : Int) + 1) = ((j + 1 : Nat) : Int) := by rw [IntKind.wrap_i64]; omega
      have hj0 : (0 : Int) ≤ (j : Int) := Int.natCast_nonneg _
      have hj1 : (j : Int) < 14 := by omega
      have HJ := hid hjl
      have HBE := hid hbel
      have hs0 : (fun W : World => W.cell? ⟨g1, j, none⟩ = some (.int .i64 x) ∧ W.cell? ⟨g2, j, none⟩ = some (.int .i64 x)) wr.drew := ⟨d1, d2⟩
      clear hc1 hc2 d1 d2 hbel hj hjl
      go_wp2_with fail
      refine wp_region_held (S := fun W : World => W.cell? ⟨g1, j, none⟩ = some (.int .i64 x) ∧ W.cell? ⟨g2, j, none⟩ = some (.int .i64 x)) (by kernel_rfl) ?_
      refine wpAnyH_take (i := 0) (oi := kr0) (v := .slice (some ⟨g1, 0, none⟩) 14 14) rfl (by kernel_rfl) (by kernel_rfl) (by kernel_rfl) (fun _ _ _ h => h) (y_all rfl (fun _ => rfl)) hs0 ?_
      simp only [Act.put, kr0, List.setIfInBounds_toArray, List.set_cons_zero, List.set_cons_succ]
      refine wpAnyH_take (i := 1) (oi := kr1) (v := .int .i64 (j : Int)) rfl (by kernel_rfl) (by kernel_rfl) (by kernel_rfl) (fun _ _ _ h => h) (y_all rfl (fun _ => rfl)) hs0 ?_
      simp only [Act.put, kr1, List.setIfInBounds_toArray, List.set_cons_zero, List.set_cons_succ]
      refine wpAnyH_take (i := 4) (oi := kr4) (v := .slice (some ⟨g2, 0, none⟩) 14 14) rfl (by kernel_rfl) (by kernel_rfl) (by kernel_rfl) (fun _ _ _ h => h) (y_all rfl (fun _ => rfl)) hs0 ?_
      simp only [Act.put, kr4, List.setIfInBounds_toArray, List.set_cons_zero, List.set_cons_succ]
      refine wpAnyH_take (i := 5) (oi := kr5) (v := .int .i64 (j : Int)) rfl (by kernel_rfl) (by kernel_rfl) (by kernel_rfl) (fun _ _ _ h => h) (y_all rfl (fun _ => rfl)) hs0 ?_
      simp only [Act.put, kr5, List.setIfInBounds_toArray, List.set_cons_zero, List.set_cons_succ]
      refine wpAnyH_take (i := 2) (oi := kr2) (v := .pointer (some ⟨g1, j, none⟩)) rfl (by kernel_rfl) (by kernel_rfl) (by kernel_rfl) (fun _ _ _ h => h) (y_all rfl (fun _ => by simp only [kr2]; go_simp)) hs0 ?_
      simp only [Act.put, kr2, List.setIfInBounds_toArray, List.set_cons_zero, List.set_cons_succ]
      refine wpAnyH_take (i := 6) (oi := kr6) (v := .pointer (some ⟨g2, j, none⟩)) rfl (by kernel_rfl) (by kernel_rfl) (by kernel_rfl) (fun _ _ _ h => h) (y_all rfl (fun _ => by simp only [kr6]; go_simp)) hs0 ?_
      simp only [Act.put, kr6, List.setIfInBounds_toArray, List.set_cons_zero, List.set_cons_succ]
      refine wpAnyH_take (i := 3) (oi := kr3) (v := .int .i64 x) rfl (by kernel_rfl) (by kernel_rfl) (by kernel_rfl) (fun _ _ _ h => h) (y_load rfl 35 (.tmp 78) rfl g1 j rfl (fun w hw => load35 (hw.1))) hs0 ?_
      simp only [Act.put, kr3, List.setIfInBounds_toArray, List.set_cons_zero, List.set_cons_succ]
      refine wpAnyH_take (i := 7) (oi := kr7) (v := .int .i64 x) rfl (by kernel_rfl) (by kernel_rfl) (by kernel_rfl) (fun _ _ _ h => h) (y_load rfl 35 (.tmp 82) rfl g2 j rfl (fun w hw => load35 (hw.2))) hs0 ?_
      simp only [Act.put, kr7, List.setIfInBounds_toArray, List.set_cons_zero, List.set_cons_succ]
      refine wpAnyH_take (i := 8) (oi := kr8) (v := .bool false) rfl (by kernel_rfl) (by kernel_rfl) (by kernel_rfl) (fun _ _ _ h => h) (y_all rfl (fun _ => by simp only [kr8]; go_simp)) hs0 ?_
      simp only [Act.put, kr8, List.setIfInBounds_toArray, List.set_cons_zero, List.set_cons_succ]
      refine wpAnyH_done (by kernel_rfl) ?_ _
      clear hs0
      go_wp2_with fail
      go_roundg (14 - (j + 1))
      case measure => have := HJ.out; omega
      case rel => exact ⟨j + 1, rfl, HJ.out, rfl, ⟨HBE.out.os, HBE.out.tape, HBE.out.output, HBE.out.size, HBE.out.block⟩⟩
    · have hje : j = 14 := by omega
      subst hje
      obtain ⟨p1, p2⟩ := HLOW.out w15 wr H15.out ⟨hbel.os.trans HWA.out.os, hbel.tape.trans HWA.out.tape, hbel.output.trans HWA.out.output, Nat.le_trans HWA.out.size hbel.size, fun k hk => (hbel.block k (Nat.lt_of_lt_of_le hk HWA.out.size)).trans (HWA.out.block k hk)⟩
      have C16 := hid (HUS.out wr p1)
      have K16 := hid (K15.out.trans p2)
      clear p1 p2 hbel hj hjl HC1 HC2 HWA H15
      go_wp2_with fail
      refine C16.out.mono ?_
      rintro e w17 ⟨rfl, h17, k17⟩
      have K17 := hid (K16.out.trans k17)
      have C17 := hid (HSP.out w17 h17)
      clear k17 h17 C16
      go_wp2_with fail
      refine C17.out.mono ?_
      rintro e w18 ⟨rfl, hw18⟩
      have hw18 := hw18.symm
      subst hw18
      clear C17
      go_wp2_with fail
      obtain ⟨qe0, qe1, qe2, qe4, qof, qr5, qn5, ql6, qr0, qr1, qe6, qe7, qe8, q9o, q9n, q9s⟩ := ke_is
      have qnm := ke_names
      obtain ⟨se0, se1, se2, se4, se6, se7, se8⟩ := ke_small
      refine (HNW.out w17 9 K17.out).mono ?_
      rintro e w18 ⟨rfl, h18, k18, _⟩
      have K18 := hid (K17.out.trans k18)
      clear k18
      generalize w17.heap.size = de at h18 ⊢
      have h18 : Dp K w18 de ke0 := h18
      have He0 : Hid (∀ W, Dp K W de ke0 → Calls Try.prog 11 #[.pointer (some ⟨de, 0, none⟩), St [102]] W fun e w' => e = .returned (.int .i64 0) ∧ Dp K w' de ke1 ∧ Kw K W w') := hid (fun W h => by
        have := dp_create h [102] (by decide) se0
        rw [qe0] at this
        exact this)
      have He1 : Hid (∀ W w1, Dp K W de ke1 → Below W.heap.size W w1 → w1.heap[W.heap.size]? = some (.cells (bcs (List.replicate 256 (1 : UInt8))).toArray 5 (0, 0)) → Calls Try.prog 12 #[.pointer (some ⟨de, 0, none⟩), St [102], .int .i64 0, .slice (some ⟨W.heap.size, 0, none⟩) 256 256] w1 fun e w' => e = .returned (.int .i64 0) ∧ Dp K w' de ke2 ∧ Kw K W w') := hid (fun W w1 h hB hb => by
        have := kb_write h se1 [102] (by decide) 0 (by omega) 256 (by omega) 1 hB hb
        rw [qe1] at this
        exact this)
      have He2 : Hid (∀ W w1, Dp K W de ke2 → Below W.heap.size W w1 → w1.heap[W.heap.size]? = some (.cells (bcs (List.replicate 256 (2 : UInt8))).toArray 5 (0, 0)) → Calls Try.prog 12 #[.pointer (some ⟨de, 0, none⟩), St [102], .int .i64 1, .slice (some ⟨W.heap.size, 0, none⟩) 256 256] w1 fun e w' => e = .returned (.int .i64 0) ∧ Dp K w' de ke3 ∧ Kw K W w') := hid (fun W w1 h hB hb => by
        have := kb_write h se2 [102] (by decide) 1 (by omega) 256 (by omega) 2 hB hb
        rw [qe2] at this
        exact this)
      have HE3 : Hid (∀ K3 W, Dp K3 W de ke3 → Calls Try.prog 10 #[.pointer (some ⟨de, 0, none⟩), .int .i64 0, .int .u64 2] W fun e w' => e = .returned (.tuple #[]) ∧ Dp K3 w' de ke4 ∧ Kw K3 W w') := hid (fun K3 W h => dp_fail h 0 (by omega) 2 (by omega))
      have HE4 : Hid (∀ K3 W, Dp K3 W de ke4 → Calls Try.prog 14 #[.pointer (some ⟨de, 0, none⟩), St [102]] W fun e w' => e = .returned (.int .i64 7) ∧ Dp K3 w' de ke5 ∧ Kw K3 W w') := hid (fun K3 W h => by
        have := dp_sync h [102] (by decide) se4
        rw [qe4] at this
        exact this)
      have HE5 : Hid (∀ K3 W, Dp K3 W de ke5 → Calls Try.prog 15 #[.pointer (some ⟨de, 0, none⟩)] W fun e w' => e = .returned (.bool true) ∧ w' = W) := hid (fun K3 W h => by
        have := dp_off h
        rw [qof] at this
        exact this)
      have HE6 : Hid (∀ K3 W, Dp K3 W de ke5 → Calls Try.prog 13 #[.pointer (some ⟨de, 0, none⟩), St [102], .int .i64 0] W fun e w' => ∃ v, e = .returned (.tuple #[v, .int .i64 7]) ∧ Dp K3 w' de ke5 ∧ Kw K3 W w') := hid (fun K3 W h => by
        have := dp_read h [102] (by decide) 0 (by omega)
        rw [qr5] at this
        refine this.mono ?_
        rintro e w' ⟨⟨v, he, _⟩, hB⟩
        exact ⟨v, he, h.low hB, below_kw hB (fun g hg => h.lt hg)⟩)
      have HE7 : Hid (∀ K3 W, Dp K3 W de ke5 → Calls Try.prog 22 #[.pointer (some ⟨de, 0, none⟩)] W fun e w' => ∃ a c, e = .returned (.slice a 0 c) ∧ Dp K3 w' de ke5 ∧ Kw K3 W w') := hid (fun K3 W h => by
        have := dp_names h
        rw [qn5] at this
        refine this.mono ?_
        rintro e w' ⟨v, he, hr, hB⟩
        obtain ⟨a, c, hv⟩ := row_shape2 hr
        exact ⟨a, c, by rw [he, hv]; rfl, h.low hB, below_kw hB (fun g hg => h.lt hg)⟩)
      have HE8 : Hid (∀ K3 W, Dp K3 W de ke5 → Calls Try.prog 9 #[.pointer (some ⟨de, 0, none⟩)] W fun e w' => e = .returned (.tuple #[]) ∧ Dp K3 w' de ke6 ∧ Kw K3 W w') := hid (fun K3 W h => dp_on h)
      have HE9 : Hid (∀ K3 W, Dp K3 W de ke6 → Calls Try.prog 16 #[.pointer (some ⟨de, 0, none⟩), St [102]] W fun e w' => e = .returned (.tuple #[.int .i64 2, .int .i64 0]) ∧ w' = W) := hid (fun K3 W h => by
        have := dp_len h [102] (by decide)
        rw [ql6] at this
        exact this)
      obtain ⟨LP, hLP⟩ : ∃ LP : Bs, LP = List.replicate 256 0 := ⟨_, rfl⟩
      obtain ⟨LQ, hLQ⟩ : ∃ LQ : Bs, LQ = List.replicate 256 2 := ⟨_, rfl⟩
      rw [← hLP] at qr0
      rw [← hLQ] at qr1
      have hlp : LP.length = 256 := by rw [hLP, List.length_replicate]
      have hlq : LQ.length = 256 := by rw [hLQ, List.length_replicate]
      have HER : Hid (∀ (p : Int) (L : Bs), -9223372036854775808 ≤ p ∧ p < 9223372036854775808 → readDk ke6 [102] p = (L, 0) → L.length = 256 → ∀ K3 W, Dp K3 W de ke6 → Calls Try.prog 13 #[.pointer (some ⟨de, 0, none⟩), St [102], .int .i64 p] W fun e w' => ∃ g ty, e = .returned (.tuple #[.slice (some ⟨g, 0, none⟩) 256 256, .int .i64 0]) ∧ w'.heap[g]? = some (.cells (bcs L).toArray ty (0, 0)) ∧ Dp K3 w' de ke6 ∧ Kw K3 W w' ∧ Below W.heap.size W w') := hid (fun p L hp hq hl K3 W h => by
        have := dp_read h [102] (by decide) p hp
        rw [hq] at this
        refine this.mono ?_
        rintro e w' ⟨⟨v, he, hv⟩, hB⟩
        rcases hv with ⟨_, hv⟩ | ⟨g, ty, h1, h2, _⟩
        · have hv : L = [] := hv
          rw [hv] at hl
          cases hl
        · have h1 : v = .slice (some ⟨g, 0, none⟩) L.length L.length := h1
          rw [hl] at h1
          exact ⟨g, ty, by rw [he, h1]; rfl, h2, h.low hB, below_kw hB (fun g hg => h.lt hg), hB⟩)
      have HEA := hid (HER.out 0 LP (by omega) qr0 hlp)
      have HEB := hid (HER.out 1 LQ (by omega) qr1 hlq)
      have HLPB : Hid (∀ (W : World) (g : Nat) {ty : Nat}, W.heap[g]? = some (.cells (bcs LP).toArray ty (0, 0)) → Br W (.slice (some ⟨g, 0, none⟩) 256 256) LP) := hid (fun W g ty h => by
        have := brOf h
        rw [hlp] at this
        exact this)
      have HLQB : Hid (∀ (W : World) (g : Nat) {ty : Nat}, W.heap[g]? = some (.cells (bcs LQ).toArray ty (0, 0)) → Br W (.slice (some ⟨g, 0, none⟩) 256 256) LQ) := hid (fun W g ty h => by
        have := brOf h
        rw [hlq] at this
        exact this)
      have HLPC : Hid (∀ (W : World) (g ty : Nat), W.heap[g]? = some (.cells (bcs LP).toArray ty (0, 0)) → (convert 23 9 (.slice (some ⟨g, 0, none⟩) 256 256)).run Try.prog W = .ok (St LP) W) := hid (fun W g ty h => text_br (HLPB.out W g h))
      have HLQC : Hid (∀ (W : World) (g ty : Nat), W.heap[g]? = some (.cells (bcs LQ).toArray ty (0, 0)) → (convert 23 9 (.slice (some ⟨g, 0, none⟩) 256 256)).run Try.prog W = .ok (St LQ) W) := hid (fun W g ty h => text_br (HLQB.out W g h))
      have HYP : Hid (∀ W : World, Calls Try.prog 17 #[.int .i64 256, .int .u8 0] W fun e w' => ∃ v, e = .returned v ∧ v = .slice (some ⟨W.heap.size, 0, none⟩) 256 256 ∧ w'.heap[W.heap.size]? = some (.cells (bcs LP).toArray 5 (0, 0)) ∧ Below W.heap.size W w') := hid (fun W => (HY256x0.out W).mono (by
        rintro e w' ⟨he, h1, h2⟩
        rw [← hLP] at h1
        exact ⟨_, he, rfl, h1, h2⟩))
      have HYQ : Hid (∀ W : World, Calls Try.prog 17 #[.int .i64 256, .int .u8 2] W fun e w' => ∃ v, e = .returned v ∧ v = .slice (some ⟨W.heap.size, 0, none⟩) 256 256 ∧ w'.heap[W.heap.size]? = some (.cells (bcs LQ).toArray 5 (0, 0)) ∧ Below W.heap.size W w') := hid (fun W => (HY256x2.out W).mono (by
        rintro e w' ⟨he, h1, h2⟩
        rw [← hLQ] at h1
        exact ⟨_, he, rfl, h1, h2⟩))
      have HRN6 : Hid (∀ W, Dp K W de ke6 → Calls Try.prog 19 #[.pointer (some ⟨de, 0, none⟩), St [102], St [103]] W fun e w' => e = .returned (.int .i64 0) ∧ Dp K w' de ke7 ∧ Kw K W w') := hid (fun W h => by
        have := dp_rename h [102] (by decide) se6 [103]
        rw [qe6] at this
        exact this)
      have HRN7 : Hid (∀ W, Dp K W de ke7 → Calls Try.prog 19 #[.pointer (some ⟨de, 0, none⟩), St [102], St [103]] W fun e w' => e = .returned (.int .i64 91) ∧ Dp K w' de ke8 ∧ Kw K W w') := hid (fun W h => by
        have := dp_rename h [102] (by decide) se7 [103]
        rw [qe7] at this
        exact this)
      have HRN8 : Hid (∀ W, Dp K W de ke8 → Calls Try.prog 19 #[.pointer (some ⟨de, 0, none⟩), St [103], St [103]] W fun e w' => e = .returned (.int .i64 0) ∧ Dp K w' de ke9 ∧ Kw K W w') := hid (fun W h => by
        have := dp_rename h [103] (by decide) se8 [103]
        rw [qe8] at this
        exact this)
      have HNM : Hid (∀ W, Dp K W de ke9 → Calls Try.prog 22 #[.pointer (some ⟨de, 0, none⟩)] W fun e w' => ∃ a c, e = .returned (.slice a 1 c) ∧ Tx w' (.slice a 1 c) [[103]] ∧ Dp K w' de ke9 ∧ Kw K W w') := hid (fun W h => by
        have := dp_names h
        rw [qnm] at this
        refine this.mono ?_
        rintro e w' ⟨v, he, hr, hB⟩
        obtain ⟨a, c, hv⟩ := row_shape2 hr
        have hv : v = .slice a 1 c := hv
        rw [hv] at hr
        exact ⟨a, c, by rw [he, hv], ⟨hr.1, hr.2.imp id (fun ⟨g, cap, cur, e1, _, e3⟩ => ⟨g, cap, cur, e1, Nat.zero_le _, e3⟩)⟩, h.low hB, below_kw hB (fun g hg => h.lt hg)⟩)
      have HS9 : Hid (∀ W, Dp K W de ke9 → Calls Try.prog 21 #[.pointer (some ⟨de, 0, none⟩)] W fun e w' => e = .returned (.int .i64 5) ∧ w' = W) := hid (fun W h => by
        have := dp_steps h
        rw [q9s] at this
        exact this)
      generalize ke0 = y0 at *
      generalize ke1 = y1 at *
      generalize ke2 = y2 at *
      generalize ke3 = y3 at *
      generalize ke4 = y4 at *
      generalize ke5 = y5 at *
      generalize ke6 = y6 at *
      generalize ke7 = y7 at *
      generalize ke8 = y8 at *
      generalize ke9 = y9 at *
      clear qe0 qe1 qe2 qe4 qof qr5 qn5 ql6 qr0 qr1 qe6 qe7 qe8 q9o q9n q9s qnm se0 se1 se2 se4 se6 se7 se8 hLP hLQ hlp hlq HER
      have C18 := hid (He0.out w18 h18)
      clear h18
      go_wp2_with fail
      refine C18.out.mono ?_
      rintro e w19 ⟨rfl, h19, k19⟩
      have K19 := hid (K18.out.trans k19)
      clear k19 C18
      go_wp2_with fail
      refine (HY256x1.out w19).mono ?_
      rintro e x19 ⟨rfl, hb, hB⟩
      have C19 := hid (He1.out w19 x19 h19 hB hb)
      clear hb hB h19
      go_wp2_with fail
      refine C19.out.mono ?_
      rintro e w20 ⟨rfl, h20, k20⟩
      have K20 := hid (K19.out.trans k20)
      clear k20 C19
      go_wp2_with fail
      refine (HY256x2.out w20).mono ?_
      rintro e x20 ⟨rfl, hb, hB⟩
      have C20 := hid (He2.out w20 x20 h20 hB hb)
      clear hb hB h20
      go_wp2_with fail
      refine C20.out.mono ?_
      rintro e w21 ⟨rfl, h21, k21⟩
      have K21 := hid (K20.out.trans k21)
      clear k21 C20
      obtain ⟨g3, hg3⟩ : ∃ g3, g3 = w21.heap.size := ⟨_, rfl⟩
      obtain ⟨wb, hwb⟩ : ∃ wb, wb = w21.alloc (.cells #[.int .i64 0, .int .i64 0, .int .i64 0] 35) := ⟨_, rfl⟩
      have hbB : Below w21.heap.size w21 wb := hwb ▸ (Below.refl _ _).alloc (Nat.le_refl _) _
      have hb3 : wb.heap[g3]? = some (.cells #[.int .i64 0, .int .i64 0, .int .i64 0] 35 (0, 0)) := by rw [hwb, hg3]; exact heap_alloc_new _ _
      obtain ⟨K3, hK3⟩ : ∃ K3 : Nat → Prop, K3 = fun g => K g ∨ g = g3 := ⟨_, rfl⟩
      have hp3 : Dp K3 wb de y3 := (h21.grow hbB).less (fun g hg => by
        rw [hK3] at hg
        rcases hg with hg | hg
        · exact .inl hg
        · exact .inr ⟨by omega, by rw [hg]; exact lt_of_block hb3⟩)
      have K22 := hid (K21.out.trans (below_kw hbB (fun g hg => h21.lt hg)))
      have H3K : Hid (∀ g, K g → K3 g) := hid (fun g hg => by rw [hK3]; exact .inl hg)
      have H3G : Hid (K3 g3) := hid (by rw [hK3]; exact .inr rfl)
      have HB3 := hid hb3
      have C22 := hid (HE3.out K3 wb hp3)
      clear h21 hbB hb3 hK3 hp3
      go_wp2_with fail
      rw [← hwb, ← hg3]
      clear hwb hg3
      refine C22.out.mono ?_
      rintro e w23 ⟨rfl, h23, k23⟩
      have F23 := hid k23
      have C23 := hid (HE4.out K3 w23 h23)
      clear h23 k23 C22
      go_wp2_with fail
      refine C23.out.mono ?_
      rintro e w24 ⟨rfl, h24, k24⟩
      have F24 := hid (F23.out.trans k24)
      have C24 := hid (HE5.out K3 w24 h24)
      have C25 := hid (HE6.out K3 w24 h24)
      clear h24 k24 C23
      go_wp2_with fail
      refine C24.out.mono ?_
      rintro e w25 ⟨rfl, hw⟩
      subst hw
      go_wp2_with fail
      refine C25.out.mono ?_
      rintro e w26 ⟨v26, rfl, h26, k26⟩
      have F26 := hid (F24.out.trans k26)
      have C26 := hid (HE7.out K3 w26 h26)
      clear h26 k26 C24 C25
      go_wp2_with fail
      refine C26.out.mono ?_
      rintro e w27 ⟨a27, c27, rfl, h27, k27⟩
      have F27 := hid (F26.out.trans k27)
      have C27 := hid (HE8.out K3 w27 h27)
      clear h27 k27 C26
      go_wp2_with fail
      refine C27.out.mono ?_
      rintro e w28 ⟨rfl, h28, k28⟩
      have F28 := hid (F27.out.trans k28)
      have C28 := hid (HE9.out K3 w28 h28)
      have C29 := hid (HEA.out K3 w28 h28)
      clear h28 k28 C27
      go_wp2_with fail
      refine C28.out.mono ?_
      rintro e w29 ⟨rfl, hw⟩
      subst hw
      go_wp2_with fail
      refine C29.out.mono ?_
      rintro e w30 ⟨gp, tp, rfl, bp, h30, k30, _⟩
      have F30 := hid (F28.out.trans k30)
      have BP := hid bp
      have C30 := hid (HEB.out K3 w30 h30)
      clear h30 k30 bp C28 C29
      go_wp2_with fail
      refine C30.out.mono ?_
      rintro e wq ⟨gq, tq, rfl, bq, h31, k31, b31⟩
      have F31 := hid (F30.out.trans k31)
      have hs0 : (fun W : World => W.heap[g3]? = some (.cells #[.int .i64 0, .int .i64 0, .int .i64 0] 35 (0, 0)) ∧ W.heap[gp]? = some (.cells (bcs LP).toArray tp (0, 0)) ∧ W.heap[gq]? = some (.cells (bcs LQ).toArray tq (0, 0))) wq.drew := ⟨(F31.out.blk g3 H3G.out).trans HB3.out, (b31.block gp (lt_of_block BP.out)).trans BP.out, bq⟩
      have H31 := hid (h31.less H3K.out)
      have K31 := hid (K22.out.trans (F31.out.less H3K.out))
      have HSK : Hid (∀ W W' : World, (fun W : World => W.heap[g3]? = some (.cells #[.int .i64 0, .int .i64 0, .int .i64 0] 35 (0, 0)) ∧ W.heap[gp]? = some (.cells (bcs LP).toArray tp (0, 0)) ∧ W.heap[gq]? = some (.cells (bcs LQ).toArray tq (0, 0))) W → Below W.heap.size W W' → (fun W : World => W.heap[g3]? = some (.cells #[.int .i64 0, .int .i64 0, .int .i64 0] 35 (0, 0)) ∧ W.heap[gp]? = some (.cells (bcs LP).toArray tp (0, 0)) ∧ W.heap[gq]? = some (.cells (bcs LQ).toArray tq (0, 0))) W') := hid (fun W W' h hB => ⟨(hB.block g3 (lt_of_block h.1)).trans h.1, (hB.block gp (lt_of_block h.2.1)).trans h.2.1, (hB.block gq (lt_of_block h.2.2)).trans h.2.2⟩)
      clear h31 k31 b31 bq BP C30 F23 F24 F26 F27 F28 F30 F31 K22 HB3
      go_wp2_with fail
      refine wp_region_held (S := fun W : World => W.heap[g3]? = some (.cells #[.int .i64 0, .int .i64 0, .int .i64 0] 35 (0, 0)) ∧ W.heap[gp]? = some (.cells (bcs LP).toArray tp (0, 0)) ∧ W.heap[gq]? = some (.cells (bcs LQ).toArray tq (0, 0))) (by kernel_rfl) ?_
      refine wpAnyH_take (i := 0) (oi := ks0) (v := .slice (some ⟨g3, 0, none⟩) 3 3) rfl (by kernel_rfl) (by kernel_rfl) (by kernel_rfl) (fun _ _ _ h => h) (y_all rfl (fun _ => rfl)) hs0 ?_
      simp only [Act.put, ks0, List.setIfInBounds_toArray, List.set_cons_zero, List.set_cons_succ]
      refine wpAnyH_take (i := 1) (oi := ks1) (v := .pointer (some ⟨g3, 0, none⟩)) rfl (by kernel_rfl) (by kernel_rfl) (by kernel_rfl) (fun _ _ _ h => h) (y_all rfl (fun _ => by simp only [ks1]; go_simp)) hs0 ?_
      simp only [Act.put, ks1, List.setIfInBounds_toArray, List.set_cons_zero, List.set_cons_succ]
      refine wpAnyH_take (i := 2) (oi := ks2) (v := .int .i64 0) rfl (by kernel_rfl) (by kernel_rfl) (by kernel_rfl) (fun _ _ _ h => h) (y_load rfl 35 (.tmp 136) rfl g3 0 rfl (fun w hw => load35 ((cell_of_heap hw.1 0).trans rfl))) hs0 ?_
      simp only [Act.put, ks2, List.setIfInBounds_toArray, List.set_cons_zero, List.set_cons_succ]
      refine wpAnyH_take (i := 3) (oi := ks3) (v := .bool true) rfl (by kernel_rfl) (by kernel_rfl) (by kernel_rfl) (fun _ _ _ h => h) (y_all rfl (fun _ => by simp only [ks3]; go_simp)) hs0 ?_
      simp only [Act.put, ks3, List.setIfInBounds_toArray, List.set_cons_zero, List.set_cons_succ]
      refine wpAnyH_take (i := 4) (oi := ks4) (v := .bool true) rfl (by kernel_rfl) (by kernel_rfl) (by kernel_rfl) (fun _ _ _ h => h) (y_all rfl (fun _ => rfl)) hs0 ?_
      simp only [Act.put, ks4, List.setIfInBounds_toArray, List.set_cons_zero, List.set_cons_succ]
      refine wpAnyH_take (i := 5) (oi := ks5) (v := .slice (some ⟨g3, 0, none⟩) 3 3) rfl (by kernel_rfl) (by kernel_rfl) (by kernel_rfl) (fun _ _ _ h => h) (g_all (by rfl) (fun _ => rfl)) hs0 ?_
      simp only [Act.put, ks5, List.setIfInBounds_toArray, List.set_cons_zero, List.set_cons_succ]
      refine wpAnyH_take (i := 6) (oi := ks6) (v := .pointer (some ⟨g3, 1, none⟩)) rfl (by kernel_rfl) (by kernel_rfl) (by kernel_rfl) (fun _ _ _ h => h) (g_all (by rfl) (fun _ => by simp only [ks6]; go_simp)) hs0 ?_
      simp only [Act.put, ks6, List.setIfInBounds_toArray, List.set_cons_zero, List.set_cons_succ]
      refine wpAnyH_take (i := 7) (oi := ks7) (v := .int .i64 0) rfl (by kernel_rfl) (by kernel_rfl) (by kernel_rfl) (fun _ _ _ h => h) (g_load (by rfl) 35 (.tmp 141) rfl g3 1 rfl (fun w hw => load35 ((cell_of_heap hw.1 1).trans rfl))) hs0 ?_
      simp only [Act.put, ks7, List.setIfInBounds_toArray, List.set_cons_zero, List.set_cons_succ]
      refine wpAnyH_take (i := 8) (oi := ks8) (v := .bool true) rfl (by kernel_rfl) (by kernel_rfl) (by kernel_rfl) (fun _ _ _ h => h) (g_all (by rfl) (fun _ => by simp only [ks8]; go_simp)) hs0 ?_
      simp only [Act.put, ks8, List.setIfInBounds_toArray, List.set_cons_zero, List.set_cons_succ]
      refine wpAnyH_take (i := 9) (oi := ks9) (v := .bool true) rfl (by kernel_rfl) (by kernel_rfl) (by kernel_rfl) (fun _ _ _ h => h) (y_all rfl (fun _ => by simp only [ks9]; go_simp)) hs0 ?_
      simp only [Act.put, ks9, List.setIfInBounds_toArray, List.set_cons_zero, List.set_cons_succ]
      refine wpAnyH_take (i := 10) (oi := ks10) (v := .bool true) rfl (by kernel_rfl) (by kernel_rfl) (by kernel_rfl) (fun _ _ _ h => h) (y_all rfl (fun _ => rfl)) hs0 ?_
      simp only [Act.put, ks10, List.setIfInBounds_toArray, List.set_cons_zero, List.set_cons_succ]
      refine wpAnyH_take (i := 11) (oi := ks11) (v := .slice (some ⟨g3, 0, none⟩) 3 3) rfl (by kernel_rfl) (by kernel_rfl) (by kernel_rfl) (fun _ _ _ h => h) (g_all (by rfl) (fun _ => rfl)) hs0 ?_
      simp only [Act.put, ks11, List.setIfInBounds_toArray, List.set_cons_zero, List.set_cons_succ]
      refine wpAnyH_take (i := 12) (oi := ks12) (v := .pointer (some ⟨g3, 2, none⟩)) rfl (by kernel_rfl) (by kernel_rfl) (by kernel_rfl) (fun _ _ _ h => h) (g_all (by rfl) (fun _ => by simp only [ks12]; go_simp)) hs0 ?_
      simp only [Act.put, ks12, List.setIfInBounds_toArray, List.set_cons_zero, List.set_cons_succ]
      refine wpAnyH_take (i := 13) (oi := ks13) (v := .int .i64 0) rfl (by kernel_rfl) (by kernel_rfl) (by kernel_rfl) (fun _ _ _ h => h) (g_load (by rfl) 35 (.tmp 147) rfl g3 2 rfl (fun w hw => load35 ((cell_of_heap hw.1 2).trans rfl))) hs0 ?_
      simp only [Act.put, ks13, List.setIfInBounds_toArray, List.set_cons_zero, List.set_cons_succ]
      refine wpAnyH_take (i := 14) (oi := ks14) (v := .bool true) rfl (by kernel_rfl) (by kernel_rfl) (by kernel_rfl) (fun _ _ _ h => h) (g_all (by rfl) (fun _ => by simp only [ks14]; go_simp)) hs0 ?_
      simp only [Act.put, ks14, List.setIfInBounds_toArray, List.set_cons_zero, List.set_cons_succ]
      refine wpAnyH_take (i := 15) (oi := ks15) (v := .bool true) rfl (by kernel_rfl) (by kernel_rfl) (by kernel_rfl) (fun _ _ _ h => h) (y_all rfl (fun _ => by simp only [ks15]; go_simp)) hs0 ?_
      simp only [Act.put, ks15, List.setIfInBounds_toArray, List.set_cons_zero, List.set_cons_succ]
      refine wpAnyH_take (i := 16) (oi := ks16) (v := .bool true) rfl (by kernel_rfl) (by kernel_rfl) (by kernel_rfl) (fun _ _ _ h => h) (y_all rfl (fun _ => rfl)) hs0 ?_
      simp only [Act.put, ks16, List.setIfInBounds_toArray, List.set_cons_zero, List.set_cons_succ]
      refine wpAnyH_take (i := 17) (oi := ks17) (v := .int .i64 7) rfl (by kernel_rfl) (by kernel_rfl) (by kernel_rfl) (fun _ _ _ h => h) (g_all (by rfl) (fun _ => rfl)) hs0 ?_
      simp only [Act.put, ks17, List.setIfInBounds_toArray, List.set_cons_zero, List.set_cons_succ]
      refine wpAnyH_take (i := 18) (oi := ks18) (v := .bool true) rfl (by kernel_rfl) (by kernel_rfl) (by kernel_rfl) (fun _ _ _ h => h) (g_all (by rfl) (fun _ => by simp only [ks18]; go_simp)) hs0 ?_
      simp only [Act.put, ks18, List.setIfInBounds_toArray, List.set_cons_zero, List.set_cons_succ]
      refine wpAnyH_take (i := 19) (oi := ks19) (v := .bool true) rfl (by kernel_rfl) (by kernel_rfl) (by kernel_rfl) (fun _ _ _ h => h) (y_all rfl (fun _ => by simp only [ks19]; go_simp)) hs0 ?_
      simp only [Act.put, ks19, List.setIfInBounds_toArray, List.set_cons_zero, List.set_cons_succ]
      refine wpAnyH_take (i := 20) (oi := ks20) (v := .bool true) rfl (by kernel_rfl) (by kernel_rfl) (by kernel_rfl) (fun _ _ _ h => h) (y_all rfl (fun _ => rfl)) hs0 ?_
      simp only [Act.put, ks20, List.setIfInBounds_toArray, List.set_cons_zero, List.set_cons_succ]
      refine wpAnyH_take (i := 21) (oi := ks21) (v := .bool true) rfl (by kernel_rfl) (by kernel_rfl) (by kernel_rfl) (fun _ _ _ h => h) (g_all (by rfl) (fun _ => rfl)) hs0 ?_
      simp only [Act.put, ks21, List.setIfInBounds_toArray, List.set_cons_zero, List.set_cons_succ]
      refine wpAnyH_take (i := 22) (oi := ks22) (v := .bool true) rfl (by kernel_rfl) (by kernel_rfl) (by kernel_rfl) (fun _ _ _ h => h) (y_all rfl (fun _ => by simp only [ks22]; go_simp)) hs0 ?_
      simp only [Act.put, ks22, List.setIfInBounds_toArray, List.set_cons_zero, List.set_cons_succ]
      refine wpAnyH_take (i := 23) (oi := ks23) (v := .bool true) rfl (by kernel_rfl) (by kernel_rfl) (by kernel_rfl) (fun _ _ _ h => h) (y_all rfl (fun _ => rfl)) hs0 ?_
      simp only [Act.put, ks23, List.setIfInBounds_toArray, List.set_cons_zero, List.set_cons_succ]
      refine wpAnyH_take (i := 24) (oi := ks24) (v := .int .i64 7) rfl (by kernel_rfl) (by kernel_rfl) (by kernel_rfl) (fun _ _ _ h => h) (g_all (by rfl) (fun _ => rfl)) hs0 ?_
      simp only [Act.put, ks24, List.setIfInBounds_toArray, List.set_cons_zero, List.set_cons_succ]
      refine wpAnyH_take (i := 25) (oi := ks25) (v := .bool true) rfl (by kernel_rfl) (by kernel_rfl) (by kernel_rfl) (fun _ _ _ h => h) (g_all (by rfl) (fun _ => by simp only [ks25]; go_simp)) hs0 ?_
      simp only [Act.put, ks25, List.setIfInBounds_toArray, List.set_cons_zero, List.set_cons_succ]
      refine wpAnyH_take (i := 26) (oi := ks26) (v := .bool true) rfl (by kernel_rfl) (by kernel_rfl) (by kernel_rfl) (fun _ _ _ h => h) (y_all rfl (fun _ => by simp only [ks26]; go_simp)) hs0 ?_
      simp only [Act.put, ks26, List.setIfInBounds_toArray, List.set_cons_zero, List.set_cons_succ]
      refine wpAnyH_take (i := 27) (oi := ks27) (v := .bool true) rfl (by kernel_rfl) (by kernel_rfl) (by kernel_rfl) (fun _ _ _ h => h) (y_all rfl (fun _ => rfl)) hs0 ?_
      simp only [Act.put, ks27, List.setIfInBounds_toArray, List.set_cons_zero, List.set_cons_succ]
      refine wpAnyH_take (i := 28) (oi := ks28) (v := .bool true) rfl (by kernel_rfl) (by kernel_rfl) (by kernel_rfl) (fun _ _ _ h => h) (g_all (by rfl) (fun _ => rfl)) hs0 ?_
      simp only [Act.put, ks28, List.setIfInBounds_toArray, List.set_cons_zero, List.set_cons_succ]
      refine wpAnyH_take (i := 29) (oi := ks29) (v := .bool true) rfl (by kernel_rfl) (by kernel_rfl) (by kernel_rfl) (fun _ _ _ h => h) (y_all rfl (fun _ => by simp only [ks29]; go_simp)) hs0 ?_
      simp only [Act.put, ks29, List.setIfInBounds_toArray, List.set_cons_zero, List.set_cons_succ]
      refine wpAnyH_take (i := 30) (oi := ks30) (v := .bool true) rfl (by kernel_rfl) (by kernel_rfl) (by kernel_rfl) (fun _ _ _ h => h) (y_all rfl (fun _ => rfl)) hs0 ?_
      simp only [Act.put, ks30, List.setIfInBounds_toArray, List.set_cons_zero, List.set_cons_succ]
      refine wpAnyH_take (i := 31) (oi := ks31) (v := .int .i64 2) rfl (by kernel_rfl) (by kernel_rfl) (by kernel_rfl) (fun _ _ _ h => h) (g_all (by rfl) (fun _ => rfl)) hs0 ?_
      simp only [Act.put, ks31, List.setIfInBounds_toArray, List.set_cons_zero, List.set_cons_succ]
      refine wpAnyH_take (i := 32) (oi := ks32) (v := .bool true) rfl (by kernel_rfl) (by kernel_rfl) (by kernel_rfl) (fun _ _ _ h => h) (g_all (by rfl) (fun _ => by simp only [ks32]; go_simp)) hs0 ?_
      simp only [Act.put, ks32, List.setIfInBounds_toArray, List.set_cons_zero, List.set_cons_succ]
      refine wpAnyH_take (i := 33) (oi := ks33) (v := .bool true) rfl (by kernel_rfl) (by kernel_rfl) (by kernel_rfl) (fun _ _ _ h => h) (y_all rfl (fun _ => by simp only [ks33]; go_simp)) hs0 ?_
      simp only [Act.put, ks33, List.setIfInBounds_toArray, List.set_cons_zero, List.set_cons_succ]
      refine wpAnyH_take (i := 34) (oi := ks34) (v := .bool true) rfl (by kernel_rfl) (by kernel_rfl) (by kernel_rfl) (fun _ _ _ h => h) (y_all rfl (fun _ => rfl)) hs0 ?_
      simp only [Act.put, ks34, List.setIfInBounds_toArray, List.set_cons_zero, List.set_cons_succ]
      refine wpAnyH_take (i := 35) (oi := ks35) (v := .int .i64 0) rfl (by kernel_rfl) (by kernel_rfl) (by kernel_rfl) (fun _ _ _ h => h) (g_all (by rfl) (fun _ => rfl)) hs0 ?_
      simp only [Act.put, ks35, List.setIfInBounds_toArray, List.set_cons_zero, List.set_cons_succ]
      refine wpAnyH_take (i := 36) (oi := ks36) (v := .bool true) rfl (by kernel_rfl) (by kernel_rfl) (by kernel_rfl) (fun _ _ _ h => h) (g_all (by rfl) (fun _ => by simp only [ks36]; go_simp)) hs0 ?_
      simp only [Act.put, ks36, List.setIfInBounds_toArray, List.set_cons_zero, List.set_cons_succ]
      refine wpAnyH_take (i := 37) (oi := ks37) (v := .bool true) rfl (by kernel_rfl) (by kernel_rfl) (by kernel_rfl) (fun _ _ _ h => h) (y_all rfl (fun _ => by simp only [ks37]; go_simp)) hs0 ?_
      simp only [Act.put, ks37, List.setIfInBounds_toArray, List.set_cons_zero, List.set_cons_succ]
      refine wpAnyH_take (i := 38) (oi := ks38) (v := .bool true) rfl (by kernel_rfl) (by kernel_rfl) (by kernel_rfl) (fun _ _ _ h => h) (y_all rfl (fun _ => rfl)) hs0 ?_
      simp only [Act.put, ks38, List.setIfInBounds_toArray, List.set_cons_zero, List.set_cons_succ]
      refine wpAnyH_take (i := 39) (oi := ks39) (v := .int .i64 0) rfl (by kernel_rfl) (by kernel_rfl) (by kernel_rfl) (fun _ _ _ h => h) (g_all (by rfl) (fun _ => rfl)) hs0 ?_
      simp only [Act.put, ks39, List.setIfInBounds_toArray, List.set_cons_zero, List.set_cons_succ]
      refine wpAnyH_take (i := 40) (oi := ks40) (v := .bool true) rfl (by kernel_rfl) (by kernel_rfl) (by kernel_rfl) (fun _ _ _ h => h) (g_all (by rfl) (fun _ => by simp only [ks40]; go_simp)) hs0 ?_
      simp only [Act.put, ks40, List.setIfInBounds_toArray, List.set_cons_zero, List.set_cons_succ]
      refine wpAnyH_take (i := 41) (oi := ks41) (v := .bool true) rfl (by kernel_rfl) (by kernel_rfl) (by kernel_rfl) (fun _ _ _ h => h) (y_all rfl (fun _ => by simp only [ks41]; go_simp)) hs0 ?_
      simp only [Act.put, ks41, List.setIfInBounds_toArray, List.set_cons_zero, List.set_cons_succ]
      refine wpAnyH_take (i := 42) (oi := ks42) (v := .bool true) rfl (by kernel_rfl) (by kernel_rfl) (by kernel_rfl) (fun _ _ _ h => h) (y_all rfl (fun _ => rfl)) hs0 ?_
      simp only [Act.put, ks42, List.setIfInBounds_toArray, List.set_cons_zero, List.set_cons_succ]
      refine wpAnyH_take (i := 43) (oi := ks43) (v := .slice (some ⟨gp, 0, none⟩) 256 256) rfl (by kernel_rfl) (by kernel_rfl) (by kernel_rfl) (fun _ _ _ h => h) (g_all (by rfl) (fun _ => rfl)) hs0 ?_
      simp only [Act.put, ks43, List.setIfInBounds_toArray, List.set_cons_zero, List.set_cons_succ]
      refine wpAnyH_take (i := 44) (oi := ks44) (v := St LP) rfl (by kernel_rfl) (by kernel_rfl) (by kernel_rfl) (fun _ _ _ h => h) (g_text (by rfl) (.tmp 178) rfl rfl (fun w hw => HLPB.out w gp hw.2.1)) hs0 ?_
      simp only [Act.put, ks44, List.setIfInBounds_toArray, List.set_cons_zero, List.set_cons_succ]
      refine wpAnyH_all (rs := [45]) (by kernel_rfl) (by simp) (all1 ?_)
      refine g_call (o := ks45) (f := 17) (args := #[.int .i64 256, .int .u8 0]) (R := fun v w' => v = .slice (some ⟨wq.drew.heap.size, 0, none⟩) 256 256 ∧ w'.heap[wq.drew.heap.size]? = some (.cells (bcs LP).toArray 5 (0, 0)) ∧ Below wq.drew.heap.size wq.drew w') rfl (by rfl) (by simp only [ks45]; go_simp) (HYP.out wq.drew) ?_
      rintro v0 wy ⟨rfl, hb, hB⟩
      have hs0 := HSK.out wq.drew wy hs0 hB
      have hcv45 := HLPC.out wy wq.drew.heap.size 5 hb
      have KB45 := hid hB
      clear hb hB
      refine ⟨hs0, ?_⟩
      simp only [Act.put, ks45, List.setIfInBounds_toArray, List.set_cons_zero, List.set_cons_succ]
      refine wpAnyH_all (rs := [46]) (by kernel_rfl) (by simp) (all1 ?_)
      refine g_ok (o := ks46) (v := St LP) (w' := wy) rfl (by rfl) (g_conv (.tmp 180) rfl _ _ rfl hcv45) ?_
      refine ⟨hs0, ?_⟩
      simp only [Act.put, ks46, List.setIfInBounds_toArray, List.set_cons_zero, List.set_cons_succ]
      refine wpAnyH_take (i := 47) (oi := ks47) (v := .bool true) rfl (by kernel_rfl) (by kernel_rfl) (by kernel_rfl) (fun _ _ _ h => h) (g_all (by rfl) (fun _ => by simp only [ks47]; go_simp)) hs0 ?_
      simp only [Act.put, ks47, List.setIfInBounds_toArray, List.set_cons_zero, List.set_cons_succ]
      refine wpAnyH_take (i := 48) (oi := ks48) (v := .bool true) rfl (by kernel_rfl) (by kernel_rfl) (by kernel_rfl) (fun _ _ _ h => h) (y_all rfl (fun _ => by simp only [ks48]; go_simp)) hs0 ?_
      simp only [Act.put, ks48, List.setIfInBounds_toArray, List.set_cons_zero, List.set_cons_succ]
      refine wpAnyH_take (i := 49) (oi := ks49) (v := .bool true) rfl (by kernel_rfl) (by kernel_rfl) (by kernel_rfl) (fun _ _ _ h => h) (y_all rfl (fun _ => rfl)) hs0 ?_
      simp only [Act.put, ks49, List.setIfInBounds_toArray, List.set_cons_zero, List.set_cons_succ]
      refine wpAnyH_take (i := 50) (oi := ks50) (v := .int .i64 0) rfl (by kernel_rfl) (by kernel_rfl) (by kernel_rfl) (fun _ _ _ h => h) (g_all (by rfl) (fun _ => rfl)) hs0 ?_
      simp only [Act.put, ks50, List.setIfInBounds_toArray, List.set_cons_zero, List.set_cons_succ]
      refine wpAnyH_take (i := 51) (oi := ks51) (v := .bool true) rfl (by kernel_rfl) (by kernel_rfl) (by kernel_rfl) (fun _ _ _ h => h) (g_all (by rfl) (fun _ => by simp only [ks51]; go_simp)) hs0 ?_
      simp only [Act.put, ks51, List.setIfInBounds_toArray, List.set_cons_zero, List.set_cons_succ]
      refine wpAnyH_take (i := 52) (oi := ks52) (v := .bool true) rfl (by kernel_rfl) (by kernel_rfl) (by kernel_rfl) (fun _ _ _ h => h) (y_all rfl (fun _ => by simp only [ks52]; go_simp)) hs0 ?_
      simp only [Act.put, ks52, List.setIfInBounds_toArray, List.set_cons_zero, List.set_cons_succ]
      refine wpAnyH_take (i := 53) (oi := ks53) (v := .bool true) rfl (by kernel_rfl) (by kernel_rfl) (by kernel_rfl) (fun _ _ _ h => h) (y_all rfl (fun _ => rfl)) hs0 ?_
      simp only [Act.put, ks53, List.setIfInBounds_toArray, List.set_cons_zero, List.set_cons_succ]
      refine wpAnyH_take (i := 54) (oi := ks54) (v := .slice (some ⟨gq, 0, none⟩) 256 256) rfl (by kernel_rfl) (by kernel_rfl) (by kernel_rfl) (fun _ _ _ h => h) (g_all (by rfl) (fun _ => rfl)) hs0 ?_
      simp only [Act.put, ks54, List.setIfInBounds_toArray, List.set_cons_zero, List.set_cons_succ]
      refine wpAnyH_take (i := 55) (oi := ks55) (v := St LQ) rfl (by kernel_rfl) (by kernel_rfl) (by kernel_rfl) (fun _ _ _ h => h) (g_text (by rfl) (.tmp 189) rfl rfl (fun w hw => HLQB.out w gq hw.2.2)) hs0 ?_
      simp only [Act.put, ks55, List.setIfInBounds_toArray, List.set_cons_zero, List.set_cons_succ]
      refine wpAnyH_all (rs := [56]) (by kernel_rfl) (by simp) (all1 ?_)
      refine g_call (o := ks56) (f := 17) (args := #[.int .i64 256, .int .u8 2]) (R := fun v w' => v = .slice (some ⟨wy.heap.size, 0, none⟩) 256 256 ∧ w'.heap[wy.heap.size]? = some (.cells (bcs LQ).toArray 5 (0, 0)) ∧ Below wy.heap.size wy w') rfl (by rfl) (by simp only [ks56]; go_simp) (HYQ.out wy) ?_
      rintro v0 wz ⟨rfl, hb, hB⟩
      have hs0 := HSK.out wy wz hs0 hB
      have hcv56 := HLQC.out wz wy.heap.size 5 hb
      have KB56 := hid hB
      clear hb hB
      refine ⟨hs0, ?_⟩
      simp only [Act.put, ks56, List.setIfInBounds_toArray, List.set_cons_zero, List.set_cons_succ]
      refine wpAnyH_all (rs := [57]) (by kernel_rfl) (by simp) (all1 ?_)
      refine g_ok (o := ks57) (v := St LQ) (w' := wz) rfl (by rfl) (g_conv (.tmp 191) rfl _ _ rfl hcv56) ?_
      refine ⟨hs0, ?_⟩
      simp only [Act.put, ks57, List.setIfInBounds_toArray, List.set_cons_zero, List.set_cons_succ]
      refine wpAnyH_take (i := 58) (oi := ks58) (v := .bool true) rfl (by kernel_rfl) (by kernel_rfl) (by kernel_rfl) (fun _ _ _ h => h) (g_all (by rfl) (fun _ => by simp only [ks58]; go_simp)) hs0 ?_
      simp only [Act.put, ks58, List.setIfInBounds_toArray, List.set_cons_zero, List.set_cons_succ]
      refine wpAnyH_take (i := 59) (oi := ks59) (v := .bool true) rfl (by kernel_rfl) (by kernel_rfl) (by kernel_rfl) (fun _ _ _ h => h) (y_all rfl (fun _ => by simp only [ks59]; go_simp)) hs0 ?_
      simp only [Act.put, ks59, List.setIfInBounds_toArray, List.set_cons_zero, List.set_cons_succ]
      refine wpAnyH_take (i := 60) (oi := ks60) (v := .bool true) rfl (by kernel_rfl) (by kernel_rfl) (by kernel_rfl) (fun _ _ _ h => h) (y_all rfl (fun _ => rfl)) hs0 ?_
      simp only [Act.put, ks60, List.setIfInBounds_toArray, List.set_cons_zero, List.set_cons_succ]
      refine wpAnyH_done (by kernel_rfl) ?_ _
      clear hs0
      have K32 := hid (K31.out.trans (Kw.trans (below_kw (w := wq) (w' := wy) ⟨KB45.out.os, KB45.out.tape, KB45.out.output, KB45.out.size, KB45.out.block⟩ (fun g hg => H31.out.lt hg)) (below_kw KB56.out (fun g hg => Nat.lt_of_lt_of_le (H31.out.lt hg) KB45.out.size))))
      have h32 : Dp K wz de y6 := (H31.out.low (w' := wy) ⟨KB45.out.os, KB45.out.tape, KB45.out.output, KB45.out.size, KB45.out.block⟩).low KB56.out
      clear KB45 KB56 H31 K31
      have C32 := hid (HRN6.out wz h32)
      clear h32
      go_wp2_with fail
      refine C32.out.mono ?_
      rintro e w33 ⟨rfl, h33, k33⟩
      have K33 := hid (K32.out.trans k33)
      have C33 := hid (HRN7.out w33 h33)
      clear h33 k33 C32
      go_wp2_with fail
      refine C33.out.mono ?_
      rintro e w34 ⟨rfl, h34, k34⟩
      have K34 := hid (K33.out.trans k34)
      have C34 := hid (HRN8.out w34 h34)
      clear h34 k34 C33
      go_wp2_with fail
      refine C34.out.mono ?_
      rintro e w35 ⟨rfl, h35, k35⟩
      have K35 := hid (K34.out.trans k35)
      have C35 := hid (HNM.out w35 h35)
      clear h35 k35 C34
      go_wp2_with fail
      refine C35.out.mono ?_
      rintro e w36 ⟨a36, c36, rfl, t36, h36, k36⟩
      have K36 := hid (K35.out.trans k36)
      have CN : Hid (Calls Try.prog 23 #[.slice a36 1 c36, .slice (some ⟨w36.heap.size, 0, none⟩) 1 1] (w36.alloc (.cells #[St [103]] 9)) fun e w' => e = .returned (.bool true) ∧ Dp K w' de y9 ∧ Kw K w36 w') := hid (by
        have hB : Below w36.heap.size w36 (w36.alloc (.cells #[St [103]] 9)) := (Below.refl _ _).alloc (Nat.le_refl _) _
        have hT : Tx (w36.alloc (.cells #[St [103]] 9)) (.slice (some ⟨w36.heap.size, 0, none⟩) 1 1) [[103]] := ⟨rfl, .inr ⟨w36.heap.size, 1, #[St [103]], rfl, Nat.zero_le _, heap_alloc_new _ _, Nat.le_refl _, by unfold maxLen; omega, rfl, rfl⟩⟩
        refine (nsame_any _ _ _ [[103]] [[103]] (ownsRow_same t36 (fun g hg => hB.block g (t36.lt g hg).2)) hT (by simp)).mono ?_
        rintro e w' ⟨he, hB'⟩
        have hB2 : Below w36.heap.size w36 w' := ⟨hB'.os.trans hB.os, hB'.tape.trans hB.tape, hB'.output.trans hB.output, Nat.le_trans hB.size hB'.size, fun k hk => (hB'.block k (Nat.lt_of_lt_of_le hk hB.size)).trans (hB.block k hk)⟩
        exact ⟨by rw [he]; rfl, h36.low hB2, below_kw hB2 (fun g hg => h36.lt hg)⟩)
      clear t36 h36 k36 C35
      go_wp2_with fail
      refine CN.out.mono ?_
      rintro e w37 ⟨rfl, h37, k37⟩
      have K37 := hid (K36.out.trans k37)
      have C37 := hid (HS9.out w37 h37)
      clear h37 k37 CN
      go_wp2_with fail
      refine C37.out.mono ?_
      rintro e w38 ⟨rfl, hw⟩
      have hw := hw.symm
      subst hw
      clear C37
      go_wp2_with fail
      refine (HNW.out w37 1099511627776 K37.out).mono ?_
      rintro e w39 ⟨rfl, h39, k39, _⟩
      have K39 := hid (K37.out.trans k39)
      clear k39
      generalize w37.heap.size = dm at h39 ⊢
      have H39 := hid h39
      clear h39
      go_wp2_with fail
      go_loopg [24] 256 (fun gg vj wr => ∃ (x : Nat) (s : Ds), gg = 256 - x ∧ x ≤ 256 ∧ vj = .int .i64 (x : Int) ∧ Dp K wr dm s ∧ Mn s x ∧ Kw K w wr)
      case atStart => exact ⟨0, _, rfl, Nat.zero_le _, rfl, H39.out, mn_new, K39.out⟩
      case round =>
        clear H39 K39
        obtain ⟨x, s, rfl, hx, rfl, hdp, hmn, hkw⟩ := hrel
        by_cases hxl : x < 256
        · obtain ⟨q1, q2⟩ := hmn.create hxl
          obtain ⟨a, ha⟩ : ∃ a : Nat, a = x / 16 := ⟨_, rfl⟩
          obtain ⟨b, hb⟩ : ∃ b : Nat, b = x % 16 := ⟨_, rfl⟩
          have ha0 : a < 16 := by omega
          have hb0 : b < 16 := by omega
          have e1 : (x : Int).tdiv 16 = (a : Int) := by rw [Int.tdiv_eq_ediv_of_nonneg (by omega)]; omega
          have e2 : (x : Int) / 16 = (a : Int) := by omega
          have e3 : (x : Int).tmod 16 = (b : Int) := by rw [Int.tmod_eq_emod_of_nonneg (by omega)]; omega
          have e4 : (x : Int) % 16 = (b : Int) := by omega
          have e5 : IntKind.i64.wrap (a : Int) = (a : Int) := by rw [IntKind.wrap_i64]; omega
          have e6 : IntKind.u8.wrap (a : Int) = (a : Int) := by rw [IntKind.wrap_u8]; omega
          have e7 : IntKind.u8.wrap (b : Int) = (b : Int) := by rw [IntKind.wrap_u8]; omega
          obtain ⟨A, hA⟩ : ∃ A : Int, A = ((97 + a : Nat) : Int) := ⟨_, rfl⟩
          obtain ⟨B, hB⟩ : ∃ B : Int, B = ((97 + b : Nat) : Int) := ⟨_, rfl⟩
          have e8 : IntKind.u8.wrap (97 + (a : Int)) = A := by rw [IntKind.wrap_u8, hA]; omega
          have e9 : IntKind.u8.wrap (97 + (b : Int)) = B := by rw [IntKind.wrap_u8, hB]; omega
          have hcv : (convert 23 9 (.slice (some ⟨wr.heap.size, 0, none⟩) 2 2)).run Try.prog (wr.alloc (.cells #[.int .u8 A, .int .u8 B] 5)) = .ok (St (nm2 x)) (wr.alloc (.cells #[.int .u8 A, .int .u8 B] 5)) := by
            have hcs : (bcs (nm2 x)).toArray = #[.int .u8 A, .int .u8 B] := by
              unfold nm2 bcs
              simp only [List.map_cons, List.map_nil]
              rw [UInt8.toNat_ofNat', UInt8.toNat_ofNat', hA, hB, ← ha, ← hb]
              have r1 : (97 + a) % 2 ^ 8 = 97 + a := by omega
              have r2 : (97 + b) % 2 ^ 8 = 97 + b := by omega
              rw [r1, r2]
            have := text_br (brOf (W := wr.alloc (.cells #[.int .u8 A, .int .u8 B] 5)) (g := wr.heap.size) (ty := 5) (b := nm2 x) (by rw [hcs]; exact heap_alloc_new _ _))
            exact this
          have HC : Hid (Calls Try.prog 11 #[.pointer (some ⟨dm, 0, none⟩), St (nm2 x)] (wr.alloc (.cells #[.int .u8 A, .int .u8 B] 5)) fun e w' => e = .returned (.int .i64 0) ∧ Dp K w' dm (createD s (nm2 x)).2 ∧ Kw K w w') := hid (by
            have hB2 : Below wr.heap.size wr (wr.alloc (.cells #[.int .u8 A, .int .u8 B] 5)) := (Below.refl _ _).alloc (Nat.le_refl _) _
            have hcr := dp_create (hdp.low hB2) (nm2 x) (by unfold nm2; simp) ⟨by rw [hmn.steps]; omega, by rw [hmn.next]; omega⟩
            rw [q1] at hcr
            refine hcr.mono ?_
            rintro e w' ⟨he, c1, c2⟩
            exact ⟨he, c1, hkw.trans (Kw.trans (below_kw hB2 (fun g hg => hdp.lt hg)) c2)⟩)
          have HQ2 := hid q2
          have HXL := hid hxl
          have hjw : IntKind.i64.wrap ((x : Int) + 1) = ((x + 1 : Nat) : Int) := by rw [IntKind.wrap_i64]; omega
          have hj1 : (x : Int) < 256 := by omega
          generalize (createD s (nm2 x)).2 = s1 at *
          generalize nm2 x = nmx at hcv HC
          clear q1 q2 ha hb ha0 hb0 hA hB hdp hmn hkw hx hxl
          go_wp2_with fail
          refine HC.out.mono ?_
          rintro e wc ⟨rfl, hc1, hc2⟩
          have HC1 := hid hc1
          have HC2 := hid hc2
          clear hc1 hc2 hcv
          go_wp2_with fail
          go_roundg (256 - (x + 1))
          case measure => have := HXL.out; omega
          case rel => exact ⟨x + 1, s1, rfl, HXL.out, rfl, HC1.out, HQ2.out, HC2.out⟩
        · have hxe : x = 256 := by omega
          subst hxe
          have hf := hmn.full
          have C40 : Hid (Calls Try.prog 11 #[.pointer (some ⟨dm, 0, none⟩), St [109, 111, 114, 101]] wr fun e w' => e = .returned (.int .i64 3) ∧ Kw K w w') := hid (by
            have hcr := dp_create hdp [109, 111, 114, 101] (by decide) ⟨by rw [hmn.steps]; omega, by rw [hmn.next]; omega⟩
            rw [hf] at hcr
            refine hcr.mono ?_
            rintro e w' ⟨he, _, c2⟩
            exact ⟨he, hkw.trans c2⟩)
          clear hf hdp hmn hkw hx hxl
          go_wp2_with fail
          refine C40.out.mono ?_
          rintro e w41 ⟨rfl, k41⟩
          have K41 := hid k41
          clear k41 C40
          go_wp2_with fail
          refine (HNW.out w41 (-5) K41.out).mono ?_
          rintro e w42 ⟨rfl, h42, k42, _⟩
          have K42 := hid (K41.out.trans k42)
          have C42 : Hid (Calls Try.prog 20 #[.pointer (some ⟨w41.heap.size, 0, none⟩)] w42 fun e w' => e = .returned (.int .i64 0) ∧ Kw K w w') := hid (by
            refine (dp_used h42).mono ?_
            rintro e w' ⟨he, hB⟩
            exact ⟨he, K42.out.trans (below_kw hB (fun g hg => h42.lt hg))⟩)
          clear h42 k42
          go_wp2_with fail
          refine C42.out.mono ?_
          rintro e w43 ⟨rfl, k43⟩
          have K43 := hid k43
          clear k43 C42
          go_wp2_with fail
          refine (nfail w43).mono ?_
          rintro e wt0 ⟨rfl, hw⟩
          have hw := hw.symm
          subst hw
          go_wp2_with fail
          refine (non w43).mono ?_
          rintro e wt1 ⟨rfl, hw⟩
          have hw := hw.symm
          subst hw
          go_wp2_with fail
          refine (nread w43 [102]).mono ?_
          rintro e wt2 ⟨rfl, hw⟩
          have hw := hw.symm
          subst hw
          go_wp2_with fail
          refine (nlen w43 [102]).mono ?_
          rintro e wt3 ⟨rfl, hw⟩
          have hw := hw.symm
          subst hw
          go_wp2_with fail
          refine (ncreate w43 [102]).mono ?_
          rintro e wn4 ⟨rfl, hB⟩
          have KN4 := hid (K43.out.trans (below_kw hB (fun g hg => Nat.lt_of_lt_of_le (HKL.out g hg) K43.out.size)))
          clear hB
          go_wp2_with fail
          refine (nwrite wn4 [102]).mono ?_
          rintro e wn5 ⟨rfl, hB⟩
          have KN5 := hid (KN4.out.trans (below_kw hB (fun g hg => Nat.lt_of_lt_of_le (HKL.out g hg) KN4.out.size)))
          clear hB
          go_wp2_with fail
          refine (nsync wn5 [102]).mono ?_
          rintro e wt6 ⟨rfl, hw⟩
          have hw := hw.symm
          subst hw
          go_wp2_with fail
          refine (nrename wn5 [102] [103]).mono ?_
          rintro e wn7 ⟨rfl, hB⟩
          have KN7 := hid (KN5.out.trans (below_kw hB (fun g hg => Nat.lt_of_lt_of_le (HKL.out g hg) KN5.out.size)))
          clear hB
          go_wp2_with fail
          refine (nremove wn7 [102]).mono ?_
          rintro e wn8 ⟨rfl, hB⟩
          have KN8 := hid (KN7.out.trans (below_kw hB (fun g hg => Nat.lt_of_lt_of_le (HKL.out g hg) KN7.out.size)))
          clear hB
          go_wp2_with fail
          refine (nnames wn8).mono ?_
          rintro e wt9 ⟨rfl, hw⟩
          have hw := hw.symm
          subst hw
          go_wp2_with fail
          refine (nused wn8).mono ?_
          rintro e wt10 ⟨rfl, hw⟩
          have hw := hw.symm
          subst hw
          go_wp2_with fail
          refine (nsteps wn8).mono ?_
          rintro e wt11 ⟨rfl, hw⟩
          have hw := hw.symm
          subst hw
          go_wp2_with fail
          refine (noff wn8).mono ?_
          rintro e wt12 ⟨rfl, hw⟩
          have hw := hw.symm
          subst hw
          go_wp2_with fail
          refine (ncopy wn8).mono ?_
          rintro e wt13 ⟨rfl, hw⟩
          have hw := hw.symm
          subst hw
          go_wp2_with fail
          refine (HWK.out wn8).mono ?_
          rintro e wf ⟨rfl, hbf⟩
          have HF : Hid (Below w.heap.size w wf) := hid (by
            have h1 := HKB.out wn8 KN8.out
            exact ⟨hbf.os.trans h1.os, hbf.tape.trans h1.tape, hbf.output.trans h1.output, Nat.le_trans h1.size hbf.size, fun k hk => (hbf.block k (Nat.lt_of_lt_of_le hk h1.size)).trans (h1.block k hk)⟩)
          clear hbf
          go_wp2_with fail
          go_ret
          exact ⟨rfl, HF.out⟩
end Go.Proofs.Ytojnembakhhgiaa
