/- LockKnown: the operations that write the list of locks down. -/
import Derived.Test.YtdllpklecdmghaaGreatDoorKnCAll
namespace Go.Proofs.YtdllpklecdmghaaGreatDoor
open Go.RowKit
open Lk (Lt)
abbrev wide8 : Lt := .mk 5 [] 0 (List.replicate 8 aft7)
def kq0 : Oper := { dst := some 29, op := Op.build 25 #[], type := 25, pos := "outright.go:94", after := #[], guard := none }
def kq1 : Oper := { dst := some 30, op := Op.build 25 #[(0, Operand.const (Value.int IntKind.u8 7))], type := 25, pos := "outright.go:94", after := #[], guard := none }
def kq2 : Oper := { dst := some 31, op := Op.call { callee := Callee.value (Operand.func 24), args := #[Operand.const (Value.string { data := #[80, 110, 49, 59] })], argTypes := #[22] }, type := 25, pos := "outright.go:94", after := #[], guard := none }
def kq3 : Oper := { dst := some 32, op := Op.call { callee := Callee.value (Operand.func 24), args := #[Operand.const (Value.string { data := #[110, 49, 59] })], argTypes := #[22] }, type := 25, pos := "outright.go:94", after := #[{ on := 2, ground := Ground.chain }], guard := none }
def kq4 : Oper := { dst := some 33, op := Op.call { callee := Callee.value (Operand.func 24), args := #[Operand.const (Value.string { data := #[] })], argTypes := #[22] }, type := 25, pos := "outright.go:94", after := #[{ on := 3, ground := Ground.chain }], guard := none }
def kq5 : Oper := { dst := some 34, op := Op.call { callee := Callee.value (Operand.func 24), args := #[Operand.const (Value.string { data := #[87, 80, 110, 49, 59, 80, 110, 50, 59] })], argTypes := #[22] }, type := 25, pos := "outright.go:94", after := #[{ on := 4, ground := Ground.chain }], guard := none }
def kq6 : Oper := { dst := some 35, op := Op.call { callee := Callee.value (Operand.func 24), args := #[Operand.const (Value.string { data := #[76, 80, 110, 49, 59, 116, 48, 58] })], argTypes := #[22] }, type := 25, pos := "outright.go:94", after := #[{ on := 5, ground := Ground.chain }], guard := none }
def kq7 : Oper := { dst := some 36, op := Op.call { callee := Callee.value (Operand.func 24), args := #[Operand.const (Value.string { data := #[72, 110, 49, 59] })], argTypes := #[22] }, type := 25, pos := "outright.go:94", after := #[{ on := 6, ground := Ground.chain }], guard := none }
def kq8 : Oper := { dst := some 37, op := Op.call { callee := Callee.value (Operand.func 25), args := #[Operand.const (Value.string { data := #[72, 110, 49, 59] })], argTypes := #[22] }, type := 25, pos := "outright.go:94", after := #[{ on := 7, ground := Ground.chain }], guard := none }
def kq9 : Oper := { dst := some 38, op := Op.call { callee := Callee.value (Operand.func 25), args := #[Operand.const (Value.string { data := #[80, 110, 49, 59] })], argTypes := #[22] }, type := 25, pos := "outright.go:94", after := #[{ on := 8, ground := Ground.chain }], guard := none }
def kq10 : Oper := { dst := some 39, op := Op.call { callee := Callee.value (Operand.func 25), args := #[Operand.const (Value.string { data := #[] })], argTypes := #[22] }, type := 25, pos := "outright.go:94", after := #[{ on := 9, ground := Ground.chain }], guard := none }
def kq11 : Oper := { dst := some 40, op := Op.load 25 (Operand.tmp 1), type := 25, pos := "outright.go:94", after := #[], guard := none }
def kq12 : Oper := { dst := some 41, op := Op.call { callee := Callee.value (Operand.func 22), args := #[Operand.const (Value.int IntKind.i64 (-1))], argTypes := #[3] }, type := 25, pos := "outright.go:94", after := #[{ on := 10, ground := Ground.chain }], guard := none }
def kq13 : Oper := { dst := some 42, op := Op.call { callee := Callee.value (Operand.func 22), args := #[Operand.const (Value.int IntKind.i64 1073741823)], argTypes := #[3] }, type := 25, pos := "outright.go:94", after := #[{ on := 12, ground := Ground.chain }], guard := none }
def kq14 : Oper := { dst := some 43, op := Op.call { callee := Callee.value (Operand.func 22), args := #[Operand.const (Value.int IntKind.i64 1073741824)], argTypes := #[3] }, type := 25, pos := "outright.go:94", after := #[{ on := 13, ground := Ground.chain }], guard := none }
def kq15 : Oper := { dst := some 44, op := Op.call { callee := Callee.value (Operand.func 26), args := #[Operand.const (Value.int IntKind.i64 0)], argTypes := #[3] }, type := 25, pos := "outright.go:94", after := #[{ on := 14, ground := Ground.chain }], guard := none }
def kq16 : Oper := { dst := some 45, op := Op.call { callee := Callee.value (Operand.func 26), args := #[Operand.const (Value.int IntKind.i64 1073741824)], argTypes := #[3] }, type := 25, pos := "outright.go:94", after := #[{ on := 15, ground := Ground.chain }], guard := none }
def kq17 : Oper := { dst := some 46, op := Op.call { callee := Callee.value (Operand.func 23), args := #[Operand.const (Value.slice none 0 0)], argTypes := #[23] }, type := 25, pos := "outright.go:94", after := #[{ on := 16, ground := Ground.chain }], guard := none }
def kq18 : Oper := { dst := some 47, op := Op.call { callee := Callee.value (Operand.func 27), args := #[Operand.const (Value.slice none 0 0)], argTypes := #[23] }, type := 25, pos := "outright.go:94", after := #[{ on := 17, ground := Ground.chain }], guard := none }
def kq19 : Oper := { dst := some 48, op := Op.load 25 (Operand.tmp 1), type := 25, pos := "outright.go:94", after := #[], guard := none }
def kq20 : Oper := { dst := some 49, op := Op.buildSlice 23 1 #[(0, Operand.tmp 48)], type := 23, pos := "outright.go:94", after := #[{ on := 19, ground := Ground.data }], guard := none }
def kq21 : Oper := { dst := some 50, op := Op.call { callee := Callee.value (Operand.func 23), args := #[Operand.tmp 49], argTypes := #[23] }, type := 25, pos := "outright.go:94", after := #[{ on := 20, ground := Ground.data }, { on := 18, ground := Ground.chain }], guard := none }
def kq22 : Oper := { dst := some 51, op := Op.load 25 (Operand.tmp 1), type := 25, pos := "outright.go:94", after := #[], guard := none }
def kq23 : Oper := { dst := some 52, op := Op.call { callee := Callee.value (Operand.func 26), args := #[Operand.const (Value.int IntKind.i64 2)], argTypes := #[3] }, type := 25, pos := "outright.go:94", after := #[{ on := 21, ground := Ground.chain }], guard := none }
def kq24 : Oper := { dst := some 53, op := Op.buildSlice 23 2 #[(0, Operand.tmp 51), (1, Operand.tmp 52)], type := 23, pos := "outright.go:94", after := #[{ on := 22, ground := Ground.data }, { on := 23, ground := Ground.data }], guard := none }
def kq25 : Oper := { dst := some 54, op := Op.call { callee := Callee.value (Operand.func 27), args := #[Operand.tmp 53], argTypes := #[23] }, type := 25, pos := "outright.go:94", after := #[{ on := 24, ground := Ground.data }, { on := 23, ground := Ground.chain }], guard := none }
def kq26 : Oper := { dst := some 55, op := Op.load 25 (Operand.tmp 4), type := 25, pos := "outright.go:94", after := #[], guard := none }
def kq27 : Oper := { dst := some 56, op := Op.move (Operand.tmp 2), type := 23, pos := "outright.go:94", after := #[], guard := none }
def kq28 : Oper := { dst := some 57, op := Op.call { callee := Callee.value (Operand.func 27), args := #[Operand.tmp 56], argTypes := #[23] }, type := 25, pos := "outright.go:94", after := #[{ on := 27, ground := Ground.data }, { on := 25, ground := Ground.chain }], guard := none }
def kq29 : Oper := { dst := some 58, op := Op.load 25 (Operand.tmp 4), type := 25, pos := "outright.go:94", after := #[], guard := none }
def kq30 : Oper := { dst := some 59, op := Op.load 25 (Operand.tmp 4), type := 25, pos := "outright.go:94", after := #[], guard := none }
def kq31 : Oper := { dst := some 60, op := Op.load 25 (Operand.tmp 4), type := 25, pos := "outright.go:94", after := #[], guard := none }
def kq32 : Oper := { dst := some 61, op := Op.load 25 (Operand.tmp 4), type := 25, pos := "outright.go:94", after := #[], guard := none }
def kq33 : Oper := { dst := some 62, op := Op.load 25 (Operand.tmp 4), type := 25, pos := "outright.go:94", after := #[], guard := none }
def kq34 : Oper := { dst := some 63, op := Op.load 25 (Operand.tmp 4), type := 25, pos := "outright.go:94", after := #[], guard := none }
def kq35 : Oper := { dst := some 64, op := Op.load 25 (Operand.tmp 4), type := 25, pos := "outright.go:94", after := #[], guard := none }
def kq36 : Oper := { dst := some 65, op := Op.load 25 (Operand.tmp 4), type := 25, pos := "outright.go:94", after := #[], guard := none }
def kq37 : Oper := { dst := some 66, op := Op.buildSlice 23 8 #[(0, Operand.tmp 58), (1, Operand.tmp 59), (2, Operand.tmp 60), (3, Operand.tmp 61), (4, Operand.tmp 62), (5, Operand.tmp 63), (6, Operand.tmp 64), (7, Operand.tmp 65)], type := 23, pos := "outright.go:94", after := #[{ on := 29, ground := Ground.data }, { on := 30, ground := Ground.data }, { on := 31, ground := Ground.data }, { on := 32, ground := Ground.data }, { on := 33, ground := Ground.data }, { on := 34, ground := Ground.data }, { on := 35, ground := Ground.data }, { on := 36, ground := Ground.data }], guard := none }
def kq38 : Oper := { dst := some 67, op := Op.call { callee := Callee.value (Operand.func 23), args := #[Operand.tmp 66], argTypes := #[23] }, type := 25, pos := "outright.go:94", after := #[{ on := 37, ground := Ground.data }, { on := 28, ground := Ground.chain }], guard := none }
def kq39 : Oper := { dst := some 68, op := Op.load 25 (Operand.tmp 4), type := 25, pos := "outright.go:94", after := #[], guard := none }
def kq40 : Oper := { dst := some 69, op := Op.load 25 (Operand.tmp 4), type := 25, pos := "outright.go:94", after := #[], guard := none }
def kq41 : Oper := { dst := some 70, op := Op.load 25 (Operand.tmp 4), type := 25, pos := "outright.go:94", after := #[], guard := none }
def kq42 : Oper := { dst := some 71, op := Op.load 25 (Operand.tmp 4), type := 25, pos := "outright.go:94", after := #[], guard := none }
def kq43 : Oper := { dst := some 72, op := Op.load 25 (Operand.tmp 4), type := 25, pos := "outright.go:94", after := #[], guard := none }
def kq44 : Oper := { dst := some 73, op := Op.load 25 (Operand.tmp 4), type := 25, pos := "outright.go:94", after := #[], guard := none }
def kq45 : Oper := { dst := some 74, op := Op.move (Operand.tmp 2), type := 23, pos := "outright.go:94", after := #[], guard := none }
def kq46 : Oper := { dst := some 75, op := Op.slice 23 (Operand.tmp 74) none (some (Operand.const (Value.int IntKind.i64 7))) none, type := 23, pos := "outright.go:94", after := #[{ on := 45, ground := Ground.data }], guard := none }
def kq47 : Oper := { dst := some 76, op := Op.call { callee := Callee.value (Operand.func 23), args := #[Operand.tmp 75], argTypes := #[23] }, type := 25, pos := "outright.go:94", after := #[{ on := 46, ground := Ground.data }, { on := 38, ground := Ground.chain }], guard := none }
def kq48 : Oper := { dst := some 77, op := Op.buildSlice 23 7 #[(0, Operand.tmp 68), (1, Operand.tmp 69), (2, Operand.tmp 70), (3, Operand.tmp 71), (4, Operand.tmp 72), (5, Operand.tmp 73), (6, Operand.tmp 76)], type := 23, pos := "outright.go:94", after := #[{ on := 39, ground := Ground.data }, { on := 40, ground := Ground.data }, { on := 41, ground := Ground.data }, { on := 42, ground := Ground.data }, { on := 43, ground := Ground.data }, { on := 44, ground := Ground.data }, { on := 47, ground := Ground.data }], guard := none }
def kq49 : Oper := { dst := some 78, op := Op.call { callee := Callee.value (Operand.func 23), args := #[Operand.tmp 77], argTypes := #[23] }, type := 25, pos := "outright.go:94", after := #[{ on := 48, ground := Ground.data }, { on := 47, ground := Ground.chain }], guard := none }
def kq50 : Oper := { dst := some 79, op := Op.load 25 (Operand.tmp 4), type := 25, pos := "outright.go:94", after := #[], guard := none }
def kq51 : Oper := { dst := some 80, op := Op.load 25 (Operand.tmp 4), type := 25, pos := "outright.go:94", after := #[], guard := none }
def kq52 : Oper := { dst := some 81, op := Op.load 25 (Operand.tmp 4), type := 25, pos := "outright.go:94", after := #[], guard := none }
def kq53 : Oper := { dst := some 82, op := Op.load 25 (Operand.tmp 4), type := 25, pos := "outright.go:94", after := #[], guard := none }
def kq54 : Oper := { dst := some 83, op := Op.load 25 (Operand.tmp 4), type := 25, pos := "outright.go:94", after := #[], guard := none }
def kq55 : Oper := { dst := some 84, op := Op.load 25 (Operand.tmp 4), type := 25, pos := "outright.go:94", after := #[], guard := none }
def kq56 : Oper := { dst := some 85, op := Op.load 25 (Operand.tmp 4), type := 25, pos := "outright.go:94", after := #[], guard := none }
def kq57 : Oper := { dst := some 86, op := Op.buildSlice 23 7 #[(0, Operand.tmp 79), (1, Operand.tmp 80), (2, Operand.tmp 81), (3, Operand.tmp 82), (4, Operand.tmp 83), (5, Operand.tmp 84), (6, Operand.tmp 85)], type := 23, pos := "outright.go:94", after := #[{ on := 50, ground := Ground.data }, { on := 51, ground := Ground.data }, { on := 52, ground := Ground.data }, { on := 53, ground := Ground.data }, { on := 54, ground := Ground.data }, { on := 55, ground := Ground.data }, { on := 56, ground := Ground.data }], guard := none }
def kq58 : Oper := { dst := some 87, op := Op.call { callee := Callee.value (Operand.func 23), args := #[Operand.tmp 86], argTypes := #[23] }, type := 25, pos := "outright.go:94", after := #[{ on := 57, ground := Ground.data }, { on := 49, ground := Ground.chain }], guard := none }
def kq59 : Oper := { dst := some 88, op := Op.load 25 (Operand.tmp 4), type := 25, pos := "outright.go:94", after := #[], guard := none }
def kq60 : Oper := { dst := some 89, op := Op.build 25 #[], type := 25, pos := "outright.go:94", after := #[], guard := none }
def kq61 : Oper := { dst := some 90, op := Op.buildSlice 23 2 #[(0, Operand.tmp 88), (1, Operand.tmp 89)], type := 23, pos := "outright.go:94", after := #[{ on := 59, ground := Ground.data }, { on := 60, ground := Ground.data }], guard := none }
def kq62 : Oper := { dst := some 91, op := Op.call { callee := Callee.value (Operand.func 23), args := #[Operand.tmp 90], argTypes := #[23] }, type := 25, pos := "outright.go:94", after := #[{ on := 61, ground := Ground.data }, { on := 58, ground := Ground.chain }], guard := none }
def kq63 : Oper := { dst := some 92, op := Op.build 25 #[(0, Operand.const (Value.int IntKind.u8 3)), (2, Operand.const (Value.int IntKind.i64 1)), (1, Operand.const (Value.string { data := #[110, 49, 59] }))], type := 25, pos := "outright.go:94", after := #[], guard := none }
def kq64 : Oper := { dst := some 93, op := Op.build 25 #[(0, Operand.const (Value.int IntKind.u8 1)), (2, Operand.const (Value.int IntKind.i64 1)), (1, Operand.const (Value.string { data := #[80, 110, 49, 59] }))], type := 25, pos := "outright.go:94", after := #[], guard := none }
def kq65 : Oper := { dst := some 94, op := Op.load 25 (Operand.tmp 1), type := 25, pos := "outright.go:94", after := #[], guard := none }
def kq66 : Oper := { dst := some 95, op := Op.buildSlice 23 1 #[(0, Operand.tmp 94)], type := 23, pos := "outright.go:94", after := #[{ on := 65, ground := Ground.data }], guard := none }
def kq67 : Oper := { dst := some 96, op := Op.build 25 #[(0, Operand.const (Value.int IntKind.u8 2)), (1, Operand.const (Value.string { data := #[72, 110, 49, 59] })), (3, Operand.tmp 95)], type := 25, pos := "outright.go:94", after := #[{ on := 66, ground := Ground.data }], guard := none }
def kq68 : Oper := { dst := some 97, op := Op.load 25 (Operand.tmp 1), type := 25, pos := "outright.go:94", after := #[], guard := none }
def kq69 : Oper := { dst := some 98, op := Op.buildSlice 23 1 #[(0, Operand.tmp 97)], type := 23, pos := "outright.go:94", after := #[{ on := 68, ground := Ground.data }], guard := none }
def kq70 : Oper := { dst := some 99, op := Op.build 25 #[(0, Operand.const (Value.int IntKind.u8 5)), (2, Operand.const (Value.int IntKind.i64 1)), (3, Operand.tmp 98)], type := 25, pos := "outright.go:94", after := #[{ on := 69, ground := Ground.data }], guard := none }
def kq71 : Oper := { dst := some 100, op := Op.load 25 (Operand.tmp 1), type := 25, pos := "outright.go:94", after := #[], guard := none }
def kq72 : Oper := { dst := some 101, op := Op.buildSlice 23 1 #[(0, Operand.tmp 100)], type := 23, pos := "outright.go:94", after := #[{ on := 71, ground := Ground.data }], guard := none }
def kq73 : Oper := { dst := some 102, op := Op.build 25 #[(0, Operand.const (Value.int IntKind.u8 6)), (1, Operand.const (Value.string { data := #[110, 49, 59] })), (3, Operand.tmp 101)], type := 25, pos := "outright.go:94", after := #[{ on := 72, ground := Ground.data }], guard := none }
def kq74 : Oper := { dst := some 103, op := Op.load 25 (Operand.tmp 1), type := 25, pos := "outright.go:94", after := #[], guard := none }
def kq75 : Oper := { dst := some 104, op := Op.buildSlice 23 1 #[(0, Operand.tmp 103)], type := 23, pos := "outright.go:94", after := #[{ on := 74, ground := Ground.data }], guard := none }
def kq76 : Oper := { dst := some 105, op := Op.build 25 #[(0, Operand.const (Value.int IntKind.u8 4)), (3, Operand.tmp 104)], type := 25, pos := "outright.go:94", after := #[{ on := 75, ground := Ground.data }], guard := none }
def kq77 : Oper := { dst := some 106, op := Op.call { callee := Callee.value (Operand.func 28), args := #[Operand.const (Value.int IntKind.i64 63)], argTypes := #[3] }, type := 25, pos := "outright.go:94", after := #[{ on := 62, ground := Ground.chain }], guard := none }
def kq78 : Oper := { dst := some 107, op := Op.call { callee := Callee.value (Operand.func 28), args := #[Operand.const (Value.int IntKind.i64 64)], argTypes := #[3] }, type := 25, pos := "outright.go:94", after := #[{ on := 77, ground := Ground.chain }], guard := none }
def kq79 : Oper := { dst := some 108, op := Op.call { callee := Callee.value (Operand.func 28), args := #[Operand.const (Value.int IntKind.i64 65)], argTypes := #[3] }, type := 25, pos := "outright.go:94", after := #[{ on := 78, ground := Ground.chain }], guard := none }
def kq80 : Oper := { dst := some 109, op := Op.call { callee := Callee.value (Operand.func 24), args := #[Operand.const (Value.string { data := #[80, 110, 49, 59] })], argTypes := #[22] }, type := 25, pos := "outright.go:94", after := #[{ on := 79, ground := Ground.chain }], guard := none }
def kq81 : Oper := { dst := some 110, op := Op.call { callee := Callee.value (Operand.func 25), args := #[Operand.const (Value.string { data := #[72, 110, 50, 59] })], argTypes := #[22] }, type := 25, pos := "outright.go:94", after := #[{ on := 80, ground := Ground.chain }], guard := none }
def kq82 : Oper := { dst := some 111, op := Op.call { callee := Callee.value (Operand.func 26), args := #[Operand.const (Value.int IntKind.i64 6)], argTypes := #[3] }, type := 25, pos := "outright.go:94", after := #[{ on := 81, ground := Ground.chain }], guard := none }
def kq83 : Oper := { dst := some 112, op := Op.buildSlice 23 2 #[(0, Operand.tmp 110), (1, Operand.tmp 111)], type := 23, pos := "outright.go:94", after := #[{ on := 81, ground := Ground.data }, { on := 82, ground := Ground.data }], guard := none }
def kq84 : Oper := { dst := some 113, op := Op.call { callee := Callee.value (Operand.func 23), args := #[Operand.tmp 112], argTypes := #[23] }, type := 25, pos := "outright.go:94", after := #[{ on := 83, ground := Ground.data }, { on := 82, ground := Ground.chain }], guard := none }
def kq85 : Oper := { dst := some 114, op := Op.buildSlice 23 2 #[(0, Operand.tmp 109), (1, Operand.tmp 113)], type := 23, pos := "outright.go:94", after := #[{ on := 80, ground := Ground.data }, { on := 84, ground := Ground.data }], guard := none }
def kq86 : Oper := { dst := some 115, op := Op.call { callee := Callee.value (Operand.func 27), args := #[Operand.tmp 114], argTypes := #[23] }, type := 25, pos := "outright.go:94", after := #[{ on := 85, ground := Ground.data }, { on := 84, ground := Ground.chain }], guard := none }
def kq87 : Oper := { dst := some 116, op := Op.buildSlice 23 37 #[(0, Operand.tmp 29), (1, Operand.tmp 30), (2, Operand.tmp 31), (3, Operand.tmp 32), (4, Operand.tmp 33), (5, Operand.tmp 34), (6, Operand.tmp 35), (7, Operand.tmp 36), (8, Operand.tmp 37), (9, Operand.tmp 38), (10, Operand.tmp 39), (11, Operand.tmp 40), (12, Operand.tmp 41), (13, Operand.tmp 42), (14, Operand.tmp 43), (15, Operand.tmp 44), (16, Operand.tmp 45), (17, Operand.tmp 46), (18, Operand.tmp 47), (19, Operand.tmp 50), (20, Operand.tmp 54), (21, Operand.tmp 55), (22, Operand.tmp 57), (23, Operand.tmp 67), (24, Operand.tmp 78), (25, Operand.tmp 87), (26, Operand.tmp 91), (27, Operand.tmp 92), (28, Operand.tmp 93), (29, Operand.tmp 96), (30, Operand.tmp 99), (31, Operand.tmp 102), (32, Operand.tmp 105), (33, Operand.tmp 106), (34, Operand.tmp 107), (35, Operand.tmp 108), (36, Operand.tmp 115)], type := 23, pos := "outright.go:94", after := #[{ on := 0, ground := Ground.data }, { on := 1, ground := Ground.data }, { on := 2, ground := Ground.data }, { on := 3, ground := Ground.data }, { on := 4, ground := Ground.data }, { on := 5, ground := Ground.data }, { on := 6, ground := Ground.data }, { on := 7, ground := Ground.data }, { on := 8, ground := Ground.data }, { on := 9, ground := Ground.data }, { on := 10, ground := Ground.data }, { on := 11, ground := Ground.data }, { on := 12, ground := Ground.data }, { on := 13, ground := Ground.data }, { on := 14, ground := Ground.data }, { on := 15, ground := Ground.data }, { on := 16, ground := Ground.data }, { on := 17, ground := Ground.data }, { on := 18, ground := Ground.data }, { on := 21, ground := Ground.data }, { on := 25, ground := Ground.data }, { on := 26, ground := Ground.data }, { on := 28, ground := Ground.data }, { on := 38, ground := Ground.data }, { on := 49, ground := Ground.data }, { on := 58, ground := Ground.data }, { on := 62, ground := Ground.data }, { on := 63, ground := Ground.data }, { on := 64, ground := Ground.data }, { on := 67, ground := Ground.data }, { on := 70, ground := Ground.data }, { on := 73, ground := Ground.data }, { on := 76, ground := Ground.data }, { on := 77, ground := Ground.data }, { on := 78, ground := Ground.data }, { on := 79, ground := Ground.data }, { on := 86, ground := Ground.data }], guard := none }
def kq88 : Oper := { dst := some 5, op := Op.assign (Operand.tmp 116), type := 23, pos := "outright.go:94", after := List.toArray (List.append [{ on := 87, ground := Ground.data }, { on := 86, ground := Ground.chain }, { on := 0, ground := Ground.phase }, { on := 1, ground := Ground.phase }, { on := 2, ground := Ground.phase }, { on := 3, ground := Ground.phase }, { on := 4, ground := Ground.phase }, { on := 5, ground := Ground.phase }, { on := 6, ground := Ground.phase }, { on := 7, ground := Ground.phase }, { on := 8, ground := Ground.phase }, { on := 9, ground := Ground.phase }, { on := 10, ground := Ground.phase }, { on := 11, ground := Ground.phase }, { on := 12, ground := Ground.phase }, { on := 13, ground := Ground.phase }, { on := 14, ground := Ground.phase }, { on := 15, ground := Ground.phase }, { on := 16, ground := Ground.phase }, { on := 17, ground := Ground.phase }, { on := 18, ground := Ground.phase }, { on := 19, ground := Ground.phase }, { on := 20, ground := Ground.phase }, { on := 21, ground := Ground.phase }, { on := 22, ground := Ground.phase }, { on := 23, ground := Ground.phase }, { on := 24, ground := Ground.phase }, { on := 25, ground := Ground.phase }, { on := 26, ground := Ground.phase }, { on := 27, ground := Ground.phase }, { on := 28, ground := Ground.phase }, { on := 29, ground := Ground.phase }, { on := 30, ground := Ground.phase }, { on := 31, ground := Ground.phase }, { on := 32, ground := Ground.phase }, { on := 33, ground := Ground.phase }, { on := 34, ground := Ground.phase }, { on := 35, ground := Ground.phase }, { on := 36, ground := Ground.phase }, { on := 37, ground := Ground.phase }, { on := 38, ground := Ground.phase }, { on := 39, ground := Ground.phase }, { on := 40, ground := Ground.phase }, { on := 41, ground := Ground.phase }, { on := 42, ground := Ground.phase }] [{ on := 43, ground := Ground.phase }, { on := 44, ground := Ground.phase }, { on := 45, ground := Ground.phase }, { on := 46, ground := Ground.phase }, { on := 47, ground := Ground.phase }, { on := 48, ground := Ground.phase }, { on := 49, ground := Ground.phase }, { on := 50, ground := Ground.phase }, { on := 51, ground := Ground.phase }, { on := 52, ground := Ground.phase }, { on := 53, ground := Ground.phase }, { on := 54, ground := Ground.phase }, { on := 55, ground := Ground.phase }, { on := 56, ground := Ground.phase }, { on := 57, ground := Ground.phase }, { on := 58, ground := Ground.phase }, { on := 59, ground := Ground.phase }, { on := 60, ground := Ground.phase }, { on := 61, ground := Ground.phase }, { on := 62, ground := Ground.phase }, { on := 63, ground := Ground.phase }, { on := 64, ground := Ground.phase }, { on := 65, ground := Ground.phase }, { on := 66, ground := Ground.phase }, { on := 67, ground := Ground.phase }, { on := 68, ground := Ground.phase }, { on := 69, ground := Ground.phase }, { on := 70, ground := Ground.phase }, { on := 71, ground := Ground.phase }, { on := 72, ground := Ground.phase }, { on := 73, ground := Ground.phase }, { on := 74, ground := Ground.phase }, { on := 75, ground := Ground.phase }, { on := 76, ground := Ground.phase }, { on := 77, ground := Ground.phase }, { on := 78, ground := Ground.phase }, { on := 79, ground := Ground.phase }, { on := 80, ground := Ground.phase }, { on := 81, ground := Ground.phase }, { on := 82, ground := Ground.phase }, { on := 83, ground := Ground.phase }, { on := 84, ground := Ground.phase }, { on := 85, ground := Ground.phase }, { on := 86, ground := Ground.phase }, { on := 87, ground := Ground.phase }]), guard := none }
set_option maxHeartbeats 1000000
theorem ex_load25 (a : Act) (W : World) (x : Nat) (o : Oper) (ho : o.op = .load 25 (.tmp x)) {g : Nat} {v0 v1 v2 v3 : Value} (h : gt a x = .pointer (some ⟨g, 0, none⟩)) (hb : W.heap[g]? = some (.cells #[v0, v1, v2, v3] 25 (0, 0))) : (execOp a.eval o).run Tryz.prog W = .ok (.value (.agg #[v0, v1, v2, v3])) W := by
  have hl := run_loadVar_row (P := Tryz.prog) W _ 25 25 _ (0, 0) _ hb Tryz.underlying25 rfl Tryz.size25
  have h1 := gt_eq h
  have b0 := (cell_of_heap hb 0).trans (rfl : _ = some v0)
  have b1 := (cell_of_heap hb 1).trans (rfl : _ = some v1)
  have b2 := (cell_of_heap hb 2).trans (rfl : _ = some v2)
  have b3 := (cell_of_heap hb 3).trans (rfl : _ = some v3)
  clear h hb
  simp only [execOp, ho]
  go_simp
theorem eq0 (a : Act) (W : World) : (execOp a.eval kq0).run Tryz.prog W = .ok (.value (.agg #[.int .u8 0, St [], .int .i64 0, .slice none 0 0])) W := by
  simp only [execOp, kq0]
  go_simp
theorem eq1 (a : Act) (W : World) : (execOp a.eval kq1).run Tryz.prog W = .ok (.value (.agg #[.int .u8 7, St [], .int .i64 0, .slice none 0 0])) W := by
  simp only [execOp, kq1]
  go_simp
theorem eq2 (a : Act) (W : World) : (execOp a.eval kq2).run Tryz.prog W = .ok (.enter 24 #[St [80, 110, 49, 59]]) W := by
  simp only [execOp, kq2]
  go_simp
theorem eq3 (a : Act) (W : World) : (execOp a.eval kq3).run Tryz.prog W = .ok (.enter 24 #[St [110, 49, 59]]) W := by
  simp only [execOp, kq3]
  go_simp
theorem eq4 (a : Act) (W : World) : (execOp a.eval kq4).run Tryz.prog W = .ok (.enter 24 #[St []]) W := by
  simp only [execOp, kq4]
  go_simp
theorem eq5 (a : Act) (W : World) : (execOp a.eval kq5).run Tryz.prog W = .ok (.enter 24 #[St [87, 80, 110, 49, 59, 80, 110, 50, 59]]) W := by
  simp only [execOp, kq5]
  go_simp
theorem eq6 (a : Act) (W : World) : (execOp a.eval kq6).run Tryz.prog W = .ok (.enter 24 #[St [76, 80, 110, 49, 59, 116, 48, 58]]) W := by
  simp only [execOp, kq6]
  go_simp
theorem eq7 (a : Act) (W : World) : (execOp a.eval kq7).run Tryz.prog W = .ok (.enter 24 #[St [72, 110, 49, 59]]) W := by
  simp only [execOp, kq7]
  go_simp
theorem eq8 (a : Act) (W : World) : (execOp a.eval kq8).run Tryz.prog W = .ok (.enter 25 #[St [72, 110, 49, 59]]) W := by
  simp only [execOp, kq8]
  go_simp
theorem eq9 (a : Act) (W : World) : (execOp a.eval kq9).run Tryz.prog W = .ok (.enter 25 #[St [80, 110, 49, 59]]) W := by
  simp only [execOp, kq9]
  go_simp
theorem eq10 (a : Act) (W : World) : (execOp a.eval kq10).run Tryz.prog W = .ok (.enter 25 #[St []]) W := by
  simp only [execOp, kq10]
  go_simp
theorem eq11 (a : Act) (W : World) {g : Nat} {v0 v1 v2 v3 : Value} (h : gt a 1 = .pointer (some ⟨g, 0, none⟩)) (hb : W.heap[g]? = some (.cells #[v0, v1, v2, v3] 25 (0, 0))) : (execOp a.eval kq11).run Tryz.prog W = .ok (.value (.agg #[v0, v1, v2, v3])) W := ex_load25 a W 1 kq11 rfl h hb
theorem eq12 (a : Act) (W : World) : (execOp a.eval kq12).run Tryz.prog W = .ok (.enter 22 #[.int .i64 (-1)]) W := by
  simp only [execOp, kq12]
  go_simp
theorem eq13 (a : Act) (W : World) : (execOp a.eval kq13).run Tryz.prog W = .ok (.enter 22 #[.int .i64 (1073741823)]) W := by
  simp only [execOp, kq13]
  go_simp
theorem eq14 (a : Act) (W : World) : (execOp a.eval kq14).run Tryz.prog W = .ok (.enter 22 #[.int .i64 (1073741824)]) W := by
  simp only [execOp, kq14]
  go_simp
theorem eq15 (a : Act) (W : World) : (execOp a.eval kq15).run Tryz.prog W = .ok (.enter 26 #[.int .i64 (0)]) W := by
  simp only [execOp, kq15]
  go_simp
theorem eq16 (a : Act) (W : World) : (execOp a.eval kq16).run Tryz.prog W = .ok (.enter 26 #[.int .i64 (1073741824)]) W := by
  simp only [execOp, kq16]
  go_simp
theorem eq17 (a : Act) (W : World) : (execOp a.eval kq17).run Tryz.prog W = .ok (.enter 23 #[.slice none 0 0]) W := by
  simp only [execOp, kq17]
  go_simp
theorem eq18 (a : Act) (W : World) : (execOp a.eval kq18).run Tryz.prog W = .ok (.enter 27 #[.slice none 0 0]) W := by
  simp only [execOp, kq18]
  go_simp
theorem eq19 (a : Act) (W : World) {g : Nat} {v0 v1 v2 v3 : Value} (h : gt a 1 = .pointer (some ⟨g, 0, none⟩)) (hb : W.heap[g]? = some (.cells #[v0, v1, v2, v3] 25 (0, 0))) : (execOp a.eval kq19).run Tryz.prog W = .ok (.value (.agg #[v0, v1, v2, v3])) W := ex_load25 a W 1 kq19 rfl h hb
theorem eq21 (a : Act) (W : World) {v : Value} (h : gt a 49 = v) : (execOp a.eval kq21).run Tryz.prog W = .ok (.enter 23 #[v]) W := by
  have g0 := gt_eq h
  clear h
  simp only [execOp, kq21]
  go_simp
theorem eq22 (a : Act) (W : World) {g : Nat} {v0 v1 v2 v3 : Value} (h : gt a 1 = .pointer (some ⟨g, 0, none⟩)) (hb : W.heap[g]? = some (.cells #[v0, v1, v2, v3] 25 (0, 0))) : (execOp a.eval kq22).run Tryz.prog W = .ok (.value (.agg #[v0, v1, v2, v3])) W := ex_load25 a W 1 kq22 rfl h hb
theorem eq23 (a : Act) (W : World) : (execOp a.eval kq23).run Tryz.prog W = .ok (.enter 26 #[.int .i64 (2)]) W := by
  simp only [execOp, kq23]
  go_simp
theorem eq25 (a : Act) (W : World) {v : Value} (h : gt a 53 = v) : (execOp a.eval kq25).run Tryz.prog W = .ok (.enter 27 #[v]) W := by
  have g0 := gt_eq h
  clear h
  simp only [execOp, kq25]
  go_simp
theorem eq26 (a : Act) (W : World) {g : Nat} {v0 v1 v2 v3 : Value} (h : gt a 4 = .pointer (some ⟨g, 0, none⟩)) (hb : W.heap[g]? = some (.cells #[v0, v1, v2, v3] 25 (0, 0))) : (execOp a.eval kq26).run Tryz.prog W = .ok (.value (.agg #[v0, v1, v2, v3])) W := ex_load25 a W 4 kq26 rfl h hb
theorem eq27 (a : Act) (W : World) {v : Value} (h : gt a 2 = v) : (execOp a.eval kq27).run Tryz.prog W = .ok (.value v) W := by
  have g0 := gt_eq h
  clear h
  simp only [execOp, kq27]
  go_simp
theorem eq28 (a : Act) (W : World) {v : Value} (h : gt a 56 = v) : (execOp a.eval kq28).run Tryz.prog W = .ok (.enter 27 #[v]) W := by
  have g0 := gt_eq h
  clear h
  simp only [execOp, kq28]
  go_simp
theorem eq29 (a : Act) (W : World) {g : Nat} {v0 v1 v2 v3 : Value} (h : gt a 4 = .pointer (some ⟨g, 0, none⟩)) (hb : W.heap[g]? = some (.cells #[v0, v1, v2, v3] 25 (0, 0))) : (execOp a.eval kq29).run Tryz.prog W = .ok (.value (.agg #[v0, v1, v2, v3])) W := ex_load25 a W 4 kq29 rfl h hb
theorem eq30 (a : Act) (W : World) {g : Nat} {v0 v1 v2 v3 : Value} (h : gt a 4 = .pointer (some ⟨g, 0, none⟩)) (hb : W.heap[g]? = some (.cells #[v0, v1, v2, v3] 25 (0, 0))) : (execOp a.eval kq30).run Tryz.prog W = .ok (.value (.agg #[v0, v1, v2, v3])) W := ex_load25 a W 4 kq30 rfl h hb
theorem eq31 (a : Act) (W : World) {g : Nat} {v0 v1 v2 v3 : Value} (h : gt a 4 = .pointer (some ⟨g, 0, none⟩)) (hb : W.heap[g]? = some (.cells #[v0, v1, v2, v3] 25 (0, 0))) : (execOp a.eval kq31).run Tryz.prog W = .ok (.value (.agg #[v0, v1, v2, v3])) W := ex_load25 a W 4 kq31 rfl h hb
theorem eq32 (a : Act) (W : World) {g : Nat} {v0 v1 v2 v3 : Value} (h : gt a 4 = .pointer (some ⟨g, 0, none⟩)) (hb : W.heap[g]? = some (.cells #[v0, v1, v2, v3] 25 (0, 0))) : (execOp a.eval kq32).run Tryz.prog W = .ok (.value (.agg #[v0, v1, v2, v3])) W := ex_load25 a W 4 kq32 rfl h hb
theorem eq33 (a : Act) (W : World) {g : Nat} {v0 v1 v2 v3 : Value} (h : gt a 4 = .pointer (some ⟨g, 0, none⟩)) (hb : W.heap[g]? = some (.cells #[v0, v1, v2, v3] 25 (0, 0))) : (execOp a.eval kq33).run Tryz.prog W = .ok (.value (.agg #[v0, v1, v2, v3])) W := ex_load25 a W 4 kq33 rfl h hb
theorem eq34 (a : Act) (W : World) {g : Nat} {v0 v1 v2 v3 : Value} (h : gt a 4 = .pointer (some ⟨g, 0, none⟩)) (hb : W.heap[g]? = some (.cells #[v0, v1, v2, v3] 25 (0, 0))) : (execOp a.eval kq34).run Tryz.prog W = .ok (.value (.agg #[v0, v1, v2, v3])) W := ex_load25 a W 4 kq34 rfl h hb
theorem eq35 (a : Act) (W : World) {g : Nat} {v0 v1 v2 v3 : Value} (h : gt a 4 = .pointer (some ⟨g, 0, none⟩)) (hb : W.heap[g]? = some (.cells #[v0, v1, v2, v3] 25 (0, 0))) : (execOp a.eval kq35).run Tryz.prog W = .ok (.value (.agg #[v0, v1, v2, v3])) W := ex_load25 a W 4 kq35 rfl h hb
theorem eq36 (a : Act) (W : World) {g : Nat} {v0 v1 v2 v3 : Value} (h : gt a 4 = .pointer (some ⟨g, 0, none⟩)) (hb : W.heap[g]? = some (.cells #[v0, v1, v2, v3] 25 (0, 0))) : (execOp a.eval kq36).run Tryz.prog W = .ok (.value (.agg #[v0, v1, v2, v3])) W := ex_load25 a W 4 kq36 rfl h hb
theorem eq38 (a : Act) (W : World) {v : Value} (h : gt a 66 = v) : (execOp a.eval kq38).run Tryz.prog W = .ok (.enter 23 #[v]) W := by
  have g0 := gt_eq h
  clear h
  simp only [execOp, kq38]
  go_simp
theorem eq39 (a : Act) (W : World) {g : Nat} {v0 v1 v2 v3 : Value} (h : gt a 4 = .pointer (some ⟨g, 0, none⟩)) (hb : W.heap[g]? = some (.cells #[v0, v1, v2, v3] 25 (0, 0))) : (execOp a.eval kq39).run Tryz.prog W = .ok (.value (.agg #[v0, v1, v2, v3])) W := ex_load25 a W 4 kq39 rfl h hb
theorem eq40 (a : Act) (W : World) {g : Nat} {v0 v1 v2 v3 : Value} (h : gt a 4 = .pointer (some ⟨g, 0, none⟩)) (hb : W.heap[g]? = some (.cells #[v0, v1, v2, v3] 25 (0, 0))) : (execOp a.eval kq40).run Tryz.prog W = .ok (.value (.agg #[v0, v1, v2, v3])) W := ex_load25 a W 4 kq40 rfl h hb
theorem eq41 (a : Act) (W : World) {g : Nat} {v0 v1 v2 v3 : Value} (h : gt a 4 = .pointer (some ⟨g, 0, none⟩)) (hb : W.heap[g]? = some (.cells #[v0, v1, v2, v3] 25 (0, 0))) : (execOp a.eval kq41).run Tryz.prog W = .ok (.value (.agg #[v0, v1, v2, v3])) W := ex_load25 a W 4 kq41 rfl h hb
theorem eq42 (a : Act) (W : World) {g : Nat} {v0 v1 v2 v3 : Value} (h : gt a 4 = .pointer (some ⟨g, 0, none⟩)) (hb : W.heap[g]? = some (.cells #[v0, v1, v2, v3] 25 (0, 0))) : (execOp a.eval kq42).run Tryz.prog W = .ok (.value (.agg #[v0, v1, v2, v3])) W := ex_load25 a W 4 kq42 rfl h hb
theorem eq43 (a : Act) (W : World) {g : Nat} {v0 v1 v2 v3 : Value} (h : gt a 4 = .pointer (some ⟨g, 0, none⟩)) (hb : W.heap[g]? = some (.cells #[v0, v1, v2, v3] 25 (0, 0))) : (execOp a.eval kq43).run Tryz.prog W = .ok (.value (.agg #[v0, v1, v2, v3])) W := ex_load25 a W 4 kq43 rfl h hb
theorem eq44 (a : Act) (W : World) {g : Nat} {v0 v1 v2 v3 : Value} (h : gt a 4 = .pointer (some ⟨g, 0, none⟩)) (hb : W.heap[g]? = some (.cells #[v0, v1, v2, v3] 25 (0, 0))) : (execOp a.eval kq44).run Tryz.prog W = .ok (.value (.agg #[v0, v1, v2, v3])) W := ex_load25 a W 4 kq44 rfl h hb
theorem eq45 (a : Act) (W : World) {v : Value} (h : gt a 2 = v) : (execOp a.eval kq45).run Tryz.prog W = .ok (.value v) W := by
  have g0 := gt_eq h
  clear h
  simp only [execOp, kq45]
  go_simp
theorem eq46 (a : Act) (W : World) {g c : Nat} (h : gt a 74 = .slice (some ⟨g, 0, none⟩) 9 c) (hc : 9 ≤ c) : (execOp a.eval kq46).run Tryz.prog W = .ok (.value (.slice (some ⟨g, 0, none⟩) 7 c)) W := by
  have g0 := gt_eq h
  clear h
  simp only [execOp, kq46]
  go_simp
  exact fun h => absurd h (by omega)
theorem eq47 (a : Act) (W : World) {v : Value} (h : gt a 75 = v) : (execOp a.eval kq47).run Tryz.prog W = .ok (.enter 23 #[v]) W := by
  have g0 := gt_eq h
  clear h
  simp only [execOp, kq47]
  go_simp
theorem eq49 (a : Act) (W : World) {v : Value} (h : gt a 77 = v) : (execOp a.eval kq49).run Tryz.prog W = .ok (.enter 23 #[v]) W := by
  have g0 := gt_eq h
  clear h
  simp only [execOp, kq49]
  go_simp
theorem eq50 (a : Act) (W : World) {g : Nat} {v0 v1 v2 v3 : Value} (h : gt a 4 = .pointer (some ⟨g, 0, none⟩)) (hb : W.heap[g]? = some (.cells #[v0, v1, v2, v3] 25 (0, 0))) : (execOp a.eval kq50).run Tryz.prog W = .ok (.value (.agg #[v0, v1, v2, v3])) W := ex_load25 a W 4 kq50 rfl h hb
theorem eq51 (a : Act) (W : World) {g : Nat} {v0 v1 v2 v3 : Value} (h : gt a 4 = .pointer (some ⟨g, 0, none⟩)) (hb : W.heap[g]? = some (.cells #[v0, v1, v2, v3] 25 (0, 0))) : (execOp a.eval kq51).run Tryz.prog W = .ok (.value (.agg #[v0, v1, v2, v3])) W := ex_load25 a W 4 kq51 rfl h hb
theorem eq52 (a : Act) (W : World) {g : Nat} {v0 v1 v2 v3 : Value} (h : gt a 4 = .pointer (some ⟨g, 0, none⟩)) (hb : W.heap[g]? = some (.cells #[v0, v1, v2, v3] 25 (0, 0))) : (execOp a.eval kq52).run Tryz.prog W = .ok (.value (.agg #[v0, v1, v2, v3])) W := ex_load25 a W 4 kq52 rfl h hb
theorem eq53 (a : Act) (W : World) {g : Nat} {v0 v1 v2 v3 : Value} (h : gt a 4 = .pointer (some ⟨g, 0, none⟩)) (hb : W.heap[g]? = some (.cells #[v0, v1, v2, v3] 25 (0, 0))) : (execOp a.eval kq53).run Tryz.prog W = .ok (.value (.agg #[v0, v1, v2, v3])) W := ex_load25 a W 4 kq53 rfl h hb
theorem eq54 (a : Act) (W : World) {g : Nat} {v0 v1 v2 v3 : Value} (h : gt a 4 = .pointer (some ⟨g, 0, none⟩)) (hb : W.heap[g]? = some (.cells #[v0, v1, v2, v3] 25 (0, 0))) : (execOp a.eval kq54).run Tryz.prog W = .ok (.value (.agg #[v0, v1, v2, v3])) W := ex_load25 a W 4 kq54 rfl h hb
theorem eq55 (a : Act) (W : World) {g : Nat} {v0 v1 v2 v3 : Value} (h : gt a 4 = .pointer (some ⟨g, 0, none⟩)) (hb : W.heap[g]? = some (.cells #[v0, v1, v2, v3] 25 (0, 0))) : (execOp a.eval kq55).run Tryz.prog W = .ok (.value (.agg #[v0, v1, v2, v3])) W := ex_load25 a W 4 kq55 rfl h hb
theorem eq56 (a : Act) (W : World) {g : Nat} {v0 v1 v2 v3 : Value} (h : gt a 4 = .pointer (some ⟨g, 0, none⟩)) (hb : W.heap[g]? = some (.cells #[v0, v1, v2, v3] 25 (0, 0))) : (execOp a.eval kq56).run Tryz.prog W = .ok (.value (.agg #[v0, v1, v2, v3])) W := ex_load25 a W 4 kq56 rfl h hb
theorem eq58 (a : Act) (W : World) {v : Value} (h : gt a 86 = v) : (execOp a.eval kq58).run Tryz.prog W = .ok (.enter 23 #[v]) W := by
  have g0 := gt_eq h
  clear h
  simp only [execOp, kq58]
  go_simp
theorem eq59 (a : Act) (W : World) {g : Nat} {v0 v1 v2 v3 : Value} (h : gt a 4 = .pointer (some ⟨g, 0, none⟩)) (hb : W.heap[g]? = some (.cells #[v0, v1, v2, v3] 25 (0, 0))) : (execOp a.eval kq59).run Tryz.prog W = .ok (.value (.agg #[v0, v1, v2, v3])) W := ex_load25 a W 4 kq59 rfl h hb
theorem eq60 (a : Act) (W : World) : (execOp a.eval kq60).run Tryz.prog W = .ok (.value (.agg #[.int .u8 0, St [], .int .i64 0, .slice none 0 0])) W := by
  simp only [execOp, kq60]
  go_simp
theorem eq62 (a : Act) (W : World) {v : Value} (h : gt a 90 = v) : (execOp a.eval kq62).run Tryz.prog W = .ok (.enter 23 #[v]) W := by
  have g0 := gt_eq h
  clear h
  simp only [execOp, kq62]
  go_simp
theorem eq63 (a : Act) (W : World) : (execOp a.eval kq63).run Tryz.prog W = .ok (.value (.agg #[.int .u8 3, St [110, 49, 59], .int .i64 1, .slice none 0 0])) W := by
  simp only [execOp, kq63]
  go_simp
theorem eq64 (a : Act) (W : World) : (execOp a.eval kq64).run Tryz.prog W = .ok (.value (.agg #[.int .u8 1, St [80, 110, 49, 59], .int .i64 1, .slice none 0 0])) W := by
  simp only [execOp, kq64]
  go_simp
theorem eq65 (a : Act) (W : World) {g : Nat} {v0 v1 v2 v3 : Value} (h : gt a 1 = .pointer (some ⟨g, 0, none⟩)) (hb : W.heap[g]? = some (.cells #[v0, v1, v2, v3] 25 (0, 0))) : (execOp a.eval kq65).run Tryz.prog W = .ok (.value (.agg #[v0, v1, v2, v3])) W := ex_load25 a W 1 kq65 rfl h hb
theorem eq67 (a : Act) (W : World) {ao : Option Addr} {n c : Nat} (h : gt a 95 = .slice ao n c) : (execOp a.eval kq67).run Tryz.prog W = .ok (.value (.agg #[.int .u8 2, St [72, 110, 49, 59], .int .i64 0, .slice ao n c])) W := by
  have g0 := gt_eq h
  clear h
  simp only [execOp, kq67]
  go_simp
theorem eq68 (a : Act) (W : World) {g : Nat} {v0 v1 v2 v3 : Value} (h : gt a 1 = .pointer (some ⟨g, 0, none⟩)) (hb : W.heap[g]? = some (.cells #[v0, v1, v2, v3] 25 (0, 0))) : (execOp a.eval kq68).run Tryz.prog W = .ok (.value (.agg #[v0, v1, v2, v3])) W := ex_load25 a W 1 kq68 rfl h hb
theorem eq70 (a : Act) (W : World) {ao : Option Addr} {n c : Nat} (h : gt a 98 = .slice ao n c) : (execOp a.eval kq70).run Tryz.prog W = .ok (.value (.agg #[.int .u8 5, St [], .int .i64 1, .slice ao n c])) W := by
  have g0 := gt_eq h
  clear h
  simp only [execOp, kq70]
  go_simp
theorem eq71 (a : Act) (W : World) {g : Nat} {v0 v1 v2 v3 : Value} (h : gt a 1 = .pointer (some ⟨g, 0, none⟩)) (hb : W.heap[g]? = some (.cells #[v0, v1, v2, v3] 25 (0, 0))) : (execOp a.eval kq71).run Tryz.prog W = .ok (.value (.agg #[v0, v1, v2, v3])) W := ex_load25 a W 1 kq71 rfl h hb
theorem eq73 (a : Act) (W : World) {ao : Option Addr} {n c : Nat} (h : gt a 101 = .slice ao n c) : (execOp a.eval kq73).run Tryz.prog W = .ok (.value (.agg #[.int .u8 6, St [110, 49, 59], .int .i64 0, .slice ao n c])) W := by
  have g0 := gt_eq h
  clear h
  simp only [execOp, kq73]
  go_simp
theorem eq74 (a : Act) (W : World) {g : Nat} {v0 v1 v2 v3 : Value} (h : gt a 1 = .pointer (some ⟨g, 0, none⟩)) (hb : W.heap[g]? = some (.cells #[v0, v1, v2, v3] 25 (0, 0))) : (execOp a.eval kq74).run Tryz.prog W = .ok (.value (.agg #[v0, v1, v2, v3])) W := ex_load25 a W 1 kq74 rfl h hb
theorem eq76 (a : Act) (W : World) {ao : Option Addr} {n c : Nat} (h : gt a 104 = .slice ao n c) : (execOp a.eval kq76).run Tryz.prog W = .ok (.value (.agg #[.int .u8 4, St [], .int .i64 0, .slice ao n c])) W := by
  have g0 := gt_eq h
  clear h
  simp only [execOp, kq76]
  go_simp
theorem eq77 (a : Act) (W : World) : (execOp a.eval kq77).run Tryz.prog W = .ok (.enter 28 #[.int .i64 (63)]) W := by
  simp only [execOp, kq77]
  go_simp
theorem eq78 (a : Act) (W : World) : (execOp a.eval kq78).run Tryz.prog W = .ok (.enter 28 #[.int .i64 (64)]) W := by
  simp only [execOp, kq78]
  go_simp
theorem eq79 (a : Act) (W : World) : (execOp a.eval kq79).run Tryz.prog W = .ok (.enter 28 #[.int .i64 (65)]) W := by
  simp only [execOp, kq79]
  go_simp
theorem eq80 (a : Act) (W : World) : (execOp a.eval kq80).run Tryz.prog W = .ok (.enter 24 #[St [80, 110, 49, 59]]) W := by
  simp only [execOp, kq80]
  go_simp
theorem eq81 (a : Act) (W : World) : (execOp a.eval kq81).run Tryz.prog W = .ok (.enter 25 #[St [72, 110, 50, 59]]) W := by
  simp only [execOp, kq81]
  go_simp
theorem eq82 (a : Act) (W : World) : (execOp a.eval kq82).run Tryz.prog W = .ok (.enter 26 #[.int .i64 (6)]) W := by
  simp only [execOp, kq82]
  go_simp
theorem eq84 (a : Act) (W : World) {v : Value} (h : gt a 112 = v) : (execOp a.eval kq84).run Tryz.prog W = .ok (.enter 23 #[v]) W := by
  have g0 := gt_eq h
  clear h
  simp only [execOp, kq84]
  go_simp
theorem eq86 (a : Act) (W : World) {v : Value} (h : gt a 114 = v) : (execOp a.eval kq86).run Tryz.prog W = .ok (.enter 27 #[v]) W := by
  have g0 := gt_eq h
  clear h
  simp only [execOp, kq86]
  go_simp
theorem eq88 (a : Act) (W : World) {v : Value} (h : gt a 116 = v) : (execOp a.eval kq88).run Tryz.prog W = .ok (.value v) W := by
  have g0 := gt_eq h
  clear h
  simp only [execOp, kq88]
  go_simp
end Go.Proofs.YtdllpklecdmghaaGreatDoor
