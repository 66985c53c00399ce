/- LockKnown: behind its locks. -/
import Derived.Test.YtdllpklecdmghaaGreatDoorDkVAll
import Derived.Sort.AtCall
namespace Go.Proofs.YtdllpklecdmghaaGreatDoor
open Go.RowKit
open Lk (Lt)
set_option maxRecDepth 100000 in
set_option maxHeartbeats 16000000 in
theorem rest_any (a : Act) (h1 : a.tmps.size = 323) (h2 : a.defers = []) (w W9 wr : World) (HB9 : Hid (Below w.heap.size w W9)) (HPW : Hid (∀ W, Below W9.heap.size W9 W → Pw W)) (HBI : Hid (Below W9.heap.size W9 wr)) :
    Code.wp Tryz.prog (.seq (.seq (.region 28 #[{ dst := some 268, op := .buildSlice 49 24 #[(0, .const (.string { data := #[] })), (1, .const (.string { data := #[97, 48, 55, 59] })), (2, .const (.string { data := #[97, 59] })), (3, .const (.string { data := #[97, 45, 49, 59] })), (4, .const (.string { data := #[97, 49, 48, 55, 51, 55, 52, 49, 56, 50, 51, 59] })), (5, .const (.string { data := #[97, 49, 48, 55, 51, 55, 52, 49, 56, 50, 52, 59] })), (6, .const (.string { data := #[97, 57, 57, 57, 57, 57, 57, 57, 57, 57, 57, 57, 59] })), (7, .const (.string { data := #[38, 48, 58] })), (8, .const (.string { data := #[38, 49, 58] })), (9, .const (.string { data := #[38, 57, 58, 97, 49, 59, 97, 49, 59, 97, 49, 59, 97, 49, 59, 97, 49, 59, 97, 49, 59, 97, 49, 59, 97, 49, 59, 97, 49, 59] })), (10, .const (.string { data := #[38, 48, 49, 58, 97, 49, 59] })), (11, .const (.string { data := #[115, 110, 49, 59] })), (12, .const (.string { data := #[112, 80, 110, 49, 59] })), (13, .const (.string { data := #[97, 49, 59, 97, 50, 59] })), (14, .const (.string { data := #[115] })), (15, .const (.string { data := #[115, 80, 110] })), (16, .const (.string { data := #[112, 72, 116, 49, 58, 97] })), (17, .const (.string { data := #[112, 72, 84, 49, 58, 116, 50, 58, 38, 124] })), (18, .const (.string { data := #[124, 50, 58, 112, 72, 84, 50, 58, 110, 49, 59, 116, 48, 58, 111, 49, 59] })), (19, .const (.string { data := #[120] })), (20, .const (.string { data := #[38, 49, 58, 38, 49, 58] })), (21, .const (.string { data := #[111, 48, 59] })), (22, .const (.string { data := #[115, 80, 84, 49, 58] })), (23, .const (.string { data := #[38, 50, 58, 97, 49, 59] }))], type := 49, pos := "outright.go:115", after := #[], guard := none }, { dst := some 269, op := .call { callee := .builtin .len, args := #[.tmp 268], argTypes := #[49] }, type := 3, pos := "outright.go:115", after := #[⟨0, .data⟩], guard := none }, { dst := some 270, op := .move (.const (.int .i64 0)), type := 3, pos := "outright.go:115", after := #[], guard := none }] false) (.block 8 (.loop (.seq (.region 29 #[{ dst := some 271, op := .binOp .lss 3 (.tmp 270) (.tmp 269) 3, type := 0, pos := "outright.go:115", after := #[], guard := none }] false) (.seq (.cond (.tmp 271) .skip (.exit 8)) (.seq (.block 9 (.seq (.region 30 #[{ dst := some 272, op := .indexAddr 49 (.tmp 268) (.tmp 270), type := 0, pos := "outright.go:115", after := #[], guard := none }, { dst := some 273, op := .load 9 (.tmp 272), type := 9, pos := "outright.go:115", after := #[⟨0, .data⟩], guard := none }, { dst := some 13, op := .assign (.tmp 273), type := 9, pos := "outright.go:115", after := #[⟨1, .data⟩, ⟨0, .phase⟩, ⟨1, .phase⟩], guard := none }] false) (.seq (.region 31 #[{ dst := some 274, op := .move (.tmp 13), type := 9, pos := "outright.go:116", after := #[], guard := none }, { dst := some 275, op := .call { callee := .value (.func 4), args := #[.tmp 274], argTypes := #[9] }, type := 4, pos := "outright.go:116", after := #[⟨0, .data⟩], guard := none }, { dst := some 276, op := .unOp .not 4 (.tmp 275), type := 4, pos := "outright.go:116", after := #[⟨1, .data⟩], guard := none }] false) (.cond (.tmp 276) (.seq (.region 32 #[{ dst := some 0, op := .assign (.const (.bool false)), type := 4, pos := "outright.go:117", after := #[], guard := none }] false) .ret) .skip)))) (.region 33 #[{ dst := some 277, op := .binOp .add 3 (.tmp 270) (.const (.int .i64 1)) 3, type := 3, pos := "outright.go:115", after := #[], guard := none }, { dst := some 270, op := .move (.tmp 277), type := 3, pos := "outright.go:115", after := #[⟨0, .data⟩], guard := none }] false))))))) (.seq (.region 34 #[{ dst := some 14, op := .alloc 40, type := 0, pos := "outright.go:120", after := #[], guard := none }] false) (.seq (.seq (.region 35 #[{ dst := some 15, op := .assign (.const (.int .i64 0)), type := 3, pos := "outright.go:121", after := #[], guard := none }] false) (.block 10 (.loop (.seq (.seq (.region 36 #[{ dst := some 278, op := .move (.tmp 15), type := 3, pos := "outright.go:121", after := #[], guard := none }, { dst := some 279, op := .binOp .lss 3 (.tmp 278) (.const (.int .i64 17)) 3, type := 4, pos := "outright.go:121", after := #[⟨0, .data⟩], guard := none }] false) (.cond (.tmp 279) .skip (.exit 10))) (.seq (.block 11 (.region 38 #[{ dst := some 282, op := .fieldAddr 40 (.tmp 14) 0, type := 0, pos := "outright.go:122", after := #[], guard := none }, { dst := some 283, op := .load 32 (.tmp 282), type := 32, pos := "outright.go:122", after := #[⟨0, .data⟩], guard := none }, { dst := some 284, op := .buildSlice 32 1 #[(0, .const (.string { data := #[83, 110, 49, 59, 116, 49, 58, 120] }))], type := 32, pos := "outright.go:122", after := #[], guard := none }, { dst := some 285, op := .call { callee := .builtin .append, args := #[.tmp 283, .tmp 284], argTypes := #[32, 32] }, type := 32, pos := "outright.go:122", after := #[⟨1, .data⟩, ⟨2, .data⟩], guard := none }, { dst := some 286, op := .fieldAddr 40 (.tmp 14) 0, type := 0, pos := "outright.go:122", after := #[⟨0, .phase⟩, ⟨1, .phase⟩, ⟨2, .phase⟩, ⟨3, .phase⟩], guard := none }, { dst := none, op := .store 32 (.tmp 286) (.tmp 285), type := 0, pos := "outright.go:122", after := #[⟨4, .data⟩, ⟨3, .data⟩, ⟨3, .chain⟩, ⟨0, .phase⟩, ⟨1, .phase⟩, ⟨2, .phase⟩, ⟨3, .phase⟩], guard := none }] false)) (.region 37 #[{ dst := some 280, op := .move (.tmp 15), type := 3, pos := "outright.go:121", after := #[], guard := none }, { dst := some 281, op := .binOp .add 3 (.tmp 280) (.const (.int .i64 1)) 3, type := 3, pos := "outright.go:121", after := #[⟨0, .data⟩], guard := none }, { dst := some 15, op := .assign (.tmp 281), type := 3, pos := "outright.go:121", after := #[⟨1, .data⟩, ⟨0, .phase⟩, ⟨1, .phase⟩], guard := none }] false)))))) (.seq (.region 39 #[{ dst := some 287, op := .fieldAddr 40 (.tmp 14) 0, type := 0, pos := "outright.go:124", after := #[], guard := none }, { dst := some 288, op := .load 32 (.tmp 287), type := 32, pos := "outright.go:124", after := #[⟨0, .data⟩], guard := none }, { dst := some 289, op := .slice 32 (.tmp 288) none (some (.const (.int .i64 16))) none, type := 32, pos := "outright.go:124", after := #[⟨1, .data⟩], guard := none }, { dst := some 290, op := .build 40 #[(0, .tmp 289)], type := 40, pos := "outright.go:124", after := #[⟨2, .data⟩], guard := none }, { dst := some 16, op := .alloc 40, type := 0, pos := "outright.go:124", after := #[], guard := none }, { dst := none, op := .store 40 (.tmp 16) (.tmp 290), type := 0, pos := "outright.go:124", after := #[⟨4, .data⟩, ⟨3, .data⟩, ⟨0, .phase⟩, ⟨1, .phase⟩, ⟨2, .phase⟩, ⟨3, .phase⟩, ⟨4, .phase⟩], guard := none }] false) (.seq (.region 40 #[{ dst := some 291, op := .call { callee := .value (.func 24), args := #[.const (.string { data := #[80, 110, 49, 59] })], argTypes := #[22] }, type := 25, pos := "outright.go:125", after := #[], guard := none }, { dst := some 292, op := .load 40 (.tmp 14), type := 40, pos := "outright.go:125", after := #[], guard := none }, { dst := some 293, op := .call { callee := .value (.func 5), args := #[.tmp 291, .tmp 292, .const (.string { data := #[116, 49, 58, 120] }), .const (.int .i64 0), .const (.int .i64 0)], argTypes := #[25, 40, 22, 3, 3] }, type := 4, pos := "outright.go:125", after := #[⟨0, .data⟩, ⟨1, .data⟩, ⟨0, .chain⟩], guard := none }, { dst := some 294, op := .move (.tmp 293), type := 4, pos := "outright.go:125", after := #[⟨2, .data⟩, ⟨2, .chain⟩], guard := none }, { dst := some 295, op := .call { callee := .value (.func 24), args := #[.const (.string { data := #[80, 110, 49, 59] })], argTypes := #[22] }, type := 25, pos := "outright.go:125", after := #[⟨3, .chain⟩, ⟨3, .guard⟩], guard := some (3, true) }, { dst := some 296, op := .load 40 (.tmp 16), type := 40, pos := "outright.go:125", after := #[⟨3, .guard⟩], guard := some (3, true) }, { dst := some 297, op := .call { callee := .value (.func 5), args := #[.tmp 295, .tmp 296, .const (.string { data := #[116, 49, 58, 120] }), .const (.int .i64 0), .const (.int .i64 0)], argTypes := #[25, 40, 22, 3, 3] }, type := 4, pos := "outright.go:125", after := #[⟨4, .data⟩, ⟨5, .data⟩, ⟨4, .chain⟩, ⟨3, .guard⟩], guard := some (3, true) }, { dst := some 298, op := .pick (.tmp 294) (.tmp 297) (.const (.bool false)), type := 4, pos := "outright.go:125", after := #[⟨3, .data⟩, ⟨6, .data⟩], guard := none }, { dst := some 299, op := .move (.tmp 298), type := 4, pos := "outright.go:125", after := #[⟨7, .data⟩, ⟨6, .chain⟩], guard := none }, { dst := some 300, op := .call { callee := .value (.func 24), args := #[.const (.string { data := #[80, 110, 49, 59] })], argTypes := #[22] }, type := 25, pos := "outright.go:125", after := #[⟨8, .chain⟩, ⟨8, .guard⟩], guard := some (8, true) }, { dst := some 301, op := .fieldAddr 40 (.tmp 16) 0, type := 0, pos := "outright.go:125", after := #[⟨8, .guard⟩], guard := some (8, true) }, { dst := some 302, op := .load 32 (.tmp 301), type := 32, pos := "outright.go:125", after := #[⟨10, .data⟩, ⟨8, .guard⟩], guard := some (8, true) }, { dst := some 303, op := .fieldAddr 40 (.tmp 14) 0, type := 0, pos := "outright.go:125", after := #[⟨8, .guard⟩], guard := some (8, true) }, { dst := some 304, op := .load 32 (.tmp 303), type := 32, pos := "outright.go:125", after := #[⟨12, .data⟩, ⟨8, .guard⟩], guard := some (8, true) }, { dst := some 305, op := .build 40 #[(0, .tmp 302), (1, .tmp 304)], type := 40, pos := "outright.go:125", after := #[⟨11, .data⟩, ⟨13, .data⟩, ⟨8, .guard⟩], guard := some (8, true) }, { dst := some 306, op := .call { callee := .value (.func 5), args := #[.tmp 300, .tmp 305, .const (.string { data := #[116, 49, 58, 120] }), .const (.int .i64 0), .const (.int .i64 0)], argTypes := #[25, 40, 22, 3, 3] }, type := 4, pos := "outright.go:125", after := #[⟨9, .data⟩, ⟨14, .data⟩, ⟨9, .chain⟩, ⟨8, .guard⟩], guard := some (8, true) }, { dst := some 307, op := .pick (.tmp 299) (.tmp 306) (.const (.bool false)), type := 4, pos := "outright.go:125", after := #[⟨8, .data⟩, ⟨15, .data⟩], guard := none }, { dst := some 308, op := .move (.tmp 307), type := 4, pos := "outright.go:125", after := #[⟨16, .data⟩, ⟨15, .chain⟩], guard := none }, { dst := some 309, op := .buildSlice 32 1 #[(0, .const (.string { data := #[83, 110, 49, 59, 116, 49, 58, 109] }))], type := 32, pos := "outright.go:125", after := #[⟨17, .guard⟩], guard := some (17, true) }, { dst := some 310, op := .buildSlice 32 1 #[(0, .const (.string { data := #[110, 50, 59] }))], type := 32, pos := "outright.go:125", after := #[⟨17, .guard⟩], guard := some (17, true) }, { dst := some 311, op := .build 40 #[(0, .tmp 309), (1, .tmp 310)], type := 40, pos := "outright.go:125", after := #[⟨18, .data⟩, ⟨19, .data⟩, ⟨17, .guard⟩], guard := some (17, true) }, { dst := some 312, op := .call { callee := .value (.func 32), args := #[.const (.int .i64 0), .const (.int .i64 1), .const (.int .i64 9), .tmp 311, .const (.int .i64 9), .const (.int .i64 4)], argTypes := #[3, 3, 3, 40, 3, 3] }, type := 4, pos := "outright.go:125", after := #[⟨20, .data⟩, ⟨17, .chain⟩, ⟨17, .guard⟩], guard := some (17, true) }, { dst := some 313, op := .pick (.tmp 308) (.tmp 312) (.const (.bool false)), type := 4, pos := "outright.go:125", after := #[⟨17, .data⟩, ⟨21, .data⟩], guard := none }, { dst := some 314, op := .move (.tmp 313), type := 4, pos := "outright.go:125", after := #[⟨22, .data⟩, ⟨21, .chain⟩], guard := none }, { dst := some 315, op := .buildSlice 32 1 #[(0, .const (.string { data := #[83, 110, 49, 59, 116, 49, 58, 109] }))], type := 32, pos := "outright.go:125", after := #[⟨23, .guard⟩], guard := some (23, true) }, { dst := some 316, op := .buildSlice 32 1 #[(0, .const (.string { data := #[110, 50, 59] }))], type := 32, pos := "outright.go:125", after := #[⟨23, .guard⟩], guard := some (23, true) }, { dst := some 317, op := .build 40 #[(0, .tmp 315), (1, .tmp 316)], type := 40, pos := "outright.go:125", after := #[⟨24, .data⟩, ⟨25, .data⟩, ⟨23, .guard⟩], guard := some (23, true) }, { dst := some 318, op := .call { callee := .value (.func 32), args := #[.const (.int .i64 0), .const (.int .i64 1), .const (.int .i64 9), .tmp 317, .const (.int .i64 8), .const (.int .i64 4)], argTypes := #[3, 3, 3, 40, 3, 3] }, type := 4, pos := "outright.go:125", after := #[⟨26, .data⟩, ⟨23, .chain⟩, ⟨23, .guard⟩], guard := some (23, true) }, { dst := some 319, op := .pick (.tmp 314) (.tmp 318) (.const (.bool false)), type := 4, pos := "outright.go:125", after := #[⟨23, .data⟩, ⟨27, .data⟩], guard := none }, { dst := some 320, op := .move (.tmp 319), type := 4, pos := "outright.go:125", after := #[⟨28, .data⟩, ⟨27, .chain⟩], guard := none }, { dst := some 321, op := .call { callee := .value (.func 15), args := #[], argTypes := #[] }, type := 4, pos := "outright.go:125", after := #[⟨29, .chain⟩, ⟨29, .guard⟩], guard := some (29, true) }, { dst := some 322, op := .pick (.tmp 320) (.tmp 321) (.const (.bool false)), type := 4, pos := "outright.go:125", after := #[⟨29, .data⟩, ⟨30, .data⟩], guard := none }, { dst := some 0, op := .assign (.tmp 322), type := 4, pos := "outright.go:125", after := #[⟨31, .data⟩, ⟨30, .chain⟩, ⟨0, .phase⟩, ⟨1, .phase⟩, ⟨2, .phase⟩, ⟨3, .phase⟩, ⟨4, .phase⟩, ⟨5, .phase⟩, ⟨6, .phase⟩, ⟨7, .phase⟩, ⟨8, .phase⟩, ⟨9, .phase⟩, ⟨10, .phase⟩, ⟨11, .phase⟩, ⟨12, .phase⟩, ⟨13, .phase⟩, ⟨14, .phase⟩, ⟨15, .phase⟩, ⟨16, .phase⟩, ⟨17, .phase⟩, ⟨18, .phase⟩, ⟨19, .phase⟩, ⟨20, .phase⟩, ⟨21, .phase⟩, ⟨22, .phase⟩, ⟨23, .phase⟩, ⟨24, .phase⟩, ⟨25, .phase⟩, ⟨26, .phase⟩, ⟨27, .phase⟩, ⟨28, .phase⟩, ⟨29, .phase⟩, ⟨30, .phase⟩, ⟨31, .phase⟩], guard := none }] true) .ret))))) (bodyPost Tryz.prog Tryz.f6 fun e w' => e = .returned (.bool true) ∧ Below w.heap.size w w') a wr := by
  obtain ⟨s, -, ha⟩ := act_lit a h1
  rw [h2] at ha
  clear h1 h2
  subst ha
  have HRD : Hid (∀ (D : ByteArray), D.size ≤ 140737488355328 → ∀ W, Below W9.heap.size W9 W → Calls Tryz.prog 4 #[.string D] W fun e w' => e = .returned (.bool true) ∧ Below W.heap.size W w') := hid (fun D hD W hW => by
    have h1 := reads_any D.data.toList (by rw [Array.length_toList]; exact hD) W (HPW.out W hW)
    have e : (⟨D.data.toList.toArray⟩ : ByteArray) = D := by cases D; simp
    rw [St, e] at h1
    exact h1)
  go_wp2_with fail
  generalize hW5 : World.alloc wr _ = W5
  have hb5 : Below wr.heap.size wr W5 := by rw [← hW5]; exact (Below.refl _ wr).alloc (Nat.le_refl _) _
  have HB5 : Hid (Below W9.heap.size W9 W5) := hid (HBI.out.trans (hb5.mono HBI.out.size))
  have HC5 : Hid (∀ j, j < 24 → ∀ W, Below W5.heap.size W5 W → ∃ D : ByteArray, D.size ≤ 100 ∧ W.cell? ⟨wr.heap.size, j, none⟩ = some (.string D)) := hid (fun j hj W hW => by
    have hlt : wr.heap.size < W5.heap.size := by rw [← hW5]; simp
    have h1 : W.cell? ⟨wr.heap.size, j, none⟩ = W5.cell? ⟨wr.heap.size, j, none⟩ := hW.cell (p := ⟨wr.heap.size, j, none⟩) hlt
    rw [h1, ← hW5, cell_of_heap (heap_alloc_new wr _)]
    match j, hj with
    | 0, _ => exact ⟨_, by decide, rfl⟩
    | 1, _ => exact ⟨_, by decide, rfl⟩
    | 2, _ => exact ⟨_, by decide, rfl⟩
    | 3, _ => exact ⟨_, by decide, rfl⟩
    | 4, _ => exact ⟨_, by decide, rfl⟩
    | 5, _ => exact ⟨_, by decide, rfl⟩
    | 6, _ => exact ⟨_, by decide, rfl⟩
    | 7, _ => exact ⟨_, by decide, rfl⟩
    | 8, _ => exact ⟨_, by decide, rfl⟩
    | 9, _ => exact ⟨_, by decide, rfl⟩
    | 10, _ => exact ⟨_, by decide, rfl⟩
    | 11, _ => exact ⟨_, by decide, rfl⟩
    | 12, _ => exact ⟨_, by decide, rfl⟩
    | 13, _ => exact ⟨_, by decide, rfl⟩
    | 14, _ => exact ⟨_, by decide, rfl⟩
    | 15, _ => exact ⟨_, by decide, rfl⟩
    | 16, _ => exact ⟨_, by decide, rfl⟩
    | 17, _ => exact ⟨_, by decide, rfl⟩
    | 18, _ => exact ⟨_, by decide, rfl⟩
    | 19, _ => exact ⟨_, by decide, rfl⟩
    | 20, _ => exact ⟨_, by decide, rfl⟩
    | 21, _ => exact ⟨_, by decide, rfl⟩
    | 22, _ => exact ⟨_, by decide, rfl⟩
    | 23, _ => exact ⟨_, by decide, rfl⟩
    | k + 24, h => exact absurd h (by omega))
  clear hW5 hb5
  generalize wr.heap.size = z5 at *
  go_loopg [13, 270] 24 (fun gg v13 v270 wr => ∃ j : Nat, gg = 24 - j ∧ j ≤ 24 ∧ v270 = .int .i64 (j : Int) ∧ Below W5.heap.size W5 wr)
  case atStart => exact ⟨0, rfl, by omega, rfl, Below.refl _ _⟩
  case round =>
    obtain ⟨j, rfl, hj, rfl, hbj⟩ := hrel
    have HBJ := hid hbj
    by_cases hj24 : j < 24
    · have HJ := hid hj24
      obtain ⟨D, hD, hcd⟩ := HC5.out j hj24 wr hbj
      have HRDD := hid (HRD.out D (by omega) wr (HB5.out.trans (hbj.mono HB5.out.size)))
      have hlt : (j : Int) < 24 := by omega
      have hj0 : (0 : Int) ≤ (j : Int) := Int.natCast_nonneg _
      have hjw : IntKind.i64.wrap ((j : Int) + 1) = ((j + 1 : Nat) : Int) := by rw [IntKind.wrap_i64]; omega
      clear hbj hj hj24 hD
      go_wp2_with fail
      refine HRDD.out.mono ?_
      rintro e wa ⟨rfl, hq⟩
      have HBA := hid (HBJ.out.trans (hq.mono HBJ.out.size))
      clear hq hcd
      go_wp2_with fail
      go_roundg (24 - (j + 1))
      case measure => have := HJ.out; omega
      case rel => exact ⟨j + 1, rfl, HJ.out, by go_num, HBA.out⟩
    · have hje : j = 24 := by omega
      subst hje
      have HB6 := hid (HB5.out.trans (HBJ.out.mono HB5.out.size))
      clear hbj hj hj24 HC5 HBJ HB5
      obtain ⟨W6, rfl⟩ : ∃ W6, W6 = wr := ⟨_, rfl⟩
      have HM6 : Hid ((W6.alloc (.cells #[.slice none 0 0, .slice none 0 0] 40)).heap[W6.heap.size]? = some (.cells #[.slice none 0 0, .slice none 0 0] 40 (0, 0)) ∧ Below W6.heap.size W6 (W6.alloc (.cells #[.slice none 0 0, .slice none 0 0] 40)) ∧ W6.heap.size + 1 ≤ (W6.alloc (.cells #[.slice none 0 0, .slice none 0 0] 40)).heap.size) := hid ⟨heap_alloc_new W6 _, (Below.refl _ W6).alloc (Nat.le_refl _) _, by simp⟩
      go_wp2_with fail
      generalize W6.alloc (.cells #[.slice none 0 0, .slice none 0 0] 40) = W7 at HM6 ⊢
      generalize hM : W6.heap.size = M at HM6 ⊢
      go_loopg [15] 17 (fun gg v15 wr => ∃ (i : Nat) (a : Option Addr) (c : Nat), gg = 17 - i ∧ i ≤ 17 ∧ v15 = .int .i64 (i : Int) ∧ wr.heap[M]? = some (.cells #[.slice a i c, .slice none 0 0] 40 (0, 0)) ∧ wr.ownsRow (M + 1) 22 1 (.slice a i c) (List.replicate i ([83, 110, 49, 59, 116, 49, 58, 120] : Bs)).length ((List.replicate i ([83, 110, 49, 59, 116, 49, 58, 120] : Bs)).map fun b => St b) ∧ Below M W6 wr ∧ M + 1 ≤ wr.heap.size)
      case atStart => exact ⟨0, none, 0, rfl, by omega, rfl, HM6.out.1, ⟨rfl, Or.inl ⟨rfl, rfl⟩⟩, HM6.out.2.1, HM6.out.2.2⟩
      case round =>
        obtain ⟨i, a, c, rfl, hi, rfl, hblk, hown, hbi, hsz⟩ := hrel
        by_cases hi17 : i < 17
        · have HI := hid hi17
          have hlt : (i : Int) < 17 := by omega
          have hi0 : (0 : Int) ≤ (i : Int) := Int.natCast_nonneg _
          have hiw : IntKind.i64.wrap ((i : Int) + 1) = ((i + 1 : Nat) : Int) := by rw [IntKind.wrap_i64]; omega
          have hc0 : wr.cell? ⟨M, 0, none⟩ = some (.slice a i c) := (cell_of_heap hblk 0).trans rfl
          obtain ⟨a2, c2, w2, r2, o2, g2⟩ := app_term hown [83, 110, 49, 59, 116, 49, 58, 120] (by simp; omega) hsz
          have hne : (Value.slice a i c).ownBlock ≠ some M := fun e => by have := (hown.lt M e).1; omega
          have hb2 : w2.heap[M]? = some (.cells #[.slice a i c, .slice none 0 0] 40 (0, 0)) := by rw [g2.block M (lt_of_heap hblk) (fun e => hne e.symm)]; exact hblk
          have hd0 : w2.cell? ⟨M, 0, none⟩ = some (.slice a i c) := (cell_of_heap hb2 0).trans rfl
          have hf0 : w2.frozen? ⟨M, 0, none⟩ = false := by simp [World.frozen?, hb2]
          rw [List.length_replicate] at r2
          have HFIN : Hid ((w2.setCell ⟨M, 0, none⟩ (.slice a2 (i + 1) c2)).heap[M]? = some (.cells #[.slice a2 (i + 1) c2, .slice none 0 0] 40 (0, 0)) ∧ (w2.setCell ⟨M, 0, none⟩ (.slice a2 (i + 1) c2)).ownsRow (M + 1) 22 1 (.slice a2 (i + 1) c2) (List.replicate (i + 1) ([83, 110, 49, 59, 116, 49, 58, 120] : Bs)).length ((List.replicate (i + 1) ([83, 110, 49, 59, 116, 49, 58, 120] : Bs)).map fun b => St b) ∧ Below M W6 (w2.setCell ⟨M, 0, none⟩ (.slice a2 (i + 1) c2)) ∧ M + 1 ≤ (w2.setCell ⟨M, 0, none⟩ (.slice a2 (i + 1) c2)).heap.size) := hid (by
            rw [List.length_replicate, ← List.replicate_succ'] at o2
            have hfx : Frx w2.heap.size M w2 (w2.setCell ⟨M, 0, none⟩ (.slice a2 (i + 1) c2)) := (Frx.refl _ _ _).setCell _ _
            have hb3 : Below M W6 w2 := below_own hbi (by omega) (ownsRow_base hown (Nat.le_succ M)) g2
            refine ⟨by simp [World.setCell, Array.getElem?_modify, hb2], ownsRow_frx o2 hfx, hb3.setCell (Nat.le_refl _) _, ?_⟩
            have := g2.size; have := hfx.size; omega)
          have HRUN := hid r2
          clear hblk hown hbi hsz o2 g2 r2 hne hi hi17 hb2
          go_wp2_with (first | (at_builtin; refine wpList_append_run rfl (.tmp 283) (.tmp 284) 32 32 rfl _ _ (.slice a2 (i + 1) c2) w2 rfl rfl HRUN.out ?_) | fail)
          go_roundg (17 - (i + 1))
          case measure => have := HI.out; omega
          case rel => exact ⟨i + 1, a2, c2, rfl, HI.out, by go_num, HFIN.out⟩
        · have hie : i = 17 := by omega
          subst hie
          have HBI6 := hid (show Below W9.heap.size W9 wr from HB6.out.trans (hbi.mono (by rw [← hM]; exact HB6.out.size)))
          have hown2 : wr.ownsRow (M + 1) 22 1 (.slice a 17 c) 17 ((List.replicate 17 ([83, 110, 49, 59, 116, 49, 58, 120] : Bs)).map fun b => St b) := hown
          obtain ⟨gm, rfl, hgm, hcc, hcell⟩ : ∃ gm, a = some ⟨gm, 0, none⟩ ∧ gm < wr.heap.size ∧ 17 ≤ c ∧ ∀ i, i < 17 → wr.cell? ⟨gm, i, none⟩ = some (St [83, 110, 49, 59, 116, 49, 58, 120]) := by
            rcases hown2.2 with ⟨h1, h0⟩ | ⟨q, cap, cur, hv, hb, hg, hc1, hc2, hc3, hc4⟩
            · omega
            · injection hv with e1 e2 e3
              refine ⟨q, e1, lt_of_heap hg, by omega, fun i hi => ?_⟩
              have e : (cur.toList.take (17 * 1))[i]? = some (St [83, 110, 49, 59, 116, 49, 58, 120]) := by
                rw [hc4, List.getElem?_map, List.getElem?_replicate, if_pos hi]; rfl
              rw [Nat.mul_one, List.getElem?_take_of_lt hi, Array.getElem?_toList] at e
              rw [cell_of_heap hg]
              exact e
          have hc0 : wr.cell? ⟨M, 0, none⟩ = some (.slice (some ⟨gm, 0, none⟩) 17 c) := (cell_of_heap hblk 0).trans rfl
          have hc16 : (16 : Int) ≤ (c : Int) := by omega
          obtain ⟨W8, hW8⟩ : ∃ W8, W8 = wr.alloc (.cells #[.slice (some ⟨gm, 0, none⟩) 16 c, .slice none 0 0] 40) := ⟨_, rfl⟩
          have hb8 : Below wr.heap.size wr W8 := by rw [hW8]; exact (Below.refl _ wr).alloc (Nat.le_refl _) _
          have HB8 : Hid (Below W9.heap.size W9 W8) := hid (HBI6.out.trans (hb8.mono HBI6.out.size))
          have HTX : Hid (∀ n, n ≤ 17 → 0 < n → ∀ W, Below W8.heap.size W8 W → Texts W (.slice (some ⟨gm, 0, none⟩) n c) (List.replicate n ([83, 110, 49, 59, 116, 49, 58, 120] : Bs))) := hid (fun n hn h0 W hW => ⟨some ⟨gm, 0, none⟩, c, by rw [List.length_replicate], fun _ => ⟨gm, 0, rfl, by have := hb8.size; have := hW.size; omega, fun i hi => by
            rw [List.length_replicate] at hi
            have h1 := (hW.cell (p := ⟨gm, i, none⟩) (by have := hb8.size; show gm < _; omega)).trans ((hb8.cell (p := ⟨gm, i, none⟩) hgm).trans (hcell i (by omega)))
            rw [Nat.zero_add, h1, List.getElem_replicate]⟩⟩)
          obtain ⟨M2, hM2⟩ : ∃ M2, M2 = wr.heap.size := ⟨_, rfl⟩
          have HCC : Hid (∀ W, Below W8.heap.size W8 W → W.cell? ⟨M, 0, none⟩ = some (.slice (some ⟨gm, 0, none⟩) 17 c) ∧ W.cell? ⟨M, 1, none⟩ = some (.slice none 0 0) ∧ W.cell? ⟨M2, 0, none⟩ = some (.slice (some ⟨gm, 0, none⟩) 16 c) ∧ W.cell? ⟨M2, 1, none⟩ = some (.slice none 0 0)) := hid (fun W hW => by
            have b1 : W8.heap[M]? = some (.cells #[.slice (some ⟨gm, 0, none⟩) 17 c, .slice none 0 0] 40 (0, 0)) := (hb8.block M (lt_of_heap hblk)).trans hblk
            have b2 : W8.heap[M2]? = some (.cells #[.slice (some ⟨gm, 0, none⟩) 16 c, .slice none 0 0] 40 (0, 0)) := by rw [hM2, hW8]; exact heap_alloc_new wr _
            have d1 := (hW.block M (lt_of_heap b1)).trans b1
            have d2 := (hW.block M2 (lt_of_heap b2)).trans b2
            exact ⟨(cell_of_heap d1 0).trans rfl, (cell_of_heap d1 1).trans rfl, (cell_of_heap d2 0).trans rfl, (cell_of_heap d2 1).trans rfl⟩)
          have HPX : Hid (∀ W, Below W8.heap.size W8 W → Pw W) := hid (fun W hW => HPW.out W (HB8.out.trans (hW.mono HB8.out.size)))
          have H24 : Hid (∀ W, Below W8.heap.size W8 W → Calls Tryz.prog 24 #[.string ⟨#[80, 110, 49, 59]⟩] W fun e w' => e = .returned (.agg #[.int .u8 1, .string ⟨#[80, 110, 49, 59]⟩, .int .i64 0, .slice none 0 0]) ∧ Below W8.heap.size W8 w') := hid (fun W hW => (mk_sig [80, 110, 49, 59] W (by decide)).mono (fun e w' ⟨q1, q2⟩ => ⟨q1, hW.trans (q2.mono hW.size)⟩))
          have hlr : Lr (.mk 1 [80, 110, 49, 59] 0 []) := ⟨by decide, by decide, by decide⟩
          have H5 : Hid (∀ (sa pa : Option Addr) (sg pr : List Bs) (n1 sc n2 pc : Nat) W, n1 = sg.length → n2 = pr.length → n1 ≤ 17 → n2 ≤ 17 → (∀ y ∈ sg, y.length ≤ 140737488355328) → (∀ y ∈ pr, y.length ≤ 140737488355328) → Texts W (.slice sa n1 sc) sg → Texts W (.slice pa n2 pc) pr → Below W8.heap.size W8 W →
              Calls Tryz.prog 5 #[.agg #[.int .u8 1, .string ⟨#[80, 110, 49, 59]⟩, .int .i64 0, .slice none 0 0], .agg #[.slice sa n1 sc, .slice pa n2 pc], .string ⟨#[116, 49, 58, 120]⟩, .int .i64 0, .int .i64 0] W fun e w' => e = .returned (.bool true) ∧ Below W8.heap.size W8 w') := hid (fun sa pa sg pr n1 sc n2 pc W e1 e2 l1 l2 l3 l4 t1 t2 hW => by
            subst e1 e2
            exact (opensL_any (.mk 1 [80, 110, 49, 59] 0 []) ⟨sg, pr, [116, 49, 58, 120], 0, 0⟩ none sa pa 0 sc pc 0 W (HPX.out W hW) (Kd.nil (fun _ => True) W 0) hlr ⟨t1, t2, by show sg.length ≤ _; omega, by show pr.length ≤ _; omega⟩ (show (4 : Nat) ≤ 140737488355328 by decide) l3 l4).mono (fun e w' ⟨q1, q2⟩ => ⟨q1, hW.trans (q2.mono hW.size)⟩))
          have hrl : ∀ n, ∀ y ∈ List.replicate n ([83, 110, 49, 59, 116, 49, 58, 120] : Bs), y.length ≤ 140737488355328 := fun n y hy => by rw [(List.mem_replicate.1 hy).2]; decide
          have H5a : Hid (∀ W, Below W8.heap.size W8 W → Calls Tryz.prog 5 #[.agg #[.int .u8 1, .string ⟨#[80, 110, 49, 59]⟩, .int .i64 0, .slice none 0 0], .agg #[.slice (some ⟨gm, 0, none⟩) 17 c, .slice none 0 0], .string ⟨#[116, 49, 58, 120]⟩, .int .i64 0, .int .i64 0] W fun e w' => e = .returned (.bool true) ∧ Below W8.heap.size W8 w') := hid (fun W hW => H5.out _ none (List.replicate 17 [83, 110, 49, 59, 116, 49, 58, 120]) [] 17 c 0 0 W rfl rfl (by omega) (by omega) (hrl 17) (by simp) (HTX.out 17 (by omega) (by omega) W hW) (texts_nil W) hW)
          have H5b : Hid (∀ W, Below W8.heap.size W8 W → Calls Tryz.prog 5 #[.agg #[.int .u8 1, .string ⟨#[80, 110, 49, 59]⟩, .int .i64 0, .slice none 0 0], .agg #[.slice (some ⟨gm, 0, none⟩) 16 c, .slice none 0 0], .string ⟨#[116, 49, 58, 120]⟩, .int .i64 0, .int .i64 0] W fun e w' => e = .returned (.bool true) ∧ Below W8.heap.size W8 w') := hid (fun W hW => H5.out _ none (List.replicate 16 [83, 110, 49, 59, 116, 49, 58, 120]) [] 16 c 0 0 W rfl rfl (by omega) (by omega) (hrl 16) (by simp) (HTX.out 16 (by omega) (by omega) W hW) (texts_nil W) hW)
          have H5c : Hid (∀ W, Below W8.heap.size W8 W → Calls Tryz.prog 5 #[.agg #[.int .u8 1, .string ⟨#[80, 110, 49, 59]⟩, .int .i64 0, .slice none 0 0], .agg #[.slice (some ⟨gm, 0, none⟩) 16 c, .slice (some ⟨gm, 0, none⟩) 17 c], .string ⟨#[116, 49, 58, 120]⟩, .int .i64 0, .int .i64 0] W fun e w' => e = .returned (.bool true) ∧ Below W8.heap.size W8 w') := hid (fun W hW => H5.out _ _ (List.replicate 16 [83, 110, 49, 59, 116, 49, 58, 120]) (List.replicate 17 [83, 110, 49, 59, 116, 49, 58, 120]) 16 c 17 c W rfl rfl (by omega) (by omega) (hrl 16) (hrl 17) (HTX.out 16 (by omega) (by omega) W hW) (HTX.out 17 (by omega) (by omega) W hW) hW)
          have HTO : ∀ (W : World) (q : Nat) (b : Bs), W.heap[q]? = some (.cells #[St b] 22 (0, 0)) → Texts W (.slice (some ⟨q, 0, none⟩) 1 1) [b] := fun W q b hq => ⟨_, _, rfl, fun _ => ⟨q, 0, rfl, lt_of_heap hq, fun i hi => by
            obtain rfl : i = 0 := by simpa using hi
            exact (cell_of_heap hq 0).trans rfl⟩⟩
          have H32 : Hid (∀ (n : Int) (V : World), Below W8.heap.size W8 V → Calls Tryz.prog 32 #[.int .i64 0, .int .i64 1, .int .i64 9, .agg #[.slice (some ⟨V.heap.size, 0, none⟩) 1 1, .slice (some ⟨V.heap.size + 1, 0, none⟩) 1 1], .int .i64 n, .int .i64 4] ((V.alloc (.cells #[.string ⟨#[83, 110, 49, 59, 116, 49, 58, 109]⟩] 22)).alloc (.cells #[.string ⟨#[110, 50, 59]⟩] 22)) fun e w' => e = .returned (.bool true) ∧ Below W8.heap.size W8 w') := hid (fun n V hV => by
            have hb : Below W8.heap.size W8 ((V.alloc (.cells #[.string ⟨#[83, 110, 49, 59, 116, 49, 58, 109]⟩] 22)).alloc (.cells #[.string ⟨#[110, 50, 59]⟩] 22)) := (hV.alloc hV.size _).alloc (by simp; have := hV.size; omega) _
            refine (needs_any 0 1 9 n 4 [[83, 110, 49, 59, 116, 49, 58, 109]] [[110, 50, 59]] _ _ 1 1 _ (HPX.out _ hb) (HTO _ _ _ ?_) (HTO _ _ _ ?_) (by decide) (by decide) (by decide) (by decide)).mono (fun e w' ⟨q1, q2⟩ => ⟨q1, hb.trans (q2.mono hb.size)⟩)
            · rw [Below.heap_alloc _ _ _ (by simp)]; exact heap_alloc_new V _
            · have := heap_alloc_new (V.alloc (.cells #[.string ⟨#[83, 110, 49, 59, 116, 49, 58, 109]⟩] 22)) (.cells #[.string ⟨#[110, 50, 59]⟩] 22)
              simpa using this)
          have H32s : Hid (∀ (n : Int) (V : World), Below W8.heap.size W8 V → Calls Tryz.prog 32 #[.int .i64 0, .int .i64 1, .int .i64 9, .agg #[.slice (some ⟨V.heap.size + 1, 0, none⟩) 1 1, .slice (some ⟨V.heap.size, 0, none⟩) 1 1], .int .i64 n, .int .i64 4] ((V.alloc (.cells #[.string ⟨#[110, 50, 59]⟩] 22)).alloc (.cells #[.string ⟨#[83, 110, 49, 59, 116, 49, 58, 109]⟩] 22)) fun e w' => e = .returned (.bool true) ∧ Below W8.heap.size W8 w') := hid (fun n V hV => by
            have hb : Below W8.heap.size W8 ((V.alloc (.cells #[.string ⟨#[110, 50, 59]⟩] 22)).alloc (.cells #[.string ⟨#[83, 110, 49, 59, 116, 49, 58, 109]⟩] 22)) := (hV.alloc hV.size _).alloc (by simp; have := hV.size; omega) _
            refine (needs_any 0 1 9 n 4 [[83, 110, 49, 59, 116, 49, 58, 109]] [[110, 50, 59]] _ _ 1 1 _ (HPX.out _ hb) (HTO _ _ _ ?_) (HTO _ _ _ ?_) (by decide) (by decide) (by decide) (by decide)).mono (fun e w' ⟨q1, q2⟩ => ⟨q1, hb.trans (q2.mono hb.size)⟩)
            · have := heap_alloc_new (V.alloc (.cells #[.string ⟨#[110, 50, 59]⟩] 22)) (.cells #[.string ⟨#[83, 110, 49, 59, 116, 49, 58, 109]⟩] 22)
              simpa using this
            · rw [Below.heap_alloc _ _ _ (by simp)]; exact heap_alloc_new V _)
          have H15 : Hid (∀ W, Below W8.heap.size W8 W → Calls Tryz.prog 15 #[] W fun e w' => e = .returned (.bool true) ∧ Below W8.heap.size W8 w') := hid (fun W hW => (works_any W (HPX.out W hW)).mono (fun e w' ⟨q1, q2⟩ => ⟨q1, hW.trans (q2.mono hW.size)⟩))
          have HW8 := hid hW8
          have HBF : Hid (Below w.heap.size w W8) := hid (HB9.out.trans (HB8.out.mono HB9.out.size))
          clear hW8 hb8 hblk hown hown2 hbi hsz hi hi17 hcell hgm hcc hlr hrl HTO H5
          go_wp2_with fail
          rw [← HW8.out, ← hM2]
          have HM2 := hid hM2
          clear hM2
          have hs0 := HCC.out W8 (Below.refl _ _)
          go_region_held3 (fun W : World => W.cell? ⟨M, 0, none⟩ = some (.slice (some ⟨gm, 0, none⟩) 17 c) ∧ W.cell? ⟨M, 1, none⟩ = some (.slice none 0 0) ∧ W.cell? ⟨M2, 0, none⟩ = some (.slice (some ⟨gm, 0, none⟩) 16 c) ∧ W.cell? ⟨M2, 1, none⟩ = some (.slice none 0 0)) (first | exact hs0 | exact HCC.out _ HXa.out | exact HCC.out _ (below_dr _) | exact HCC.out _ (HXa.out.alloc HXa.out.size _) | exact HCC.out _ ((HXa.out.alloc HXa.out.size _).alloc (by simp; have := HXa.out.size; omega) _)) (first | (go_at_call 24; refine (H24.out _ (by first | exact HXa.out | exact below_dr _)).mono ?_; rintro e xa ⟨rfl, hb⟩; have HXa := hid hb; clear hb) | (go_at_call 15; refine (H15.out _ (by first | exact HXa.out | exact below_dr _)).mono ?_; rintro e xa ⟨rfl, hb⟩; have HXa := hid hb; clear hb) | (go_at_call_of 5 gm; go_at_call_has 5 (Value.slice (some ⟨gm, 0, none⟩) 16 c); go_at_call_has 5 (Value.slice (some ⟨gm, 0, none⟩) 17 c); refine (H5c.out _ (by first | exact HXa.out | exact below_dr _)).mono ?_; rintro e xa ⟨rfl, hb⟩; have HXa := hid hb; clear hb) | (go_at_call_has 5 (Value.slice (some ⟨gm, 0, none⟩) 16 c); refine (H5b.out _ (by first | exact HXa.out | exact below_dr _)).mono ?_; rintro e xa ⟨rfl, hb⟩; have HXa := hid hb; clear hb) | (go_at_call_has 5 (Value.slice (some ⟨gm, 0, none⟩) 17 c); refine (H5a.out _ (by first | exact HXa.out | exact below_dr _)).mono ?_; rintro e xa ⟨rfl, hb⟩; have HXa := hid hb; clear hb) | (go_at_call_has 32 (Value.agg #[Value.slice (some ⟨xa.heap.size, 0, none⟩) 1 1, Value.slice (some ⟨xa.heap.size + 1, 0, none⟩) 1 1]); refine (H32.out _ _ HXa.out).mono ?_; rintro e xa ⟨rfl, hb⟩; have HXa := hid hb; clear hb) | (go_at_call_has 32 (Value.agg #[Value.slice (some ⟨xa.heap.size + 1, 0, none⟩) 1 1, Value.slice (some ⟨xa.heap.size, 0, none⟩) 1 1]); refine (H32s.out _ _ HXa.out).mono ?_; rintro e xa ⟨rfl, hb⟩; have HXa := hid hb; clear hb))
          all_goals go_wp2_with fail
          all_goals (go_ret; exact ⟨rfl, HBF.out.trans (HXa.out.mono HBF.out.size)⟩)
end Go.Proofs.YtdllpklecdmghaaGreatDoor
