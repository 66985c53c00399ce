/- LockMakes: the law. -/
import Derived.Test.YtdllpklecdmghaaGreatDoorLkBkAll
import Derived.Test.YtdllpklecdmghaaGreatDoorLkRfAll
import Derived.Test.YtdllpklecdmghaaGreatDoorKnAAll
namespace Go.Proofs.YtdllpklecdmghaaGreatDoor
open Go.RowKit
open Lk (Lt Sp)
def mk0 : Oper := { dst := some 42, op := Op.move (Operand.tmp 0), type := 22, pos := "law.go:65", after := #[], guard := none }
def mk1 : Oper := { dst := some 43, op := Op.call { callee := Callee.value (Operand.func 24), args := #[Operand.tmp 42], argTypes := #[22] }, type := 25, pos := "law.go:65", after := #[{ on := 0, ground := Ground.data }], guard := none }
def mk2 : Oper := { dst := some 44, op := Op.move (Operand.tmp 0), type := 22, pos := "law.go:65", after := #[], guard := none }
def mk3 : Oper := { dst := some 45, op := Op.call { callee := Callee.value (Operand.func 50), args := #[Operand.tmp 44], argTypes := #[22] }, type := 25, pos := "law.go:65", after := #[{ on := 2, ground := Ground.data }, { on := 1, ground := Ground.chain }], guard := none }
def mk4 : Oper := { dst := some 46, op := Op.call { callee := Callee.value (Operand.func 18), args := #[Operand.tmp 43, Operand.tmp 45], argTypes := #[25, 25] }, type := 4, pos := "law.go:65", after := #[{ on := 1, ground := Ground.data }, { on := 3, ground := Ground.data }, { on := 3, ground := Ground.chain }], guard := none }
def mk5 : Oper := { dst := some 47, op := Op.move (Operand.tmp 46), type := 4, pos := "law.go:65", after := #[{ on := 4, ground := Ground.data }, { on := 4, ground := Ground.chain }], guard := none }
def mk6 : Oper := { dst := some 48, op := Op.move (Operand.tmp 0), type := 22, pos := "law.go:65", after := #[{ on := 5, ground := Ground.guard }], guard := some (5, true) }
def mk7 : Oper := { dst := some 49, op := Op.call { callee := Callee.value (Operand.func 25), args := #[Operand.tmp 48], argTypes := #[22] }, type := 25, pos := "law.go:65", after := #[{ on := 6, ground := Ground.data }, { on := 5, ground := Ground.chain }, { on := 5, ground := Ground.guard }], guard := some (5, true) }
def mk8 : Oper := { dst := some 50, op := Op.move (Operand.tmp 0), type := 22, pos := "law.go:65", after := #[{ on := 5, ground := Ground.guard }], guard := some (5, true) }
def mk9 : Oper := { dst := some 51, op := Op.call { callee := Callee.value (Operand.func 51), args := #[Operand.tmp 50], argTypes := #[22] }, type := 25, pos := "law.go:65", after := #[{ on := 8, ground := Ground.data }, { on := 7, ground := Ground.chain }, { on := 5, ground := Ground.guard }], guard := some (5, true) }
def mk10 : Oper := { dst := some 52, op := Op.call { callee := Callee.value (Operand.func 18), args := #[Operand.tmp 49, Operand.tmp 51], argTypes := #[25, 25] }, type := 4, pos := "law.go:65", after := #[{ on := 7, ground := Ground.data }, { on := 9, ground := Ground.data }, { on := 9, ground := Ground.chain }, { on := 5, ground := Ground.guard }], guard := some (5, true) }
def mk11 : Oper := { dst := some 53, op := Op.pick (Operand.tmp 47) (Operand.tmp 52) (Operand.const (Value.bool false)), type := 4, pos := "law.go:65", after := #[{ on := 5, ground := Ground.data }, { on := 10, ground := Ground.data }], guard := none }
def mk12 : Oper := { dst := some 54, op := Op.move (Operand.tmp 53), type := 4, pos := "law.go:65", after := #[{ on := 11, ground := Ground.data }, { on := 10, ground := Ground.chain }], guard := none }
def mk13 : Oper := { dst := some 55, op := Op.move (Operand.tmp 1), type := 3, pos := "law.go:65", after := #[{ on := 12, ground := Ground.guard }], guard := some (12, true) }
def mk14 : Oper := { dst := some 56, op := Op.call { callee := Callee.value (Operand.func 22), args := #[Operand.tmp 55], argTypes := #[3] }, type := 25, pos := "law.go:65", after := #[{ on := 13, ground := Ground.data }, { on := 12, ground := Ground.chain }, { on := 12, ground := Ground.guard }], guard := some (12, true) }
def mk15 : Oper := { dst := some 57, op := Op.move (Operand.tmp 1), type := 3, pos := "law.go:65", after := #[{ on := 12, ground := Ground.guard }], guard := some (12, true) }
def mk16 : Oper := { dst := some 58, op := Op.call { callee := Callee.value (Operand.func 52), args := #[Operand.tmp 57], argTypes := #[3] }, type := 25, pos := "law.go:65", after := #[{ on := 15, ground := Ground.data }, { on := 14, ground := Ground.chain }, { on := 12, ground := Ground.guard }], guard := some (12, true) }
def mk17 : Oper := { dst := some 59, op := Op.call { callee := Callee.value (Operand.func 18), args := #[Operand.tmp 56, Operand.tmp 58], argTypes := #[25, 25] }, type := 4, pos := "law.go:65", after := #[{ on := 14, ground := Ground.data }, { on := 16, ground := Ground.data }, { on := 16, ground := Ground.chain }, { on := 12, ground := Ground.guard }], guard := some (12, true) }
def mk18 : Oper := { dst := some 60, op := Op.pick (Operand.tmp 54) (Operand.tmp 59) (Operand.const (Value.bool false)), type := 4, pos := "law.go:65", after := #[{ on := 12, ground := Ground.data }, { on := 17, ground := Ground.data }], guard := none }
def mk19 : Oper := { dst := some 61, op := Op.move (Operand.tmp 60), type := 4, pos := "law.go:65", after := #[{ on := 18, ground := Ground.data }, { on := 17, ground := Ground.chain }], guard := none }
def mk20 : Oper := { dst := some 62, op := Op.move (Operand.tmp 1), type := 3, pos := "law.go:65", after := #[{ on := 19, ground := Ground.guard }], guard := some (19, true) }
def mk21 : Oper := { dst := some 63, op := Op.call { callee := Callee.value (Operand.func 26), args := #[Operand.tmp 62], argTypes := #[3] }, type := 25, pos := "law.go:65", after := #[{ on := 20, ground := Ground.data }, { on := 19, ground := Ground.chain }, { on := 19, ground := Ground.guard }], guard := some (19, true) }
def mk22 : Oper := { dst := some 64, op := Op.move (Operand.tmp 1), type := 3, pos := "law.go:65", after := #[{ on := 19, ground := Ground.guard }], guard := some (19, true) }
def mk23 : Oper := { dst := some 65, op := Op.call { callee := Callee.value (Operand.func 53), args := #[Operand.tmp 64], argTypes := #[3] }, type := 25, pos := "law.go:65", after := #[{ on := 22, ground := Ground.data }, { on := 21, ground := Ground.chain }, { on := 19, ground := Ground.guard }], guard := some (19, true) }
def mk24 : Oper := { dst := some 66, op := Op.call { callee := Callee.value (Operand.func 18), args := #[Operand.tmp 63, Operand.tmp 65], argTypes := #[25, 25] }, type := 4, pos := "law.go:65", after := #[{ on := 21, ground := Ground.data }, { on := 23, ground := Ground.data }, { on := 23, ground := Ground.chain }, { on := 19, ground := Ground.guard }], guard := some (19, true) }
def mk25 : Oper := { dst := some 67, op := Op.pick (Operand.tmp 61) (Operand.tmp 66) (Operand.const (Value.bool false)), type := 4, pos := "law.go:65", after := #[{ on := 19, ground := Ground.data }, { on := 24, ground := Ground.data }], guard := none }
def mk26 : Oper := { dst := some 68, op := Op.move (Operand.tmp 67), type := 4, pos := "law.go:65", after := #[{ on := 25, ground := Ground.data }, { on := 24, ground := Ground.chain }], guard := none }
def mk27 : Oper := { dst := some 69, op := Op.load 25 (Operand.tmp 8), type := 25, pos := "law.go:65", after := #[{ on := 26, ground := Ground.guard }], guard := some (26, true) }
def mk28 : Oper := { dst := some 70, op := Op.move (Operand.tmp 2), type := 23, pos := "law.go:65", after := #[{ on := 26, ground := Ground.guard }], guard := some (26, true) }
def mk29 : Oper := { dst := some 71, op := Op.call { callee := Callee.value (Operand.func 54), args := #[Operand.tmp 70], argTypes := #[23] }, type := 25, pos := "law.go:65", after := #[{ on := 28, ground := Ground.data }, { on := 26, ground := Ground.chain }, { on := 26, ground := Ground.guard }], guard := some (26, true) }
def mk30 : Oper := { dst := some 72, op := Op.call { callee := Callee.value (Operand.func 18), args := #[Operand.tmp 69, Operand.tmp 71], argTypes := #[25, 25] }, type := 4, pos := "law.go:65", after := #[{ on := 27, ground := Ground.data }, { on := 29, ground := Ground.data }, { on := 29, ground := Ground.chain }, { on := 26, ground := Ground.guard }], guard := some (26, true) }
def mk31 : Oper := { dst := some 73, op := Op.pick (Operand.tmp 68) (Operand.tmp 72) (Operand.const (Value.bool false)), type := 4, pos := "law.go:65", after := #[{ on := 26, ground := Ground.data }, { on := 30, ground := Ground.data }], guard := none }
def mk32 : Oper := { dst := some 74, op := Op.move (Operand.tmp 73), type := 4, pos := "law.go:65", after := #[{ on := 31, ground := Ground.data }, { on := 30, ground := Ground.chain }], guard := none }
def mk33 : Oper := { dst := some 75, op := Op.load 25 (Operand.tmp 9), type := 25, pos := "law.go:65", after := #[{ on := 32, ground := Ground.guard }], guard := some (32, true) }
def mk34 : Oper := { dst := some 76, op := Op.move (Operand.tmp 2), type := 23, pos := "law.go:65", after := #[{ on := 32, ground := Ground.guard }], guard := some (32, true) }
def mk35 : Oper := { dst := some 77, op := Op.call { callee := Callee.value (Operand.func 55), args := #[Operand.tmp 76], argTypes := #[23] }, type := 25, pos := "law.go:65", after := #[{ on := 34, ground := Ground.data }, { on := 32, ground := Ground.chain }, { on := 32, ground := Ground.guard }], guard := some (32, true) }
def mk36 : Oper := { dst := some 78, op := Op.call { callee := Callee.value (Operand.func 18), args := #[Operand.tmp 75, Operand.tmp 77], argTypes := #[25, 25] }, type := 4, pos := "law.go:65", after := #[{ on := 33, ground := Ground.data }, { on := 35, ground := Ground.data }, { on := 35, ground := Ground.chain }, { on := 32, ground := Ground.guard }], guard := some (32, true) }
def mk37 : Oper := { dst := some 79, op := Op.pick (Operand.tmp 74) (Operand.tmp 78) (Operand.const (Value.bool false)), type := 4, pos := "law.go:65", after := #[{ on := 32, ground := Ground.data }, { on := 36, ground := Ground.data }], guard := none }
def mk38 : Oper := { dst := some 80, op := Op.move (Operand.tmp 79), type := 4, pos := "law.go:65", after := #[{ on := 37, ground := Ground.data }, { on := 36, ground := Ground.chain }], guard := none }
def mk39 : Oper := { dst := some 81, op := Op.call { callee := Callee.value (Operand.func 15), args := #[], argTypes := #[] }, type := 4, pos := "law.go:65", after := #[{ on := 38, ground := Ground.chain }, { on := 38, ground := Ground.guard }], guard := some (38, true) }
def mk40 : Oper := { dst := some 82, op := Op.pick (Operand.tmp 80) (Operand.tmp 81) (Operand.const (Value.bool false)), type := 4, pos := "law.go:65", after := #[{ on := 38, ground := Ground.data }, { on := 39, ground := Ground.data }], guard := none }
def mk41 : Oper := { dst := some 6, op := Op.assign (Operand.tmp 82), type := 4, pos := "law.go:65", after := #[{ on := 40, ground := Ground.data }, { on := 39, ground := Ground.chain }, { on := 0, ground := Ground.phase }, { on := 1, ground := Ground.phase }, { on := 2, ground := Ground.phase }, { on := 3, ground := Ground.phase }, { on := 4, ground := Ground.phase }, { on := 5, ground := Ground.phase }, { on := 6, ground := Ground.phase }, { on := 7, ground := Ground.phase }, { on := 8, ground := Ground.phase }, { on := 9, ground := Ground.phase }, { on := 10, ground := Ground.phase }, { on := 11, ground := Ground.phase }, { on := 12, ground := Ground.phase }, { on := 13, ground := Ground.phase }, { on := 14, ground := Ground.phase }, { on := 15, ground := Ground.phase }, { on := 16, ground := Ground.phase }, { on := 17, ground := Ground.phase }, { on := 18, ground := Ground.phase }, { on := 19, ground := Ground.phase }, { on := 20, ground := Ground.phase }, { on := 21, ground := Ground.phase }, { on := 22, ground := Ground.phase }, { on := 23, ground := Ground.phase }, { on := 24, ground := Ground.phase }, { on := 25, ground := Ground.phase }, { on := 26, ground := Ground.phase }, { on := 27, ground := Ground.phase }, { on := 28, ground := Ground.phase }, { on := 29, ground := Ground.phase }, { on := 30, ground := Ground.phase }, { on := 31, ground := Ground.phase }, { on := 32, ground := Ground.phase }, { on := 33, ground := Ground.phase }, { on := 34, ground := Ground.phase }, { on := 35, ground := Ground.phase }, { on := 36, ground := Ground.phase }, { on := 37, ground := Ground.phase }, { on := 38, ground := Ground.phase }, { on := 39, ground := Ground.phase }, { on := 40, ground := Ground.phase }], guard := none }
structure Zr (g m : Nat) (w0 W : World) : Prop where
  size : W.heap.size = w0.heap.size
  oth : ∀ h, (0 < m → h ≠ g) → W.heap[h]? = w0.heap[h]?
  row : 0 < m → ∃ cs : Array Value, W.heap[g]? = some (.cells cs 25 (0, 0)) ∧ m * 4 ≤ cs.size
  os : W.os = w0.os
  tape : W.tape = w0.tape
  out : W.output = w0.output
theorem Zr.next {g m : Nat} {w0 W : World} (h : Zr g m w0 W) (hm : 0 < m) (o : Nat) (v0 v1 v2 v3 : Value) : Zr g m w0 (setL W g o v0 v1 v2 v3) := by
  obtain ⟨cs, h1, h2⟩ := h.row hm
  exact ⟨by have := h.size; simp [setL, World.setCell]; exact this, fun k hk => (setL_other W g o v0 v1 v2 v3 (hk hm)).trans (h.oth k hk), fun _ => ⟨_, setL_same h1 o v0 v1 v2 v3, by simpa using h2⟩, h.os, h.tape, h.out⟩
theorem Zr.cells {g m : Nat} {w0 W : World} (h : Zr g m w0 W) {i : Nat} (hi : i < m) : (∃ u, W.cell? ⟨g, i * 4, none⟩ = some u) ∧ (∃ u, W.cell? ⟨g, i * 4 + 1, none⟩ = some u) ∧ (∃ u, W.cell? ⟨g, i * 4 + 2, none⟩ = some u) ∧ (∃ u, W.cell? ⟨g, i * 4 + 3, none⟩ = some u) ∧ ∀ j, W.frozen? ⟨g, j, none⟩ = false := by
  obtain ⟨cs, h1, h2⟩ := h.row (by omega)
  have hj : ∀ j, j < 4 → ∃ u, W.cell? ⟨g, i * 4 + j, none⟩ = some u := fun j hj => ⟨cs[i * 4 + j]'(by omega), by rw [cell_of_heap h1]; exact Array.getElem?_eq_getElem (by omega)⟩
  exact ⟨hj 0 (by omega), hj 1 (by omega), hj 2 (by omega), hj 3 (by omega), fun j => frozen_of_heap h1 j⟩
theorem Zr.below {g m : Nat} {w0 W : World} (h : Zr g m w0 W) {b : Nat} {w : World} (hb : Below b w w0) (hg : 0 < m → b ≤ g) : Below b w W :=
  ⟨h.os.trans hb.os, h.tape.trans hb.tape, h.out.trans hb.output, by rw [h.size]; exact hb.size, fun k hk => (h.oth k (fun h0 => by have := hg h0; omega)).trans (hb.block k hk)⟩
set_option maxRecDepth 100000 in
set_option maxHeartbeats 16000000 in
theorem makes_any {b : Nat → Prop} (t : Bs) (n : Int) (ks : List Lt) (aa : Option Addr) (c d : Nat) (w : World) (hp : Pw w) (hk : Kd b w d (.slice aa ks.length c) ks) (ht : t.length ≤ 140737488355328) :
    Calls Tryz.prog 29 #[St t, .int .i64 n, .slice aa ks.length c] w fun e w' => e = .returned (.bool true) ∧ Below w.heap.size w w' := by
  have H1 := hid (lsize_any 300 (by decide) d (.mk 0 [] 0 ks) (.slice aa ks.length c) w (lr_small 0 [] 0 ks (by decide) (by decide) (by decide)) hk)
  have HG := hid (fun (h : Lk.great 300 (.mk 0 [] 0 ks) ≤ 300) => Lk.great_small (Nat.le_refl _) _ h)
  have HP := hid hp
  have HT := hid ht
  have HL : Hid (lcs (.mk 0 [] 0 ks) (.slice aa ks.length c) = #[.int .u8 0, .string ⟨#[]⟩, .int .i64 0, .slice aa ks.length c]) := hid rfl
  rw [HL.out] at H1
  obtain ⟨m, hm⟩ : ∃ m, m = ks.length := ⟨_, rfl⟩
  have HM := hid hm
  generalize Lk.great 300 (.mk 0 [] 0 ks) = gr at *
  rw [← hm] at H1 hk ⊢
  have HK := hid hk
  clear hk hp ht hm HL
  go_enter Tryz.func29, Tryz.ntmps29
  by_cases h40 : (40 : Int) < (m : Int)
  · go_wp2_with fail
    go_ret
    exact ⟨rfl, Below.refl _ _⟩
  · by_cases h5 : (5000 : Int) < (t.length : Int)
    · go_wp2_with fail
      go_ret
      exact ⟨rfl, Below.refl _ _⟩
    · go_wp2_with fail
      refine H1.out.mono ?_
      rintro e w1 ⟨rfl, hb1⟩
      have HB1 := hid hb1
      by_cases h3 : (300 : Int) < (gr : Int)
      · clear hb1 H1
        go_wp2_with fail
        go_ret
        exact ⟨rfl, HB1.out⟩
      · have hsm : Lk.smalls ks = true := by
          have h := HG.out (by omega)
          rw [Lk.small, Bool.and_eq_true, Bool.and_eq_true] at h
          exact h.2
        have hm4 : m ≤ 40 := by omega
        have htl : t.length ≤ 20000 := by omega
        have hk1 := HK.out.low hb1
        obtain ⟨a2, c2, g, w2, hrun, hkc⟩ := kids_copy HM.out hk1 (by omega)
        have HKC := hid hkc
        have HRUN := hid hrun
        have hb2 := hb1.trans (hkc.bel.mono hb1.size)
        have HB2 := hid hb2
        have H13 : Hid (Calls Tryz.prog 23 #[.slice a2 m c2] w2 fun e w' => ∃ a c, e = .returned (.agg #[.int .u8 5, .string ⟨#[]⟩, .int .i64 0, .slice a m c]) ∧ Kd (fun h => w2.heap.size ≤ h) w' d (.slice a m c) ks ∧ Below w2.heap.size w2 w') := hid ((mk_all d (.slice a2 m c2) ks w2 hkc.kd hsm (by rw [← HM.out]; omega)).mono (fun e w' ⟨v', h1, h2, h3⟩ => by
          obtain ⟨_, a, c, rfl⟩ := h2.shape
          rw [← HM.out] at h1 h2
          exact ⟨a, c, h1, h2.base (fun h (hh : w2.heap.size + 1 ≤ h) => by show w2.heap.size ≤ h; omega), h3⟩))
        have H14 : Hid (∀ W, Below w2.heap.size w2 W → Calls Tryz.prog 27 #[.slice a2 m c2] W fun e w' => ∃ a c, e = .returned (.agg #[.int .u8 6, .string ⟨#[]⟩, .int .i64 0, .slice a m c]) ∧ Kd (fun h => w2.heap.size ≤ h) w' d (.slice a m c) ks ∧ Below W.heap.size W w') := hid (fun W hW => (mk_any d (.slice a2 m c2) ks W (hkc.kd.low hW) hsm (by rw [← HM.out]; omega)).mono (fun e w' ⟨v', h1, h2, h3⟩ => by
          obtain ⟨_, a, c, rfl⟩ := h2.shape
          rw [← HM.out] at h1 h2
          exact ⟨a, c, h1, h2.base (fun h (hh : W.heap.size + 1 ≤ h) => by have := hW.size; show w2.heap.size ≤ h; omega), h3⟩))
        have HSM := hid hsm
        have HM4 := hid hm4
        have HTL := hid htl
        clear hb1 H1 HG hk1 hkc hb2 hsm hm4 htl hrun
        go_wp2_with (at_builtin; refine wpList_append_run rfl (.tmp 25) (.tmp 26) 23 23 rfl _ _ _ _ rfl rfl HRUN.out ?_)
        refine H13.out.mono ?_
        rintro e w3 ⟨a3, c3, rfl, hk3, hb3⟩
        have HB3 := hid hb3
        have HK3 := hid hk3
        have H14S := hid (H14.out w3 hb3)
        clear hk3 hb3 H13 H14 HRUN
        go_wp2_with fail
        refine H14S.out.mono ?_
        rintro e w4 ⟨a4, c4, rfl, hk4, hb4⟩
        obtain ⟨W6, hW6⟩ : ∃ W6, W6 = (w4.alloc (.cells #[.int .u8 5, .string ⟨#[]⟩, .int .i64 0, .slice a3 m c3] 25)).alloc (.cells #[.int .u8 6, .string ⟨#[]⟩, .int .i64 0, .slice a4 m c4] 25) := ⟨_, rfl⟩
        obtain ⟨hb6, hcl⟩ := box_two w4 W6 _ _ _ _ _ _ _ _ hW6
        have hb46 := hb4.trans (hb6.mono hb4.size)
        have HB6 := hid (HB3.out.trans (hb46.mono HB3.out.size))
        have HK3' := hid (HK3.out.low hb46)
        have HK4' := hid (hk4.low hb6)
        have HCL := hid hcl
        have HS6 := hid (show w2.heap.size ≤ w4.heap.size by have := HB3.out.size; have := hb4.size; omega)
        clear hk4 hb4 hb6 hcl hb46 H14S HB3 HK3
        go_wp2_with fail
        rw [← hW6]
        clear hW6
        have HZ0 : Hid (Zr g m W6 W6) := hid ⟨rfl, fun _ _ => rfl, fun h0 => by
          obtain ⟨_, h2, cs, h3, h4⟩ := HKC.out.row h0
          exact ⟨cs, (HB6.out.block _ (lt_of_heap h3)).trans h3, h4⟩, rfl, rfl, rfl⟩
        go_loopg [10] m (fun gg v10 wx => ∃ (i : Nat) (wy : World), wy = wx ∧ gg = m - i ∧ i ≤ m ∧ v10 = .int .i64 (i : Int) ∧ Zr g m W6 wy)
        case atStart => exact ⟨0, _, rfl, rfl, Nat.zero_le _, rfl, HZ0.out⟩
        case round =>
          obtain ⟨i, wy, hwy, rfl, hi, rfl, hzr⟩ := hrel
          subst hwy
          clear HZ0
          have hi0 : (0 : Int) ≤ (i : Int) := Int.natCast_nonneg _
          by_cases him : i < m
          · obtain ⟨ha2, _⟩ := HKC.out.row (by omega)
            subst ha2
            have hiw : IntKind.i64.wrap ((i : Int) + 1) = ((i + 1 : Nat) : Int) := by rw [IntKind.wrap_i64]; have := HM4.out; omega
            have hi1 : (i : Int) < (m : Int) := by omega
            obtain ⟨⟨u0, q0⟩, ⟨u1, q1⟩, ⟨u2, q2⟩, ⟨u3, q3⟩, qf⟩ := hzr.cells him
            have HNX := hid (hzr.next (by omega) (i * 4) (.int .u8 0) (.string ⟨#[]⟩) (.int .i64 0) (.slice none 0 0))
            have HI := hid him
            clear him hi hzr
            go_wp2_with fail
            go_roundg (m - (i + 1))
            case measure => have := HI.out; omega
            case rel => exact ⟨i + 1, _, rfl, rfl, HI.out, rfl, HNX.out⟩
          · have hie : i = m := by omega
            subst hie
            have hin : ¬ (i : Int) < (i : Int) := by omega
            have HZ := hid hzr
            clear hi him hzr
            go_wp2_with fail
            have HGL : Hid (∀ h, w2.heap.size ≤ h → (0 < i → h ≠ g)) := hid (fun h hh h0 => by
              obtain ⟨_, _, cs, h3, _⟩ := HKC.out.row h0
              have := lt_of_heap h3
              omega)
            have HGG : Hid (0 < i → w1.heap.size ≤ g) := hid (fun h0 => (HKC.out.row h0).2.1)
            have HBZ : Hid (Below w.heap.size w wy) := hid (HZ.out.below (HB2.out.trans (HB6.out.mono HB2.out.size)) (fun h0 => Nat.le_trans HB1.out.size (HGG.out h0)))
            have HKA : Hid (Kd b wy d (.slice aa i c) ks) := hid (HK.out.same (fun h _ hl => HBZ.out.block h hl))
            have HKX : Hid (Kd (fun h => w2.heap.size ≤ h) wy d (.slice a3 i c3) ks) := hid (HK3'.out.same (fun h hh _ => HZ.out.oth h (HGL.out h hh)))
            have HKY : Hid (Kd (fun h => w2.heap.size ≤ h) wy d (.slice a4 i c4) ks) := hid (HK4'.out.same (fun h hh _ => HZ.out.oth h (HGL.out h hh)))
            have HPZ : Hid (Pw wy) := hid (HP.out.below HBZ.out)
            have HCZ : Hid (∀ W, Below wy.heap.size wy W → (W.cell? ⟨w4.heap.size, 0, none⟩ = some (.int .u8 5) ∧ W.cell? ⟨w4.heap.size, 1, none⟩ = some (.string ⟨#[]⟩) ∧ W.cell? ⟨w4.heap.size, 2, none⟩ = some (.int .i64 0) ∧ W.cell? ⟨w4.heap.size, 3, none⟩ = some (.slice a3 i c3)) ∧ W.cell? ⟨w4.heap.size + 1, 0, none⟩ = some (.int .u8 6) ∧ W.cell? ⟨w4.heap.size + 1, 1, none⟩ = some (.string ⟨#[]⟩) ∧ W.cell? ⟨w4.heap.size + 1, 2, none⟩ = some (.int .i64 0) ∧ W.cell? ⟨w4.heap.size + 1, 3, none⟩ = some (.slice a4 i c4)) := hid (fun W hW => by
              obtain ⟨⟨k0, k1, k2, k3⟩, l0, l1, l2, l3⟩ := HCL.out W6 (Below.refl _ _)
              have e1 : ∀ (h j : Nat) (v : Value), w2.heap.size ≤ h → W6.cell? ⟨h, j, none⟩ = some v → W.cell? ⟨h, j, none⟩ = some v := fun h j v hh hv => by
                refine cell_later hW (a := ⟨h, j, none⟩) ?_
                rw [← hv]
                exact World.cell?_of_block (HZ.out.oth h (HGL.out h hh))
              have hs := HS6.out
              exact ⟨⟨e1 _ _ _ hs k0, e1 _ _ _ hs k1, e1 _ _ _ hs k2, e1 _ _ _ hs k3⟩, e1 _ _ _ (by omega) l0, e1 _ _ _ (by omega) l1, e1 _ _ _ (by omega) l2, e1 _ _ _ (by omega) l3⟩)
            have C15 : Hid (∀ W, Below wy.heap.size wy W → Calls Tryz.prog 24 #[St t] W fun e w' => e = .returned (.agg #[.int .u8 1, St t, .int .i64 0, .slice none 0 0]) ∧ Below wy.heap.size wy w') := hid (fun W hW => (mk_sig t W HTL.out).mono (fun e w' ⟨h1, h2⟩ => ⟨h1, hW.trans (h2.mono hW.size)⟩))
            have C16 : Hid (∀ W, Below wy.heap.size wy W → Calls Tryz.prog 50 #[St t] W fun e w' => e = .returned (.agg #[.int .u8 1, St t, .int .i64 0, .slice none 0 0]) ∧ Below wy.heap.size wy w') := hid (fun W hW => (rsig_any t W).mono (fun e w' ⟨h1, h2⟩ => ⟨h1, hW.trans (h2.mono hW.size)⟩))
            have C17 : Hid (∀ W, Below wy.heap.size wy W → Calls Tryz.prog 25 #[St t] W fun e w' => e = .returned (.agg #[.int .u8 2, St t, .int .i64 0, .slice none 0 0]) ∧ Below wy.heap.size wy w') := hid (fun W hW => (mk_pre t W HTL.out).mono (fun e w' ⟨h1, h2⟩ => ⟨h1, hW.trans (h2.mono hW.size)⟩))
            have C18 : Hid (∀ W, Below wy.heap.size wy W → Calls Tryz.prog 51 #[St t] W fun e w' => e = .returned (.agg #[.int .u8 2, St t, .int .i64 0, .slice none 0 0]) ∧ Below wy.heap.size wy w') := hid (fun W hW => (rpre_any t W).mono (fun e w' ⟨h1, h2⟩ => ⟨h1, hW.trans (h2.mono hW.size)⟩))
            have C19 : Hid (∀ W, Below wy.heap.size wy W → Calls Tryz.prog 22 #[.int .i64 n] W fun e w' => e = .returned (.agg #[.int .u8 3, .string ⟨#[]⟩, .int .i64 n, .slice none 0 0]) ∧ Below wy.heap.size wy w') := hid (fun W hW => (mk_after n W).mono (fun e w' ⟨h1, h2⟩ => ⟨h1, hW.trans (h2.mono hW.size)⟩))
            have C20 : Hid (∀ W, Below wy.heap.size wy W → Calls Tryz.prog 52 #[.int .i64 n] W fun e w' => e = .returned (.agg #[.int .u8 3, .string ⟨#[]⟩, .int .i64 n, .slice none 0 0]) ∧ Below wy.heap.size wy w') := hid (fun W hW => (rafter_any n W).mono (fun e w' ⟨h1, h2⟩ => ⟨h1, hW.trans (h2.mono hW.size)⟩))
            have C21 : Hid (∀ W, Below wy.heap.size wy W → Calls Tryz.prog 26 #[.int .i64 n] W fun e w' => e = .returned (.agg #[.int .u8 4, .string ⟨#[]⟩, .int .i64 n, .slice none 0 0]) ∧ Below wy.heap.size wy w') := hid (fun W hW => (mk_older n W).mono (fun e w' ⟨h1, h2⟩ => ⟨h1, hW.trans (h2.mono hW.size)⟩))
            have C22 : Hid (∀ W, Below wy.heap.size wy W → Calls Tryz.prog 53 #[.int .i64 n] W fun e w' => e = .returned (.agg #[.int .u8 4, .string ⟨#[]⟩, .int .i64 n, .slice none 0 0]) ∧ Below wy.heap.size wy w') := hid (fun W hW => (rolder_any n W).mono (fun e w' ⟨h1, h2⟩ => ⟨h1, hW.trans (h2.mono hW.size)⟩))
            have C23 : Hid (∀ W, Below wy.heap.size wy W → Calls Tryz.prog 54 #[.slice aa i c] W fun e w' => e = .returned (.agg #[.int .u8 5, .string ⟨#[]⟩, .int .i64 0, .slice aa i c]) ∧ Below wy.heap.size wy w') := hid (fun W hW => (rall_any aa i c W).mono (fun e w' ⟨h1, h2⟩ => ⟨h1, hW.trans (h2.mono hW.size)⟩))
            have C24 : Hid (∀ W, Below wy.heap.size wy W → Calls Tryz.prog 55 #[.slice aa i c] W fun e w' => e = .returned (.agg #[.int .u8 6, .string ⟨#[]⟩, .int .i64 0, .slice aa i c]) ∧ Below wy.heap.size wy w') := hid (fun W hW => (rany_any aa i c W).mono (fun e w' ⟨h1, h2⟩ => ⟨h1, hW.trans (h2.mono hW.size)⟩))
            have D1 : Hid (∀ W, Below wy.heap.size wy W → Calls Tryz.prog 18 #[.agg #[.int .u8 1, St t, .int .i64 0, .slice none 0 0], .agg #[.int .u8 1, St t, .int .i64 0, .slice none 0 0]] W fun e w' => e = .returned (.bool true) ∧ Below wy.heap.size wy w') := hid (fun W hW => by
              have h := slock_any 0 (.mk 1 t 0 []) (.mk 1 t 0 []) (.slice none 0 0) (.slice none 0 0) 0 W (Kd.nil (fun _ => True) W 0) (Kd.nil (fun _ => True) W 0)
              rw [(Lk.same_iff _ _).2 rfl] at h
              exact h.mono (fun e w' ⟨h1, h2⟩ => ⟨h1, hW.trans (h2.mono hW.size)⟩))
            have D2 : Hid (∀ W, Below wy.heap.size wy W → Calls Tryz.prog 18 #[.agg #[.int .u8 2, St t, .int .i64 0, .slice none 0 0], .agg #[.int .u8 2, St t, .int .i64 0, .slice none 0 0]] W fun e w' => e = .returned (.bool true) ∧ Below wy.heap.size wy w') := hid (fun W hW => by
              have h := slock_any 0 (.mk 2 t 0 []) (.mk 2 t 0 []) (.slice none 0 0) (.slice none 0 0) 0 W (Kd.nil (fun _ => True) W 0) (Kd.nil (fun _ => True) W 0)
              rw [(Lk.same_iff _ _).2 rfl] at h
              exact h.mono (fun e w' ⟨h1, h2⟩ => ⟨h1, hW.trans (h2.mono hW.size)⟩))
            have D3 : Hid (∀ W, Below wy.heap.size wy W → Calls Tryz.prog 18 #[.agg #[.int .u8 3, .string ⟨#[]⟩, .int .i64 n, .slice none 0 0], .agg #[.int .u8 3, .string ⟨#[]⟩, .int .i64 n, .slice none 0 0]] W fun e w' => e = .returned (.bool true) ∧ Below wy.heap.size wy w') := hid (fun W hW => by
              have h := slock_any 0 (.mk 3 [] n []) (.mk 3 [] n []) (.slice none 0 0) (.slice none 0 0) 0 W (Kd.nil (fun _ => True) W 0) (Kd.nil (fun _ => True) W 0)
              rw [(Lk.same_iff _ _).2 rfl] at h
              exact h.mono (fun e w' ⟨h1, h2⟩ => ⟨h1, hW.trans (h2.mono hW.size)⟩))
            have D4 : Hid (∀ W, Below wy.heap.size wy W → Calls Tryz.prog 18 #[.agg #[.int .u8 4, .string ⟨#[]⟩, .int .i64 n, .slice none 0 0], .agg #[.int .u8 4, .string ⟨#[]⟩, .int .i64 n, .slice none 0 0]] W fun e w' => e = .returned (.bool true) ∧ Below wy.heap.size wy w') := hid (fun W hW => by
              have h := slock_any 0 (.mk 4 [] n []) (.mk 4 [] n []) (.slice none 0 0) (.slice none 0 0) 0 W (Kd.nil (fun _ => True) W 0) (Kd.nil (fun _ => True) W 0)
              rw [(Lk.same_iff _ _).2 rfl] at h
              exact h.mono (fun e w' ⟨h1, h2⟩ => ⟨h1, hW.trans (h2.mono hW.size)⟩))
            have D5 : Hid (∀ W, Below wy.heap.size wy W → Calls Tryz.prog 18 #[.agg #[.int .u8 5, .string ⟨#[]⟩, .int .i64 0, .slice a3 i c3], .agg #[.int .u8 5, .string ⟨#[]⟩, .int .i64 0, .slice aa i c]] W fun e w' => e = .returned (.bool true) ∧ Below wy.heap.size wy w') := hid (fun W hW => by
              have h := slock_any d (.mk 5 [] 0 ks) (.mk 5 [] 0 ks) (.slice a3 i c3) (.slice aa i c) d W (HKX.out.low hW) (HKA.out.low hW)
              rw [(Lk.same_iff _ _).2 rfl] at h
              exact h.mono (fun e w' ⟨h1, h2⟩ => ⟨h1, hW.trans (h2.mono hW.size)⟩))
            have D6 : Hid (∀ W, Below wy.heap.size wy W → Calls Tryz.prog 18 #[.agg #[.int .u8 6, .string ⟨#[]⟩, .int .i64 0, .slice a4 i c4], .agg #[.int .u8 6, .string ⟨#[]⟩, .int .i64 0, .slice aa i c]] W fun e w' => e = .returned (.bool true) ∧ Below wy.heap.size wy w') := hid (fun W hW => by
              have h := slock_any d (.mk 6 [] 0 ks) (.mk 6 [] 0 ks) (.slice a4 i c4) (.slice aa i c) d W (HKY.out.low hW) (HKA.out.low hW)
              rw [(Lk.same_iff _ _).2 rfl] at h
              exact h.mono (fun e w' ⟨h1, h2⟩ => ⟨h1, hW.trans (h2.mono hW.size)⟩))
            have CW : Hid (∀ W, Below wy.heap.size wy W → Calls Tryz.prog 15 #[] W fun e w' => e = .returned (.bool true) ∧ Below wy.heap.size wy w') := hid (fun W hW => (works_any W (HPZ.out.below hW)).mono (fun e w' ⟨h1, h2⟩ => ⟨h1, hW.trans (h2.mono hW.size)⟩))
            have hs0 := HCZ.out wy (Below.refl _ _)
            clear HKX HKY HKA HPZ HZ HGL HGG HK3' HK4' HCL HKC
            refine wp_region_held (S := fun wq : World => (wq.cell? ⟨w4.heap.size, 0, none⟩ = some (.int .u8 5) ∧ wq.cell? ⟨w4.heap.size, 1, none⟩ = some (.string ⟨#[]⟩) ∧ wq.cell? ⟨w4.heap.size, 2, none⟩ = some (.int .i64 0) ∧ wq.cell? ⟨w4.heap.size, 3, none⟩ = some (.slice a3 i c3)) ∧ wq.cell? ⟨w4.heap.size + 1, 0, none⟩ = some (.int .u8 6) ∧ wq.cell? ⟨w4.heap.size + 1, 1, none⟩ = some (.string ⟨#[]⟩) ∧ wq.cell? ⟨w4.heap.size + 1, 2, none⟩ = some (.int .i64 0) ∧ wq.cell? ⟨w4.heap.size + 1, 3, none⟩ = some (.slice a4 i c4)) (by kernel_rfl) ?_
            clear hs0
            have hs0 := HCZ.out _ (below_dr wy)
            refine wpAnyH_take (i := 0) (oi := mk0) (v := St t) rfl (by kernel_rfl) (by kernel_rfl) (by kernel_rfl) (fun _ _ _ h => h) (y_all rfl (fun _ => rfl)) hs0 ?_
            simp only [Act.put, mk0, List.setIfInBounds_toArray, List.set_cons_zero, List.set_cons_succ]
            refine wpAnyH_take (i := 2) (oi := mk2) (v := St t) rfl (by kernel_rfl) (by kernel_rfl) (by kernel_rfl) (fun _ _ _ h => h) (y_all rfl (fun _ => rfl)) hs0 ?_
            simp only [Act.put, mk2, List.setIfInBounds_toArray, List.set_cons_zero, List.set_cons_succ]
            refine wpAnyH_all (rs := [1]) (by kernel_rfl) (by simp) (all1 ?_)
            refine op_call (o := mk1) (f := 24) (args := #[St t]) rfl rfl (by simp only [mk1]; go_simp) (call_one (C15.out _ (below_dr wy))) ?_
            rintro v0 x1 ⟨rfl, hb⟩
            have HX1 := hid hb
            clear hs0 hb
            have hs0 := HCZ.out x1 HX1.out
            refine ⟨hs0, ?_⟩
            simp only [Act.put, mk1, List.setIfInBounds_toArray, List.set_cons_zero, List.set_cons_succ]
            refine wpAnyH_all (rs := [3]) (by kernel_rfl) (by simp) (all1 ?_)
            refine op_call (o := mk3) (f := 50) (args := #[St t]) rfl rfl (by simp only [mk3]; go_simp) (call_one (C16.out _ HX1.out)) ?_
            rintro v0 x2 ⟨rfl, hb⟩
            have HX2 := hid hb
            clear hs0 hb
            have hs0 := HCZ.out x2 HX2.out
            refine ⟨hs0, ?_⟩
            simp only [Act.put, mk3, List.setIfInBounds_toArray, List.set_cons_zero, List.set_cons_succ]
            refine wpAnyH_all (rs := [4]) (by kernel_rfl) (by simp) (all1 ?_)
            refine op_call (o := mk4) (f := 18) (args := #[.agg #[.int .u8 1, St t, .int .i64 0, .slice none 0 0], .agg #[.int .u8 1, St t, .int .i64 0, .slice none 0 0]]) rfl rfl (by simp only [mk4]; go_simp) (call_one (D1.out _ HX2.out)) ?_
            rintro v0 x3 ⟨rfl, hb⟩
            have HX3 := hid hb
            clear hs0 hb
            have hs0 := HCZ.out x3 HX3.out
            refine ⟨hs0, ?_⟩
            simp only [Act.put, mk4, List.setIfInBounds_toArray, List.set_cons_zero, List.set_cons_succ]
            refine wpAnyH_take (i := 5) (oi := mk5) (v := .bool true) rfl (by kernel_rfl) (by kernel_rfl) (by kernel_rfl) (fun _ _ _ h => h) (y_all rfl (fun _ => rfl)) hs0 ?_
            simp only [Act.put, mk5, List.setIfInBounds_toArray, List.set_cons_zero, List.set_cons_succ]
            refine wpAnyH_take (i := 6) (oi := mk6) (v := St t) rfl (by kernel_rfl) (by kernel_rfl) (by kernel_rfl) (fun _ _ _ h => h) (g_all (by rfl) (fun _ => rfl)) hs0 ?_
            simp only [Act.put, mk6, List.setIfInBounds_toArray, List.set_cons_zero, List.set_cons_succ]
            refine wpAnyH_take (i := 8) (oi := mk8) (v := St t) rfl (by kernel_rfl) (by kernel_rfl) (by kernel_rfl) (fun _ _ _ h => h) (g_all (by rfl) (fun _ => rfl)) hs0 ?_
            simp only [Act.put, mk8, List.setIfInBounds_toArray, List.set_cons_zero, List.set_cons_succ]
            refine wpAnyH_all (rs := [7]) (by kernel_rfl) (by simp) (all1 ?_)
            refine g_call (o := mk7) (f := 25) (args := #[St t]) rfl (by rfl) (by simp only [mk7]; go_simp) (call_one (C17.out _ HX3.out)) ?_
            rintro v0 x4 ⟨rfl, hb⟩
            have HX4 := hid hb
            clear hs0 hb
            have hs0 := HCZ.out x4 HX4.out
            refine ⟨hs0, ?_⟩
            simp only [Act.put, mk7, List.setIfInBounds_toArray, List.set_cons_zero, List.set_cons_succ]
            refine wpAnyH_all (rs := [9]) (by kernel_rfl) (by simp) (all1 ?_)
            refine g_call (o := mk9) (f := 51) (args := #[St t]) rfl (by rfl) (by simp only [mk9]; go_simp) (call_one (C18.out _ HX4.out)) ?_
            rintro v0 x5 ⟨rfl, hb⟩
            have HX5 := hid hb
            clear hs0 hb
            have hs0 := HCZ.out x5 HX5.out
            refine ⟨hs0, ?_⟩
            simp only [Act.put, mk9, List.setIfInBounds_toArray, List.set_cons_zero, List.set_cons_succ]
            refine wpAnyH_all (rs := [10]) (by kernel_rfl) (by simp) (all1 ?_)
            refine g_call (o := mk10) (f := 18) (args := #[.agg #[.int .u8 2, St t, .int .i64 0, .slice none 0 0], .agg #[.int .u8 2, St t, .int .i64 0, .slice none 0 0]]) rfl (by rfl) (by simp only [mk10]; go_simp) (call_one (D2.out _ HX5.out)) ?_
            rintro v0 x6 ⟨rfl, hb⟩
            have HX6 := hid hb
            clear hs0 hb
            have hs0 := HCZ.out x6 HX6.out
            refine ⟨hs0, ?_⟩
            simp only [Act.put, mk10, List.setIfInBounds_toArray, List.set_cons_zero, List.set_cons_succ]
            refine wpAnyH_take (i := 11) (oi := mk11) (v := .bool true) rfl (by kernel_rfl) (by kernel_rfl) (by kernel_rfl) (fun _ _ _ h => h) (y_all rfl (fun _ => by simp only [mk11]; go_simp)) hs0 ?_
            simp only [Act.put, mk11, List.setIfInBounds_toArray, List.set_cons_zero, List.set_cons_succ]
            refine wpAnyH_take (i := 12) (oi := mk12) (v := .bool true) rfl (by kernel_rfl) (by kernel_rfl) (by kernel_rfl) (fun _ _ _ h => h) (y_all rfl (fun _ => rfl)) hs0 ?_
            simp only [Act.put, mk12, List.setIfInBounds_toArray, List.set_cons_zero, List.set_cons_succ]
            refine wpAnyH_take (i := 13) (oi := mk13) (v := .int .i64 n) rfl (by kernel_rfl) (by kernel_rfl) (by kernel_rfl) (fun _ _ _ h => h) (g_all (by rfl) (fun _ => rfl)) hs0 ?_
            simp only [Act.put, mk13, List.setIfInBounds_toArray, List.set_cons_zero, List.set_cons_succ]
            refine wpAnyH_take (i := 15) (oi := mk15) (v := .int .i64 n) rfl (by kernel_rfl) (by kernel_rfl) (by kernel_rfl) (fun _ _ _ h => h) (g_all (by rfl) (fun _ => rfl)) hs0 ?_
            simp only [Act.put, mk15, List.setIfInBounds_toArray, List.set_cons_zero, List.set_cons_succ]
            refine wpAnyH_all (rs := [14]) (by kernel_rfl) (by simp) (all1 ?_)
            refine g_call (o := mk14) (f := 22) (args := #[.int .i64 n]) rfl (by rfl) (by simp only [mk14]; go_simp) (call_one (C19.out _ HX6.out)) ?_
            rintro v0 x7 ⟨rfl, hb⟩
            have HX7 := hid hb
            clear hs0 hb
            have hs0 := HCZ.out x7 HX7.out
            refine ⟨hs0, ?_⟩
            simp only [Act.put, mk14, List.setIfInBounds_toArray, List.set_cons_zero, List.set_cons_succ]
            refine wpAnyH_all (rs := [16]) (by kernel_rfl) (by simp) (all1 ?_)
            refine g_call (o := mk16) (f := 52) (args := #[.int .i64 n]) rfl (by rfl) (by simp only [mk16]; go_simp) (call_one (C20.out _ HX7.out)) ?_
            rintro v0 x8 ⟨rfl, hb⟩
            have HX8 := hid hb
            clear hs0 hb
            have hs0 := HCZ.out x8 HX8.out
            refine ⟨hs0, ?_⟩
            simp only [Act.put, mk16, List.setIfInBounds_toArray, List.set_cons_zero, List.set_cons_succ]
            refine wpAnyH_all (rs := [17]) (by kernel_rfl) (by simp) (all1 ?_)
            refine g_call (o := mk17) (f := 18) (args := #[.agg #[.int .u8 3, .string ⟨#[]⟩, .int .i64 n, .slice none 0 0], .agg #[.int .u8 3, .string ⟨#[]⟩, .int .i64 n, .slice none 0 0]]) rfl (by rfl) (by simp only [mk17]; go_simp) (call_one (D3.out _ HX8.out)) ?_
            rintro v0 x9 ⟨rfl, hb⟩
            have HX9 := hid hb
            clear hs0 hb
            have hs0 := HCZ.out x9 HX9.out
            refine ⟨hs0, ?_⟩
            simp only [Act.put, mk17, List.setIfInBounds_toArray, List.set_cons_zero, List.set_cons_succ]
            refine wpAnyH_take (i := 18) (oi := mk18) (v := .bool true) rfl (by kernel_rfl) (by kernel_rfl) (by kernel_rfl) (fun _ _ _ h => h) (y_all rfl (fun _ => by simp only [mk18]; go_simp)) hs0 ?_
            simp only [Act.put, mk18, List.setIfInBounds_toArray, List.set_cons_zero, List.set_cons_succ]
            refine wpAnyH_take (i := 19) (oi := mk19) (v := .bool true) rfl (by kernel_rfl) (by kernel_rfl) (by kernel_rfl) (fun _ _ _ h => h) (y_all rfl (fun _ => rfl)) hs0 ?_
            simp only [Act.put, mk19, List.setIfInBounds_toArray, List.set_cons_zero, List.set_cons_succ]
            refine wpAnyH_take (i := 20) (oi := mk20) (v := .int .i64 n) rfl (by kernel_rfl) (by kernel_rfl) (by kernel_rfl) (fun _ _ _ h => h) (g_all (by rfl) (fun _ => rfl)) hs0 ?_
            simp only [Act.put, mk20, List.setIfInBounds_toArray, List.set_cons_zero, List.set_cons_succ]
            refine wpAnyH_take (i := 22) (oi := mk22) (v := .int .i64 n) rfl (by kernel_rfl) (by kernel_rfl) (by kernel_rfl) (fun _ _ _ h => h) (g_all (by rfl) (fun _ => rfl)) hs0 ?_
            simp only [Act.put, mk22, List.setIfInBounds_toArray, List.set_cons_zero, List.set_cons_succ]
            refine wpAnyH_all (rs := [21]) (by kernel_rfl) (by simp) (all1 ?_)
            refine g_call (o := mk21) (f := 26) (args := #[.int .i64 n]) rfl (by rfl) (by simp only [mk21]; go_simp) (call_one (C21.out _ HX9.out)) ?_
            rintro v0 x10 ⟨rfl, hb⟩
            have HX10 := hid hb
            clear hs0 hb
            have hs0 := HCZ.out x10 HX10.out
            refine ⟨hs0, ?_⟩
            simp only [Act.put, mk21, List.setIfInBounds_toArray, List.set_cons_zero, List.set_cons_succ]
            refine wpAnyH_all (rs := [23]) (by kernel_rfl) (by simp) (all1 ?_)
            refine g_call (o := mk23) (f := 53) (args := #[.int .i64 n]) rfl (by rfl) (by simp only [mk23]; go_simp) (call_one (C22.out _ HX10.out)) ?_
            rintro v0 x11 ⟨rfl, hb⟩
            have HX11 := hid hb
            clear hs0 hb
            have hs0 := HCZ.out x11 HX11.out
            refine ⟨hs0, ?_⟩
            simp only [Act.put, mk23, List.setIfInBounds_toArray, List.set_cons_zero, List.set_cons_succ]
            refine wpAnyH_all (rs := [24]) (by kernel_rfl) (by simp) (all1 ?_)
            refine g_call (o := mk24) (f := 18) (args := #[.agg #[.int .u8 4, .string ⟨#[]⟩, .int .i64 n, .slice none 0 0], .agg #[.int .u8 4, .string ⟨#[]⟩, .int .i64 n, .slice none 0 0]]) rfl (by rfl) (by simp only [mk24]; go_simp) (call_one (D4.out _ HX11.out)) ?_
            rintro v0 x12 ⟨rfl, hb⟩
            have HX12 := hid hb
            clear hs0 hb
            have hs0 := HCZ.out x12 HX12.out
            refine ⟨hs0, ?_⟩
            simp only [Act.put, mk24, List.setIfInBounds_toArray, List.set_cons_zero, List.set_cons_succ]
            refine wpAnyH_take (i := 25) (oi := mk25) (v := .bool true) rfl (by kernel_rfl) (by kernel_rfl) (by kernel_rfl) (fun _ _ _ h => h) (y_all rfl (fun _ => by simp only [mk25]; go_simp)) hs0 ?_
            simp only [Act.put, mk25, List.setIfInBounds_toArray, List.set_cons_zero, List.set_cons_succ]
            refine wpAnyH_take (i := 26) (oi := mk26) (v := .bool true) rfl (by kernel_rfl) (by kernel_rfl) (by kernel_rfl) (fun _ _ _ h => h) (y_all rfl (fun _ => rfl)) hs0 ?_
            simp only [Act.put, mk26, List.setIfInBounds_toArray, List.set_cons_zero, List.set_cons_succ]
            refine wpAnyH_take (i := 27) (oi := mk27) (v := .agg #[.int .u8 5, .string ⟨#[]⟩, .int .i64 0, .slice a3 i c3]) rfl (by kernel_rfl) (by kernel_rfl) (by kernel_rfl) (fun _ _ _ h => h) (g_load (by rfl) 25 (.tmp 8) rfl (w4.heap.size) 0 rfl (fun w hw => lkload25 hw.1.1 hw.1.2.1 hw.1.2.2.1 hw.1.2.2.2)) hs0 ?_
            simp only [Act.put, mk27, List.setIfInBounds_toArray, List.set_cons_zero, List.set_cons_succ]
            refine wpAnyH_take (i := 28) (oi := mk28) (v := .slice aa i c) rfl (by kernel_rfl) (by kernel_rfl) (by kernel_rfl) (fun _ _ _ h => h) (g_all (by rfl) (fun _ => rfl)) hs0 ?_
            simp only [Act.put, mk28, List.setIfInBounds_toArray, List.set_cons_zero, List.set_cons_succ]
            refine wpAnyH_all (rs := [29]) (by kernel_rfl) (by simp) (all1 ?_)
            refine g_call (o := mk29) (f := 54) (args := #[.slice aa i c]) rfl (by rfl) (by simp only [mk29]; go_simp) (call_one (C23.out _ HX12.out)) ?_
            rintro v0 x13 ⟨rfl, hb⟩
            have HX13 := hid hb
            clear hs0 hb
            have hs0 := HCZ.out x13 HX13.out
            refine ⟨hs0, ?_⟩
            simp only [Act.put, mk29, List.setIfInBounds_toArray, List.set_cons_zero, List.set_cons_succ]
            refine wpAnyH_all (rs := [30]) (by kernel_rfl) (by simp) (all1 ?_)
            refine g_call (o := mk30) (f := 18) (args := #[.agg #[.int .u8 5, .string ⟨#[]⟩, .int .i64 0, .slice a3 i c3], .agg #[.int .u8 5, .string ⟨#[]⟩, .int .i64 0, .slice aa i c]]) rfl (by rfl) (by simp only [mk30]; go_simp) (call_one (D5.out _ HX13.out)) ?_
            rintro v0 x14 ⟨rfl, hb⟩
            have HX14 := hid hb
            clear hs0 hb
            have hs0 := HCZ.out x14 HX14.out
            refine ⟨hs0, ?_⟩
            simp only [Act.put, mk30, List.setIfInBounds_toArray, List.set_cons_zero, List.set_cons_succ]
            refine wpAnyH_take (i := 31) (oi := mk31) (v := .bool true) rfl (by kernel_rfl) (by kernel_rfl) (by kernel_rfl) (fun _ _ _ h => h) (y_all rfl (fun _ => by simp only [mk31]; go_simp)) hs0 ?_
            simp only [Act.put, mk31, List.setIfInBounds_toArray, List.set_cons_zero, List.set_cons_succ]
            refine wpAnyH_take (i := 32) (oi := mk32) (v := .bool true) rfl (by kernel_rfl) (by kernel_rfl) (by kernel_rfl) (fun _ _ _ h => h) (y_all rfl (fun _ => rfl)) hs0 ?_
            simp only [Act.put, mk32, List.setIfInBounds_toArray, List.set_cons_zero, List.set_cons_succ]
            refine wpAnyH_take (i := 33) (oi := mk33) (v := .agg #[.int .u8 6, .string ⟨#[]⟩, .int .i64 0, .slice a4 i c4]) rfl (by kernel_rfl) (by kernel_rfl) (by kernel_rfl) (fun _ _ _ h => h) (g_load (by rfl) 25 (.tmp 9) rfl (w4.heap.size + 1) 0 rfl (fun w hw => lkload25 hw.2.1 hw.2.2.1 hw.2.2.2.1 hw.2.2.2.2)) hs0 ?_
            simp only [Act.put, mk33, List.setIfInBounds_toArray, List.set_cons_zero, List.set_cons_succ]
            refine wpAnyH_take (i := 34) (oi := mk34) (v := .slice aa i c) rfl (by kernel_rfl) (by kernel_rfl) (by kernel_rfl) (fun _ _ _ h => h) (g_all (by rfl) (fun _ => rfl)) hs0 ?_
            simp only [Act.put, mk34, List.setIfInBounds_toArray, List.set_cons_zero, List.set_cons_succ]
            refine wpAnyH_all (rs := [35]) (by kernel_rfl) (by simp) (all1 ?_)
            refine g_call (o := mk35) (f := 55) (args := #[.slice aa i c]) rfl (by rfl) (by simp only [mk35]; go_simp) (call_one (C24.out _ HX14.out)) ?_
            rintro v0 x15 ⟨rfl, hb⟩
            have HX15 := hid hb
            clear hs0 hb
            have hs0 := HCZ.out x15 HX15.out
            refine ⟨hs0, ?_⟩
            simp only [Act.put, mk35, List.setIfInBounds_toArray, List.set_cons_zero, List.set_cons_succ]
            refine wpAnyH_all (rs := [36]) (by kernel_rfl) (by simp) (all1 ?_)
            refine g_call (o := mk36) (f := 18) (args := #[.agg #[.int .u8 6, .string ⟨#[]⟩, .int .i64 0, .slice a4 i c4], .agg #[.int .u8 6, .string ⟨#[]⟩, .int .i64 0, .slice aa i c]]) rfl (by rfl) (by simp only [mk36]; go_simp) (call_one (D6.out _ HX15.out)) ?_
            rintro v0 x16 ⟨rfl, hb⟩
            have HX16 := hid hb
            clear hs0 hb
            have hs0 := HCZ.out x16 HX16.out
            refine ⟨hs0, ?_⟩
            simp only [Act.put, mk36, List.setIfInBounds_toArray, List.set_cons_zero, List.set_cons_succ]
            refine wpAnyH_take (i := 37) (oi := mk37) (v := .bool true) rfl (by kernel_rfl) (by kernel_rfl) (by kernel_rfl) (fun _ _ _ h => h) (y_all rfl (fun _ => by simp only [mk37]; go_simp)) hs0 ?_
            simp only [Act.put, mk37, List.setIfInBounds_toArray, List.set_cons_zero, List.set_cons_succ]
            refine wpAnyH_take (i := 38) (oi := mk38) (v := .bool true) rfl (by kernel_rfl) (by kernel_rfl) (by kernel_rfl) (fun _ _ _ h => h) (y_all rfl (fun _ => rfl)) hs0 ?_
            simp only [Act.put, mk38, List.setIfInBounds_toArray, List.set_cons_zero, List.set_cons_succ]
            refine wpAnyH_all (rs := [39]) (by kernel_rfl) (by simp) (all1 ?_)
            refine g_call (o := mk39) (f := 15) (args := #[]) rfl (by rfl) (by simp only [mk39]; go_simp) (call_one (CW.out _ HX16.out)) ?_
            rintro v0 x17 ⟨rfl, hb⟩
            have HX17 := hid hb
            clear hs0 hb
            have hs0 := HCZ.out x17 HX17.out
            refine ⟨hs0, ?_⟩
            simp only [Act.put, mk39, List.setIfInBounds_toArray, List.set_cons_zero, List.set_cons_succ]
            refine wpAnyH_take (i := 40) (oi := mk40) (v := .bool true) rfl (by kernel_rfl) (by kernel_rfl) (by kernel_rfl) (fun _ _ _ h => h) (y_all rfl (fun _ => by simp only [mk40]; go_simp)) hs0 ?_
            simp only [Act.put, mk40, List.setIfInBounds_toArray, List.set_cons_zero, List.set_cons_succ]
            refine wpAnyH_take (i := 41) (oi := mk41) (v := .bool true) rfl (by kernel_rfl) (by kernel_rfl) (by kernel_rfl) (fun _ _ _ h => h) (y_all rfl (fun _ => rfl)) hs0 ?_
            simp only [Act.put, mk41, List.setIfInBounds_toArray, List.set_cons_zero, List.set_cons_succ]
            refine wpAnyH_done (by kernel_rfl) ?_ _
            clear hs0
            go_wp2_with fail
            go_ret
            exact ⟨rfl, HBZ.out.trans (HX17.out.mono HBZ.out.size)⟩
end Go.Proofs.YtdllpklecdmghaaGreatDoor
