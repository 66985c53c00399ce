/- One call of a row, on a disk and on the document's: Write. -/
import Derived.Test.YtojnembakhhgiaaGreatPbAll
namespace Go.Proofs.YtojnembakhhgiaaGreat
open Go.RowKit

def pf0 : Oper := { dst := some 51, op := Go.Op.move (Go.Operand.tmp 7), type := 47, pos := "law.go:86", after := #[], guard := none }
def pf1 : Oper := { dst := some 52, op := Go.Op.convert 47 9 (Go.Operand.tmp 51), type := 9, pos := "law.go:86", after := #[{ on := 0, ground := Go.Ground.data }], guard := none }
def pf2 : Oper := { dst := some 53, op := Go.Op.move (Go.Operand.tmp 7), type := 47, pos := "law.go:86", after := #[], guard := none }
def pf3 : Oper := { dst := some 54, op := Go.Op.call { callee := Go.Callee.builtin Go.Builtin.len, args := #[Go.Operand.tmp 53], argTypes := #[47] }, type := 3, pos := "law.go:86", after := #[{ on := 2, ground := Go.Ground.data }], guard := none }
def pf4 : Oper := { dst := some 55, op := Go.Op.fieldAddr 31 (Go.Operand.tmp 5) 5, type := 0, pos := "law.go:86", after := #[], guard := none }
def pf5 : Oper := { dst := some 56, op := Go.Op.load 5 (Go.Operand.tmp 55), type := 5, pos := "law.go:86", after := #[{ on := 4, ground := Go.Ground.data }], guard := none }
def pf6 : Oper := { dst := some 57, op := Go.Op.call { callee := Go.Callee.value (Go.Operand.func 27), args := #[Go.Operand.tmp 54, Go.Operand.tmp 56], argTypes := #[3, 5] }, type := 47, pos := "law.go:86", after := #[{ on := 3, ground := Go.Ground.data }, { on := 5, ground := Go.Ground.data }], guard := none }
def pf7 : Oper := { dst := some 58, op := Go.Op.convert 47 9 (Go.Operand.tmp 57), type := 9, pos := "law.go:86", after := #[{ on := 6, ground := Go.Ground.data }], guard := none }
def pf8 : Oper := { dst := some 59, op := Go.Op.binOp Go.BinOp.eql 9 (Go.Operand.tmp 52) (Go.Operand.tmp 58) 9, type := 4, pos := "law.go:86", after := #[{ on := 1, ground := Go.Ground.data }, { on := 7, ground := Go.Ground.data }], guard := none }
def pf9 : Oper := { dst := some 9, op := Go.Op.assign (Go.Operand.tmp 59), type := 4, pos := "law.go:86", after := #[{ on := 8, ground := Go.Ground.data }, { on := 6, ground := Go.Ground.chain }, { on := 0, ground := Go.Ground.phase }, { on := 1, ground := Go.Ground.phase }, { on := 2, ground := Go.Ground.phase }, { on := 3, ground := Go.Ground.phase }, { on := 4, ground := Go.Ground.phase }, { on := 5, ground := Go.Ground.phase }, { on := 6, ground := Go.Ground.phase }, { on := 7, ground := Go.Ground.phase }, { on := 8, ground := Go.Ground.phase }], guard := none }

def pg0 : Oper := { dst := some 69, op := Go.Op.move (Go.Operand.tmp 9), type := 4, pos := "law.go:90", after := #[], guard := none }
def pg1 : Oper := { dst := some 70, op := Go.Op.move (Go.Operand.tmp 69), type := 4, pos := "law.go:90", after := #[{ on := 0, ground := Go.Ground.data }], guard := none }
def pg2 : Oper := { dst := some 71, op := Go.Op.move (Go.Operand.tmp 8), type := 38, pos := "law.go:90", after := #[{ on := 1, ground := Go.Ground.guard }], guard := some (1, true) }
def pg3 : Oper := { dst := some 72, op := Go.Op.move (Go.Operand.tmp 1), type := 26, pos := "law.go:90", after := #[{ on := 1, ground := Go.Ground.guard }], guard := some (1, true) }
def pg4 : Oper := { dst := some 73, op := Go.Op.fieldAddr 31 (Go.Operand.tmp 5) 1, type := 0, pos := "law.go:90", after := #[{ on := 1, ground := Go.Ground.guard }], guard := some (1, true) }
def pg5 : Oper := { dst := some 74, op := Go.Op.load 9 (Go.Operand.tmp 73), type := 9, pos := "law.go:90", after := #[{ on := 4, ground := Go.Ground.data }, { on := 1, ground := Go.Ground.guard }], guard := some (1, true) }
def pg6 : Oper := { dst := some 75, op := Go.Op.fieldAddr 31 (Go.Operand.tmp 5) 3, type := 0, pos := "law.go:90", after := #[{ on := 1, ground := Go.Ground.guard }], guard := some (1, true) }
def pg7 : Oper := { dst := some 76, op := Go.Op.load 3 (Go.Operand.tmp 75), type := 3, pos := "law.go:90", after := #[{ on := 6, ground := Go.Ground.data }, { on := 1, ground := Go.Ground.guard }], guard := some (1, true) }
def pg8 : Oper := { dst := some 77, op := Go.Op.move (Go.Operand.tmp 7), type := 47, pos := "law.go:90", after := #[{ on := 1, ground := Go.Ground.guard }], guard := some (1, true) }
def pg9 : Oper := { dst := some 78, op := Go.Op.call { callee := Go.Callee.builtin Go.Builtin.len, args := #[Go.Operand.tmp 77], argTypes := #[47] }, type := 3, pos := "law.go:90", after := #[{ on := 8, ground := Go.Ground.data }, { on := 1, ground := Go.Ground.guard }], guard := some (1, true) }
def pg10 : Oper := { dst := some 79, op := Go.Op.fieldAddr 31 (Go.Operand.tmp 5) 5, type := 0, pos := "law.go:90", after := #[{ on := 1, ground := Go.Ground.guard }], guard := some (1, true) }
def pg11 : Oper := { dst := some 80, op := Go.Op.load 5 (Go.Operand.tmp 79), type := 5, pos := "law.go:90", after := #[{ on := 10, ground := Go.Ground.data }, { on := 1, ground := Go.Ground.guard }], guard := some (1, true) }
def pg12 : Oper := { dst := some 81, op := Go.Op.call { callee := Go.Callee.value (Go.Operand.func 27), args := #[Go.Operand.tmp 78, Go.Operand.tmp 80], argTypes := #[3, 5] }, type := 47, pos := "law.go:90", after := #[{ on := 9, ground := Go.Ground.data }, { on := 11, ground := Go.Ground.data }, { on := 1, ground := Go.Ground.chain }, { on := 1, ground := Go.Ground.guard }], guard := some (1, true) }
def pg13 : Oper := { dst := some 82, op := Go.Op.call { callee := Go.Callee.value (Go.Operand.func 28), args := #[Go.Operand.tmp 72, Go.Operand.tmp 74, Go.Operand.tmp 76, Go.Operand.tmp 81], argTypes := #[26, 9, 3, 47] }, type := 38, pos := "law.go:90", after := #[{ on := 3, ground := Go.Ground.data }, { on := 5, ground := Go.Ground.data }, { on := 7, ground := Go.Ground.data }, { on := 12, ground := Go.Ground.data }, { on := 12, ground := Go.Ground.chain }, { on := 1, ground := Go.Ground.guard }], guard := some (1, true) }
def pg14 : Oper := { dst := some 83, op := Go.Op.binOp Go.BinOp.eql 38 (Go.Operand.tmp 71) (Go.Operand.tmp 82) 38, type := 4, pos := "law.go:90", after := #[{ on := 2, ground := Go.Ground.data }, { on := 13, ground := Go.Ground.data }, { on := 1, ground := Go.Ground.guard }], guard := some (1, true) }
def pg15 : Oper := { dst := some 84, op := Go.Op.pick (Go.Operand.tmp 70) (Go.Operand.tmp 83) (Go.Operand.const (Go.Value.bool false)), type := 4, pos := "law.go:90", after := #[{ on := 1, ground := Go.Ground.data }, { on := 14, ground := Go.Ground.data }], guard := none }
def pg16 : Oper := { dst := some 6, op := Go.Op.assign (Go.Operand.tmp 84), type := 4, pos := "law.go:90", after := #[{ on := 15, ground := Go.Ground.data }, { on := 13, ground := Go.Ground.chain }, { on := 0, ground := Go.Ground.phase }, { on := 1, ground := Go.Ground.phase }, { on := 2, ground := Go.Ground.phase }, { on := 3, ground := Go.Ground.phase }, { on := 4, ground := Go.Ground.phase }, { on := 5, ground := Go.Ground.phase }, { on := 6, ground := Go.Ground.phase }, { on := 7, ground := Go.Ground.phase }, { on := 8, ground := Go.Ground.phase }, { on := 9, ground := Go.Ground.phase }, { on := 10, ground := Go.Ground.phase }, { on := 11, ground := Go.Ground.phase }, { on := 12, ground := Go.Ground.phase }, { on := 13, ground := Go.Ground.phase }, { on := 14, ground := Go.Ground.phase }, { on := 15, ground := Go.Ground.phase }], guard := none }

theorem brOf {W : World} {g ty : Nat} {b : Bs} (h : W.heap[g]? = some (.cells (bcs b).toArray ty (0, 0))) : Br W (.slice (some ⟨g, 0, none⟩) b.length b.length) b := by
  refine .inr ⟨g, rfl, fun j u hu => ?_⟩
  rw [cell_of_heap h, Nat.zero_add, List.getElem?_toArray]
  exact hu
set_option maxRecDepth 100000 in
set_option maxHeartbeats 8000000 in
theorem plays1 {J K : Nat → Prop} {w : World} {d q : Nat} {s t : Ds} (h : Pr J K w d q s t) (hs : Sm 1 s) (ht : Sm 1 t) (x : Ox) (hx : Oxr x) (hk : x.kind % 11 = 1) : Calls Tryz.prog 10 #[.pointer (some ⟨d, 0, none⟩), .pointer (some ⟨q, 0, none⟩), .agg (xcs x)] w (PlE J K w d q s t (writeD s x.name x.page (List.replicate (x.long % 300) x.fill)).2 (writeD t x.name x.page (List.replicate (x.long % 300) x.fill)).2) := by
  obtain ⟨kd, nm, to, pg, lg, fl, kp⟩ := x
  obtain ⟨hkd, hnm, hto, hpg, hlg, hkp⟩ := hx
  simp only at hk hkd hnm hto hpg hlg hkp ⊢
  unfold xcs
  obtain ⟨w0, hw0⟩ : ∃ w0, w0 = w.alloc (.cells #[.int .u8 (kd : Int), St nm, St to, .int .i64 pg, .int .u16 (lg : Int), .int .u8 (fl.toNat : Int), .int .u64 (kp : Int)] 31) := ⟨_, rfl⟩
  obtain ⟨bx, hbx⟩ : ∃ bx, bx = w.heap.size := ⟨_, rfl⟩
  have hB0 : Below w.heap.size w w0 := hw0 ▸ (Below.refl _ _).alloc (Nat.le_refl _) _
  have hb0 : w0.heap[bx]? = some (.cells #[.int .u8 (kd : Int), St nm, St to, .int .i64 pg, .int .u16 (lg : Int), .int .u8 (fl.toNat : Int), .int .u64 (kp : Int)] 31 (0, 0)) := by rw [hw0, hbx]; exact heap_alloc_new w _
  have h0 := h.grow hB0
  obtain ⟨K0, hK0⟩ : ∃ K0 : Nat → Prop, K0 = fun g => K g ∨ (w.heap.size ≤ g ∧ g < w0.heap.size) := ⟨_, rfl⟩
  rw [← hK0] at h0
  have hKx : K0 bx := by rw [hK0]; exact .inr ⟨by omega, lt_of_block hb0⟩
  have HFR : Hid (∀ W s' t', Pr J K0 W d q s' t' → Kj J K0 w0 W → Pr J K W d q s' t' ∧ Kj J K w W) := hid (fun W s' t' h1 h2 => ⟨h1.less (fun g hg => by rw [hK0]; exact .inl hg), (below_kj hB0 (fun g hg => h.lt hg) (fun g hg => h.jt hg)).trans (h2.less (fun g hg => by rw [hK0]; exact .inl hg))⟩)
  have HBX : Hid (∀ W, Kj J K0 w0 W → W.heap[bx]? = some (.cells #[.int .u8 (kd : Int), St nm, St to, .int .i64 pg, .int .u16 (lg : Int), .int .u8 (fl.toNat : Int), .int .u64 (kp : Int)] 31 (0, 0))) := hid (fun W h2 => (h2.blk bx hKx).trans hb0)
  have hrem : (kd : Int) % 11 = 1 := by omega
  obtain ⟨bl, hbl⟩ : ∃ bl : Nat, (lg : Int) % 300 = (bl : Int) := ⟨lg % 300, by omega⟩
  have hbln : lg % 300 = bl := by omega
  have hblb : bl < 300 := by omega
  rw [hbln]
  obtain ⟨b, hb⟩ : ∃ b : Bs, b = List.replicate bl fl := ⟨_, rfl⟩
  rw [← hb]
  have hbll : b.length = bl := by rw [hb, List.length_replicate]
  obtain ⟨g1, hg1⟩ : ∃ g1, g1 = w0.heap.size := ⟨_, rfl⟩
  obtain ⟨Kg, hKg⟩ : ∃ Kg : Nat → Prop, Kg = fun g => K0 g ∨ g = g1 := ⟨_, rfl⟩
  have hKs : ∀ g, K0 g → Kg g := fun g hg => by rw [hKg]; exact .inl hg
  have hKl : ∀ g, K0 g → g < w0.heap.size := fun g hg => h0.lt hg
  have hJl : ∀ g, J g → g < w0.heap.size := fun g hg => h0.jt hg
  obtain ⟨ed, hed⟩ : ∃ ed : Int, ed = ((writeD s nm pg b).1 : Int) := ⟨_, rfl⟩
  obtain ⟨em, hem⟩ : ∃ em : Int, em = ((writeD t nm pg b).1 : Int) := ⟨_, rfl⟩
  obtain ⟨s', hs'⟩ : ∃ s', s' = (writeD s nm pg b).2 := ⟨_, rfl⟩
  obtain ⟨t', ht'⟩ : ∃ t', t' = (writeD t nm pg b).2 := ⟨_, rfl⟩
  obtain ⟨T1, hT1⟩ : ∃ T1 : World → Prop, T1 = fun W => Pr J Kg W d q s' t ∧ Kj J K0 w0 W ∧ W.heap[g1]? = some (.cells (bcs b).toArray 5 (0, 0)) := ⟨_, rfl⟩
  obtain ⟨T2, hT2⟩ : ∃ T2 : World → Prop, T2 = fun W => Pr J Kg W d q s' t ∧ Kj J K0 w0 W ∧ ∃ cs : Array Value, W.heap[g1]? = some (.cells cs 5 (0, 0)) ∧ cs.size = bl := ⟨_, rfl⟩
  have HB1 : Hid (Calls Tryz.prog 27 #[.int .i64 (bl : Int), .int .u8 (fl.toNat : Int)] w0 fun e w' => e = .returned (.slice (some ⟨g1, 0, none⟩) bl bl) ∧ Pr J Kg w' d q s t ∧ Kj J K0 w0 w' ∧ w'.heap[g1]? = some (.cells (bcs b).toArray 5 (0, 0))) := hid ((bytes_any w0 bl (by omega) fl).mono (by
    rintro e w' ⟨he, hblk, hB⟩
    rw [← hg1, ← hb] at hblk
    rw [← hg1] at he
    refine ⟨he, (h0.grow hB).less (fun g hg => ?_), below_kj hB hKl hJl, hblk⟩
    rw [hKg] at hg
    rcases hg with hg | hg
    · exact .inl hg
    · exact .inr ⟨by omega, by rw [hg]; exact lt_of_block hblk⟩))
  have HW : Hid (∀ w1, Pr J Kg w1 d q s t → Kj J K0 w0 w1 → w1.heap[g1]? = some (.cells (bcs b).toArray 5 (0, 0)) → Calls Tryz.prog 22 #[.pointer (some ⟨d, 0, none⟩), St nm, .int .i64 pg, .slice (some ⟨g1, 0, none⟩) bl bl] w1 fun e w' => e = .returned (.int .i64 ed) ∧ T1 w') := hid (fun w1 h1 k1 hblk => by
    refine (pd_write h1 nm hnm hs pg hpg (.slice (some ⟨g1, 0, none⟩) bl bl) b (by rw [← hbll]; exact (brOf hblk).bo) (fun g hg => by cases hg; rw [hKg]; exact .inr rfl) (by omega)).mono ?_
    rintro e w' ⟨he, a1, a2⟩
    rw [← hed] at he
    rw [← hs'] at a1
    refine ⟨he, ?_⟩
    rw [hT1]
    exact ⟨a1, k1.trans (a2.less hKs), (a2.blk g1 (by rw [hKg]; exact .inr rfl)).trans hblk⟩)
  have hfin : ∀ W, ∀ w', Below W.heap.size W w' → Pr J Kg W d q s' t → Kj J K0 w0 W → Pr J Kg w' d q s' t ∧ Kj J K0 w0 w' := fun W w' hB p1 p2 => ⟨p1.low hB, p2.trans (below_kj hB (fun g hg => Nat.lt_of_lt_of_le (hKl g hg) p2.size) (fun g hg => Nat.lt_of_lt_of_le (hJl g hg) p2.size))⟩
  have HB2 : Hid (∀ W, T1 W → Calls Tryz.prog 27 #[.int .i64 (bl : Int), .int .u8 (fl.toNat : Int)] W fun e w' => ∃ v, e = .returned v ∧ v = .slice (some ⟨W.heap.size, 0, none⟩) bl bl ∧ w'.heap[W.heap.size]? = some (.cells (bcs b).toArray 5 (0, 0)) ∧ T1 w') := hid (fun W hW => by
    rw [hT1] at hW ⊢
    obtain ⟨p1, p2, p3⟩ := hW
    refine (bytes_any W bl (by omega) fl).mono ?_
    rintro e w' ⟨rfl, hblk, hB⟩
    rw [← hb] at hblk
    obtain ⟨q1, q2⟩ := hfin W w' hB p1 p2
    exact ⟨_, rfl, rfl, hblk, q1, q2, (hB.block g1 (lt_of_block p3)).trans p3⟩)
  have HB3 : Hid (∀ W, T2 W → Calls Tryz.prog 27 #[.int .i64 (bl : Int), .int .u8 (fl.toNat : Int)] W fun e w' => ∃ v, e = .returned v ∧ v = .slice (some ⟨W.heap.size, 0, none⟩) bl bl ∧ w'.heap[W.heap.size]? = some (.cells (bcs b).toArray 5 (0, 0)) ∧ W.heap.size < w'.heap.size ∧ T2 w' ∧ Below W.heap.size W w') := hid (fun W hW => by
    rw [hT2] at hW ⊢
    obtain ⟨p1, p2, cs, p3, p4⟩ := hW
    refine (bytes_any W bl (by omega) fl).mono ?_
    rintro e w' ⟨rfl, hblk, hB⟩
    rw [← hb] at hblk
    obtain ⟨q1, q2⟩ := hfin W w' hB p1 p2
    exact ⟨_, rfl, rfl, hblk, lt_of_block hblk, ⟨q1, q2, cs, (hB.block g1 (lt_of_block p3)).trans p3, p4⟩, hB⟩)
  have HM : Hid (∀ W w5, T2 W → Below W.heap.size W w5 → w5.heap[W.heap.size]? = some (.cells (bcs b).toArray 5 (0, 0)) → W.heap.size < w5.heap.size → T2 w5 → Calls Tryz.prog 28 #[.pointer (some ⟨q, 0, none⟩), St nm, .int .i64 pg, .slice (some ⟨W.heap.size, 0, none⟩) bl bl] w5 fun e w' => ∃ v, e = .returned v ∧ v = .int .i64 em ∧ Pr J K0 w' d q s' t' ∧ Kj J K0 w0 w') := hid (fun W w5 hW hB hblk hlt hW5 => by
    rw [hT2] at hW hW5
    obtain ⟨p1, p2, p3⟩ := hW
    obtain ⟨q1, q2, q3⟩ := hW5
    have hp := p1.grow hB
    have hx := pm_write hp nm ht pg (some ⟨W.heap.size, 0, none⟩) bl b (by omega) (fun W' hW' => by
      have e := (hW' W.heap.size (.inr ⟨Nat.le_refl _, hlt⟩)).trans hblk
      have := brOf e
      rw [hbll] at this ⊢
      exact this)
    rw [hbll] at hx
    refine hx.mono ?_
    rintro e w' ⟨rfl, a1, a2⟩
    rw [← hem]
    rw [← ht'] at a1
    exact ⟨_, rfl, rfl, a1.less (fun g hg => .inl (hKs g hg)), q2.trans (a2.less (fun g hg => .inl (hKs g hg)))⟩)
  have HBT : Hid (∀ W, T1 W → W.heap[bx]? = some (.cells #[.int .u8 (kd : Int), St nm, St to, .int .i64 pg, .int .u16 (lg : Int), .int .u8 (fl.toNat : Int), .int .u64 (kp : Int)] 31 (0, 0)) ∧ W.heap[g1]? = some (.cells (bcs b).toArray 5 (0, 0))) := hid (fun W hW => by
    rw [hT1] at hW
    exact ⟨HBX.out W hW.2.1, hW.2.2⟩)
  have HBU : Hid (∀ W, T2 W → W.heap[bx]? = some (.cells #[.int .u8 (kd : Int), St nm, St to, .int .i64 pg, .int .u16 (lg : Int), .int .u8 (fl.toNat : Int), .int .u64 (kp : Int)] 31 (0, 0))) := hid (fun W hW => by
    rw [hT2] at hW
    exact HBX.out W hW.2.1)
  have HTT : Hid (∀ W, T1 W → T2 W) := hid (fun W hW => by
    rw [hT1] at hW
    rw [hT2]
    exact ⟨hW.1, hW.2.1, _, hW.2.2, by simp [bcs, hbll]⟩)
  have HSET : Hid (∀ W (j : Nat) (v : Value), T2 W → j < bl → (∃ u, W.cell? ⟨g1, j, none⟩ = some u) ∧ W.frozen? ⟨g1, j, none⟩ = false ∧ T2 (W.setCell ⟨g1, j, none⟩ v)) := hid (fun W j v hW hj => by
    rw [hT2] at hW ⊢
    obtain ⟨p1, p2, cs, p3, p4⟩ := hW
    refine ⟨⟨cs[j]'(by omega), by rw [cell_of_heap p3]; exact Array.getElem?_eq_getElem (by omega)⟩, frozen_of_heap p3 j, p1.own (g := g1) (by rw [hKg]; exact .inr rfl) (Kf.set _ (by simp) _ _), p2.trans ⟨rfl, rfl, rfl, by simp [World.setCell], fun g hg => Below.heap_setCell _ _ _ _ (fun e => ?_), fun g hg => Below.heap_setCell _ _ _ _ (fun e => by have := hJl g hg; have e : g = g1 := e; omega)⟩, _, heap_setCell_same p3 j v, by simpa using p4⟩
    have := hKl g hg
    have e : g = g1 := e
    omega)
  have HDR : Hid (∀ W, T1 W → T1 W.drew) := hid (fun W hW => by
    rw [hT1] at hW ⊢
    exact ⟨hW.1.low ⟨rfl, rfl, rfl, Nat.le_refl _, fun _ _ => rfl⟩, ⟨hW.2.1.os, hW.2.1.tape, hW.2.1.output, hW.2.1.size, hW.2.1.blk, hW.2.1.jlk⟩, hW.2.2⟩)
  have HDR2 : Hid (∀ W, T2 W → T2 W.drew) := hid (fun W hW => by
    rw [hT2] at hW ⊢
    exact ⟨hW.1.low ⟨rfl, rfl, rfl, Nat.le_refl _, fun _ _ => rfl⟩, ⟨hW.2.1.os, hW.2.1.tape, hW.2.1.output, hW.2.1.size, hW.2.1.blk, hW.2.1.jlk⟩, hW.2.2⟩)
  have HE : Hid (s = t → (ed == em) = true) := hid (fun e => by rw [hed, hem, e]; simp)
  rw [← hs', ← ht']
  have HBL := hid hbll
  obtain ⟨fl, hfl⟩ : ∃ f : Int, f = (fl.toNat : Int) := ⟨_, rfl⟩
  rw [← hfl] at hb0 hw0 HBX HB1 HB2 HB3 HBT HBU ⊢
  have HB0 := hid hb0
  have HBE := hid hbx
  have HBB := hid hblb
  clear h h0 hs ht hB0 hb0 hK0 hfl hKx hnm hto hpg hlg hkp hk hT1 hT2 hKg hg1 hfin hKs hKl hJl hs' ht' hed hem hbll hb hbln hblb
  go_enter Tryz.func10, Tryz.ntmps10
  go_wp2_with fail
  rw [← hw0]
  refine HB1.out.mono ?_
  rintro e w1 ⟨rfl, h1, k1, b1⟩
  have c1 : w1.cell? ⟨w.heap.size, 1, none⟩ = some (St nm) := by rw [← hbx]; exact (cell_of_heap (HBX.out w1 k1) 1).trans rfl
  have c3 : w1.cell? ⟨w.heap.size, 3, none⟩ = some (.int .i64 pg) := by rw [← hbx]; exact (cell_of_heap (HBX.out w1 k1) 3).trans rfl
  have HW1 := hid (HW.out w1 h1 k1 b1)
  clear hw0 h1 k1 b1
  go_wp2_with fail
  refine HW1.out.mono ?_
  rintro e w2 ⟨rfl, t2⟩
  have HT2 := hid (HDR.out w2 t2)
  have hs0 : (fun W : World => W.heap[bx]? = some (.cells #[.int .u8 (kd : Int), St nm, St to, .int .i64 pg, .int .u16 (lg : Int), .int .u8 fl, .int .u64 (kp : Int)] 31 (0, 0)) ∧ W.heap[g1]? = some (.cells (bcs b).toArray 5 (0, 0))) w2.drew := HBT.out w2.drew HT2.out
  clear t2 c1 c3
  go_wp2_with fail
  rw [← hbx]
  clear hbx
  refine wp_region_held (S := fun W : World => W.heap[bx]? = some (.cells #[.int .u8 (kd : Int), St nm, St to, .int .i64 pg, .int .u16 (lg : Int), .int .u8 fl, .int .u64 (kp : Int)] 31 (0, 0)) ∧ W.heap[g1]? = some (.cells (bcs b).toArray 5 (0, 0))) (by kernel_rfl) ?_
  refine wpAnyH_take (i := 0) (oi := pf0) (v := .slice (some ⟨g1, 0, none⟩) bl bl) rfl (by kernel_rfl) (by kernel_rfl) (by kernel_rfl) (fun _ _ _ h => h) (y_all rfl (fun _ => rfl)) hs0 ?_
  simp only [Act.put, pf0, List.setIfInBounds_toArray, List.set_cons_zero, List.set_cons_succ]
  refine wpAnyH_take (i := 2) (oi := pf2) (v := .slice (some ⟨g1, 0, none⟩) bl bl) rfl (by kernel_rfl) (by kernel_rfl) (by kernel_rfl) (fun _ _ _ h => h) (y_all rfl (fun _ => rfl)) hs0 ?_
  simp only [Act.put, pf2, List.setIfInBounds_toArray, List.set_cons_zero, List.set_cons_succ]
  refine wpAnyH_take (i := 4) (oi := pf4) (v := .pointer (some ⟨bx, 5, none⟩)) rfl (by kernel_rfl) (by kernel_rfl) (by kernel_rfl) (fun _ _ _ h => h) (y_all rfl (fun _ => by simp only [pf4]; go_simp)) hs0 ?_
  simp only [Act.put, pf4, List.setIfInBounds_toArray, List.set_cons_zero, List.set_cons_succ]
  refine wpAnyH_take (i := 1) (oi := pf1) (v := St b) rfl (by kernel_rfl) (by kernel_rfl) (by kernel_rfl) (fun _ _ _ h => h) (y_text (bv := .slice (some ⟨g1, 0, none⟩) bl bl) rfl (.tmp 51) rfl rfl (fun w hw => by have := brOf hw.2; rw [HBL.out] at this; exact this)) hs0 ?_
  simp only [Act.put, pf1, List.setIfInBounds_toArray, List.set_cons_zero, List.set_cons_succ]
  refine wpAnyH_take (i := 3) (oi := pf3) (v := .int .i64 (bl : Int)) rfl (by kernel_rfl) (by kernel_rfl) (by kernel_rfl) (fun _ _ _ h => h) (y_all rfl (fun _ => by simp only [pf3]; go_simp)) hs0 ?_
  simp only [Act.put, pf3, List.setIfInBounds_toArray, List.set_cons_zero, List.set_cons_succ]
  refine wpAnyH_take (i := 5) (oi := pf5) (v := .int .u8 fl) rfl (by kernel_rfl) (by kernel_rfl) (by kernel_rfl) (fun _ _ _ h => h) (y_load rfl 5 (.tmp 55) rfl bx 5 rfl (fun w hw => load5 ((cell_of_heap hw.1 5).trans rfl))) hs0 ?_
  simp only [Act.put, pf5, List.setIfInBounds_toArray, List.set_cons_zero, List.set_cons_succ]
  refine wpAnyH_all (rs := [6]) (by kernel_rfl) (by simp) (all1 ?_)
  refine op_call (o := pf6) (f := 27) (args := #[.int .i64 (bl : Int), .int .u8 fl]) (R := fun v w' => v = .slice (some ⟨w2.drew.heap.size, 0, none⟩) bl bl ∧ w'.heap[w2.drew.heap.size]? = some (.cells (bcs b).toArray 5 (0, 0)) ∧ T1 w') rfl rfl (by simp only [pf6]; go_simp) (HB2.out w2.drew HT2.out) ?_
  rintro v0 w3 ⟨rfl, hb3, ht3⟩
  have hs0 := HBT.out w3 ht3
  have HT3 := hid ht3
  have HX3 := hid (brOf (b := b) hb3)
  clear hb3 ht3
  refine ⟨hs0, ?_⟩
  simp only [Act.put, pf6, List.setIfInBounds_toArray, List.set_cons_zero, List.set_cons_succ]
  refine wpAnyH_all (rs := [7]) (by kernel_rfl) (by simp) (all1 ?_)
  refine op_text (o := pf7) rfl rfl (.tmp 57) rfl (.slice (some ⟨w2.drew.heap.size, 0, none⟩) bl bl) (St b) (by rfl) (text_br (HBL.out ▸ HX3.out)) ?_
  refine ⟨hs0, ?_⟩
  simp only [Act.put, pf7, List.setIfInBounds_toArray, List.set_cons_zero, List.set_cons_succ]
  refine wpAnyH_take (i := 8) (oi := pf8) (v := .bool true) rfl (by kernel_rfl) (by kernel_rfl) (by kernel_rfl) (fun _ _ _ h => h) (y_all rfl (fun _ => by simp only [pf8]; go_simp)) hs0 ?_
  simp only [Act.put, pf8, List.setIfInBounds_toArray, List.set_cons_zero, List.set_cons_succ]
  refine wpAnyH_take (i := 9) (oi := pf9) (v := .bool true) rfl (by kernel_rfl) (by kernel_rfl) (by kernel_rfl) (fun _ _ _ h => h) (y_all rfl (fun _ => rfl)) hs0 ?_
  simp only [Act.put, pf9, List.setIfInBounds_toArray, List.set_cons_zero, List.set_cons_succ]
  refine wpAnyH_done (by kernel_rfl) ?_ _
  clear hs0
  go_wp2_with fail
  go_loopg [10] bl (fun gg vj wr => ∃ j : Nat, gg = bl - j ∧ j ≤ bl ∧ vj = .int .i64 (j : Int) ∧ T2 wr)
  case atStart => exact ⟨0, rfl, Nat.zero_le _, rfl, HTT.out _ HT3.out⟩
  case round =>
    obtain ⟨j, rfl, hj, rfl, hT⟩ := hrel
    by_cases hjl : j < bl
    · obtain ⟨⟨u, hu⟩, hf, hN⟩ := HSET.out wr j (.int .u8 238) hT hjl
      have HN := hid hN
      have hjw : IntKind.i64.wrap ((j : Int) + 1) = ((j + 1 : Nat) : Int) := by rw [IntKind.wrap_i64]; have := HBB.out; omega
      have hj0 : (0 : Int) ≤ (j : Int) := Int.natCast_nonneg _
      have hj1 : (j : Int) < (bl : Int) := by omega
      have HJ := hid hjl
      clear hN hT hj hjl
      go_wp2_with fail
      go_roundg (bl - (j + 1))
      case measure => have := HJ.out; omega
      case rel => exact ⟨j + 1, rfl, HJ.out, rfl, HN.out⟩
    · have hje : j = bl := by omega
      subst hje
      have HT4 := hid (HDR2.out wr hT)
      have hs0 : (fun W : World => W.heap[bx]? = some (.cells #[.int .u8 (kd : Int), St nm, St to, .int .i64 pg, .int .u16 (lg : Int), .int .u8 fl, .int .u64 (kp : Int)] 31 (0, 0))) wr.drew := HBU.out wr.drew HT4.out
      have hjn : ¬ (j : Int) < (j : Int) := by omega
      clear hT hj hjl
      go_wp2_with fail
      refine wp_region_held (S := fun W : World => W.heap[bx]? = some (.cells #[.int .u8 (kd : Int), St nm, St to, .int .i64 pg, .int .u16 (lg : Int), .int .u8 fl, .int .u64 (kp : Int)] 31 (0, 0))) (by kernel_rfl) ?_
      refine wpAnyH_take (i := 0) (oi := pg0) (v := .bool true) rfl (by kernel_rfl) (by kernel_rfl) (by kernel_rfl) (fun _ _ _ h => h) (y_all rfl (fun _ => rfl)) hs0 ?_
      simp only [Act.put, pg0, List.setIfInBounds_toArray, List.set_cons_zero, List.set_cons_succ]
      refine wpAnyH_take (i := 1) (oi := pg1) (v := .bool true) rfl (by kernel_rfl) (by kernel_rfl) (by kernel_rfl) (fun _ _ _ h => h) (y_all rfl (fun _ => rfl)) hs0 ?_
      simp only [Act.put, pg1, List.setIfInBounds_toArray, List.set_cons_zero, List.set_cons_succ]
      refine wpAnyH_take (i := 2) (oi := pg2) (v := .int .i64 ed) rfl (by kernel_rfl) (by kernel_rfl) (by kernel_rfl) (fun _ _ _ h => h) (g_all (by rfl) (fun _ => rfl)) hs0 ?_
      simp only [Act.put, pg2, List.setIfInBounds_toArray, List.set_cons_zero, List.set_cons_succ]
      refine wpAnyH_take (i := 3) (oi := pg3) (v := .pointer (some ⟨q, 0, none⟩)) rfl (by kernel_rfl) (by kernel_rfl) (by kernel_rfl) (fun _ _ _ h => h) (g_all (by rfl) (fun _ => rfl)) hs0 ?_
      simp only [Act.put, pg3, List.setIfInBounds_toArray, List.set_cons_zero, List.set_cons_succ]
      refine wpAnyH_take (i := 4) (oi := pg4) (v := .pointer (some ⟨bx, 1, none⟩)) rfl (by kernel_rfl) (by kernel_rfl) (by kernel_rfl) (fun _ _ _ h => h) (g_all (by rfl) (fun _ => by simp only [pg4]; go_simp)) hs0 ?_
      simp only [Act.put, pg4, List.setIfInBounds_toArray, List.set_cons_zero, List.set_cons_succ]
      refine wpAnyH_take (i := 6) (oi := pg6) (v := .pointer (some ⟨bx, 3, none⟩)) rfl (by kernel_rfl) (by kernel_rfl) (by kernel_rfl) (fun _ _ _ h => h) (g_all (by rfl) (fun _ => by simp only [pg6]; go_simp)) hs0 ?_
      simp only [Act.put, pg6, List.setIfInBounds_toArray, List.set_cons_zero, List.set_cons_succ]
      refine wpAnyH_take (i := 8) (oi := pg8) (v := .slice (some ⟨g1, 0, none⟩) j j) rfl (by kernel_rfl) (by kernel_rfl) (by kernel_rfl) (fun _ _ _ h => h) (g_all (by rfl) (fun _ => rfl)) hs0 ?_
      simp only [Act.put, pg8, List.setIfInBounds_toArray, List.set_cons_zero, List.set_cons_succ]
      refine wpAnyH_take (i := 10) (oi := pg10) (v := .pointer (some ⟨bx, 5, none⟩)) rfl (by kernel_rfl) (by kernel_rfl) (by kernel_rfl) (fun _ _ _ h => h) (g_all (by rfl) (fun _ => by simp only [pg10]; go_simp)) hs0 ?_
      simp only [Act.put, pg10, List.setIfInBounds_toArray, List.set_cons_zero, List.set_cons_succ]
      refine wpAnyH_take (i := 5) (oi := pg5) (v := St nm) rfl (by kernel_rfl) (by kernel_rfl) (by kernel_rfl) (fun _ _ _ h => h) (g_load (by rfl) 9 (.tmp 73) rfl bx 1 rfl (fun w hw => load9 ((cell_of_heap hw 1).trans rfl))) hs0 ?_
      simp only [Act.put, pg5, List.setIfInBounds_toArray, List.set_cons_zero, List.set_cons_succ]
      refine wpAnyH_take (i := 7) (oi := pg7) (v := .int .i64 pg) rfl (by kernel_rfl) (by kernel_rfl) (by kernel_rfl) (fun _ _ _ h => h) (g_load (by rfl) 3 (.tmp 75) rfl bx 3 rfl (fun w hw => load3 ((cell_of_heap hw 3).trans rfl))) hs0 ?_
      simp only [Act.put, pg7, List.setIfInBounds_toArray, List.set_cons_zero, List.set_cons_succ]
      refine wpAnyH_take (i := 9) (oi := pg9) (v := .int .i64 (j : Int)) rfl (by kernel_rfl) (by kernel_rfl) (by kernel_rfl) (fun _ _ _ h => h) (g_all (by rfl) (fun _ => by simp only [pg9]; go_simp)) hs0 ?_
      simp only [Act.put, pg9, List.setIfInBounds_toArray, List.set_cons_zero, List.set_cons_succ]
      refine wpAnyH_take (i := 11) (oi := pg11) (v := .int .u8 fl) rfl (by kernel_rfl) (by kernel_rfl) (by kernel_rfl) (fun _ _ _ h => h) (g_load (by rfl) 5 (.tmp 79) rfl bx 5 rfl (fun w hw => load5 ((cell_of_heap hw 5).trans rfl))) hs0 ?_
      simp only [Act.put, pg11, List.setIfInBounds_toArray, List.set_cons_zero, List.set_cons_succ]
      refine wpAnyH_all (rs := [12]) (by kernel_rfl) (by simp) (all1 ?_)
      refine g_call (o := pg12) (f := 27) (args := #[.int .i64 (j : Int), .int .u8 fl]) (R := fun v w' => v = .slice (some ⟨wr.drew.heap.size, 0, none⟩) j j ∧ w'.heap[wr.drew.heap.size]? = some (.cells (bcs b).toArray 5 (0, 0)) ∧ wr.drew.heap.size < w'.heap.size ∧ T2 w' ∧ Below wr.drew.heap.size wr.drew w') rfl (by rfl) (by simp only [pg12]; go_simp) (HB3.out wr.drew HT4.out) ?_
      rintro v0 w5 ⟨rfl, hb5, hl5, ht5, hB5⟩
      have hs0 := HBU.out w5 ht5
      have HWM := hid (HM.out wr.drew w5 HT4.out hB5 hb5 hl5 ht5)
      clear hb5 ht5 hl5 hB5
      refine ⟨hs0, ?_⟩
      simp only [Act.put, pg12, List.setIfInBounds_toArray, List.set_cons_zero, List.set_cons_succ]
      refine wpAnyH_all (rs := [13]) (by kernel_rfl) (by simp) (all1 ?_)
      refine g_call (o := pg13) (f := 28) (args := #[.pointer (some ⟨q, 0, none⟩), St nm, .int .i64 pg, .slice (some ⟨wr.drew.heap.size, 0, none⟩) j j]) (R := fun v w' => v = .int .i64 em ∧ Pr J K0 w' d q s' t' ∧ Kj J K0 w0 w') rfl (by rfl) (by simp only [pg13]; go_simp) HWM.out ?_
      rintro v0 w6 ⟨rfl, h6, k6⟩
      have hs0 := HBX.out w6 k6
      have H6 := hid h6
      have K6 := hid k6
      clear h6 k6
      refine ⟨hs0, ?_⟩
      simp only [Act.put, pg13, List.setIfInBounds_toArray, List.set_cons_zero, List.set_cons_succ]
      refine wpAnyH_take (i := 14) (oi := pg14) (v := .bool (ed == em)) rfl (by kernel_rfl) (by kernel_rfl) (by kernel_rfl) (fun _ _ _ h => h) (g_all (by rfl) (fun _ => by simp only [pg14]; go_simp)) hs0 ?_
      simp only [Act.put, pg14, List.setIfInBounds_toArray, List.set_cons_zero, List.set_cons_succ]
      refine wpAnyH_take (i := 15) (oi := pg15) (v := .bool (ed == em)) rfl (by kernel_rfl) (by kernel_rfl) (by kernel_rfl) (fun _ _ _ h => h) (y_all rfl (fun _ => by simp only [pg15]; go_simp)) hs0 ?_
      simp only [Act.put, pg15, List.setIfInBounds_toArray, List.set_cons_zero, List.set_cons_succ]
      refine wpAnyH_take (i := 16) (oi := pg16) (v := .bool (ed == em)) rfl (by kernel_rfl) (by kernel_rfl) (by kernel_rfl) (fun _ _ _ h => h) (y_all rfl (fun _ => rfl)) hs0 ?_
      simp only [Act.put, pg16, List.setIfInBounds_toArray, List.set_cons_zero, List.set_cons_succ]
      refine wpAnyH_done (by kernel_rfl) ?_ _
      clear hs0
      go_wp2_with fail
      go_ret
      exact PlE.mk (b := ed == em) rfl HE.out (HFR.out _ _ _ H6.out K6.out)
end Go.Proofs.YtojnembakhhgiaaGreat
