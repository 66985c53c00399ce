import Derived.Test.YtojnembakhhgiaaGreatPbAll
/- One call of a row, on a disk and on the document's: createD. -/
namespace Go.Proofs.YtojnembakhhgiaaGreat
open Go.RowKit

def pa0 : Oper := { dst := some 26, op := Go.Op.move (Go.Operand.tmp 0), type := 24, pos := "law.go:82", after := #[], guard := none }
def pa1 : Oper := { dst := some 27, op := Go.Op.fieldAddr 31 (Go.Operand.tmp 5) 1, type := 0, pos := "law.go:82", after := #[], guard := none }
def pa2 : Oper := { dst := some 28, op := Go.Op.load 9 (Go.Operand.tmp 27), type := 9, pos := "law.go:82", after := #[{ on := 1, ground := Go.Ground.data }], guard := none }
def pa3 : Oper := { dst := some 29, op := Go.Op.call { callee := Go.Callee.value (Go.Operand.func 15), args := #[Go.Operand.tmp 26, Go.Operand.tmp 28], argTypes := #[24, 9] }, type := 38, pos := "law.go:82", after := #[{ on := 0, ground := Go.Ground.data }, { on := 2, ground := Go.Ground.data }], guard := none }
def pa4 : Oper := { dst := some 30, op := Go.Op.move (Go.Operand.tmp 1), type := 26, pos := "law.go:82", after := #[], guard := none }
def pa5 : Oper := { dst := some 31, op := Go.Op.fieldAddr 31 (Go.Operand.tmp 5) 1, type := 0, pos := "law.go:82", after := #[], guard := none }
def pa6 : Oper := { dst := some 32, op := Go.Op.load 9 (Go.Operand.tmp 31), type := 9, pos := "law.go:82", after := #[{ on := 5, ground := Go.Ground.data }], guard := none }
def pa7 : Oper := { dst := some 33, op := Go.Op.call { callee := Go.Callee.value (Go.Operand.func 26), args := #[Go.Operand.tmp 30, Go.Operand.tmp 32], argTypes := #[26, 9] }, type := 38, pos := "law.go:82", after := #[{ on := 4, ground := Go.Ground.data }, { on := 6, ground := Go.Ground.data }, { on := 3, ground := Go.Ground.chain }], guard := none }
def pa8 : Oper := { dst := some 34, op := Go.Op.binOp Go.BinOp.eql 38 (Go.Operand.tmp 29) (Go.Operand.tmp 33) 38, type := 4, pos := "law.go:82", after := #[{ on := 3, ground := Go.Ground.data }, { on := 7, ground := Go.Ground.data }], guard := none }
def pa9 : Oper := { dst := some 6, op := Go.Op.assign (Go.Operand.tmp 34), type := 4, pos := "law.go:82", after := #[{ on := 8, ground := Go.Ground.data }, { on := 7, ground := Go.Ground.chain }, { on := 0, ground := Go.Ground.phase }, { on := 1, ground := Go.Ground.phase }, { on := 2, ground := Go.Ground.phase }, { on := 3, ground := Go.Ground.phase }, { on := 4, ground := Go.Ground.phase }, { on := 5, ground := Go.Ground.phase }, { on := 6, ground := Go.Ground.phase }, { on := 7, ground := Go.Ground.phase }, { on := 8, ground := Go.Ground.phase }], guard := none }

set_option maxRecDepth 100000 in
set_option maxHeartbeats 8000000 in
theorem plays0 {J K : Nat → Prop} {w : World} {d q : Nat} {s t : Ds} (h : Pr J K w d q s t) (hs : Sm 1 s) (ht : Sm 1 t) (x : Ox) (hx : Oxr x) (hk : x.kind % 11 = 0) : Calls Tryz.prog 10 #[.pointer (some ⟨d, 0, none⟩), .pointer (some ⟨q, 0, none⟩), .agg (xcs x)] w (PlE J K w d q s t (createD s x.name).2 (createD t x.name).2) := by
  obtain ⟨kd, nm, to, pg, lg, fl, kp⟩ := x
  obtain ⟨hkd, hnm, hto, hpg, hlg, hkp⟩ := hx
  simp only at hk hkd hnm hto hpg hlg hkp ⊢
  unfold xcs
  obtain ⟨w0, hw0⟩ : ∃ w0, w0 = w.alloc (.cells #[.int .u8 (kd : Int), St nm, St to, .int .i64 pg, .int .u16 (lg : Int), .int .u8 (fl.toNat : Int), .int .u64 (kp : Int)] 31) := ⟨_, rfl⟩
  obtain ⟨bx, hbx⟩ : ∃ bx, bx = w.heap.size := ⟨_, rfl⟩
  have hB0 : Below w.heap.size w w0 := hw0 ▸ (Below.refl _ _).alloc (Nat.le_refl _) _
  have hb0 : w0.heap[bx]? = some (.cells #[.int .u8 (kd : Int), St nm, St to, .int .i64 pg, .int .u16 (lg : Int), .int .u8 (fl.toNat : Int), .int .u64 (kp : Int)] 31 (0, 0)) := by rw [hw0, hbx]; exact heap_alloc_new w _
  have h0 := h.grow hB0
  obtain ⟨K0, hK0⟩ : ∃ K0 : Nat → Prop, K0 = fun g => K g ∨ (w.heap.size ≤ g ∧ g < w0.heap.size) := ⟨_, rfl⟩
  rw [← hK0] at h0
  have hKx : K0 bx := by rw [hK0]; exact .inr ⟨by omega, lt_of_block hb0⟩
  have HFR : Hid (∀ W s' t', Pr J K0 W d q s' t' → Kj J K0 w0 W → Pr J K W d q s' t' ∧ Kj J K w W) := hid (fun W s' t' h1 h2 => ⟨h1.less (fun g hg => by rw [hK0]; exact .inl hg), (below_kj hB0 (fun g hg => h.lt hg) (fun g hg => h.jt hg)).trans (h2.less (fun g hg => by rw [hK0]; exact .inl hg))⟩)
  have HBX : Hid (∀ W, Kj J K0 w0 W → W.heap[bx]? = some (.cells #[.int .u8 (kd : Int), St nm, St to, .int .i64 pg, .int .u16 (lg : Int), .int .u8 (fl.toNat : Int), .int .u64 (kp : Int)] 31 (0, 0))) := hid (fun W h2 => (h2.blk bx hKx).trans hb0)
  have hrem : (kd : Int) % 11 = 0 := by omega
  have HS := hid hs
  have HT := hid ht
  have H0 := hid h0
  have HD : Hid (Calls Tryz.prog 15 #[.pointer (some ⟨d, 0, none⟩), St nm] w0.drew fun e w' => ∃ v, e = .returned v ∧ v = .int .i64 ((createD s nm).1 : Int) ∧ Pr J K0 w' d q (createD s nm).2 t ∧ Kj J K0 w0 w') := hid ((pd_create (h0.low (w' := w0.drew) ⟨rfl, rfl, rfl, Nat.le_refl _, fun _ _ => rfl⟩) nm hnm hs).mono (by
    rintro e w' ⟨rfl, a, b⟩
    exact ⟨_, rfl, rfl, a, b.os, b.tape, b.output, b.size, b.blk, b.jlk⟩))
  have HM : Hid (∀ w1, Pr J K0 w1 d q (createD s nm).2 t → Kj J K0 w0 w1 → Calls Tryz.prog 26 #[.pointer (some ⟨q, 0, none⟩), St nm] w1 fun e w' => ∃ v, e = .returned v ∧ v = .int .i64 ((createD t nm).1 : Int) ∧ Pr J K0 w' d q (createD s nm).2 (createD t nm).2 ∧ Kj J K0 w0 w') := hid (fun w1 h1 k1 => (pm_create h1 nm HT.out).mono (by
    rintro e w' ⟨rfl, a, b⟩
    exact ⟨_, rfl, rfl, a, k1.trans b⟩))
  have HE : Hid (s = t → (((createD s nm).1 : Int) == ((createD t nm).1 : Int)) = true) := hid (fun e => by rw [e]; simp)
  obtain ⟨ed, hed⟩ : ∃ ed : Int, ed = ((createD s nm).1 : Int) := ⟨_, rfl⟩
  obtain ⟨em, hem⟩ : ∃ em : Int, em = ((createD t nm).1 : Int) := ⟨_, rfl⟩
  rw [← hed] at HD HE
  rw [← hem] at HM HE
  generalize (createD s nm).2 = s' at *
  generalize (createD t nm).2 = t' at *
  obtain ⟨fl, hfl⟩ : ∃ f : Int, f = (fl.toNat : Int) := ⟨_, rfl⟩
  rw [← hfl] at hb0 hw0 HBX ⊢
  have HB0 := hid hb0
  have HBE := hid hbx
  have HKX := hid hKx
  clear h h0 hs ht hB0 hb0 hK0 hed hem hfl hKx hnm hto hpg hlg hkp hk
  go_enter Tryz.func10, Tryz.ntmps10
  go_wp2_with fail
  rw [← hw0, ← hbx]
  clear hw0 hbx
  have hs0 : (fun W : World => W.heap[bx]? = some (.cells #[.int .u8 (kd : Int), St nm, St to, .int .i64 pg, .int .u16 (lg : Int), .int .u8 fl, .int .u64 (kp : Int)] 31 (0, 0))) w0.drew := HB0.out
  refine wp_region_held (S := fun W : World => W.heap[bx]? = some (.cells #[.int .u8 (kd : Int), St nm, St to, .int .i64 pg, .int .u16 (lg : Int), .int .u8 fl, .int .u64 (kp : Int)] 31 (0, 0))) (by kernel_rfl) ?_
  refine wpAnyH_take (i := 0) (oi := pa0) (v := .pointer (some ⟨d, 0, none⟩)) rfl (by kernel_rfl) (by kernel_rfl) (by kernel_rfl) (fun _ _ _ h => h) (y_all rfl (fun _ => rfl)) hs0 ?_
  simp only [Act.put, pa0, List.setIfInBounds_toArray, List.set_cons_zero, List.set_cons_succ]
  refine wpAnyH_take (i := 1) (oi := pa1) (v := .pointer (some ⟨bx, 1, none⟩)) rfl (by kernel_rfl) (by kernel_rfl) (by kernel_rfl) (fun _ _ _ h => h) (y_all rfl (fun _ => by simp only [pa1]; go_simp)) hs0 ?_
  simp only [Act.put, pa1, List.setIfInBounds_toArray, List.set_cons_zero, List.set_cons_succ]
  refine wpAnyH_take (i := 4) (oi := pa4) (v := .pointer (some ⟨q, 0, none⟩)) rfl (by kernel_rfl) (by kernel_rfl) (by kernel_rfl) (fun _ _ _ h => h) (y_all rfl (fun _ => rfl)) hs0 ?_
  simp only [Act.put, pa4, List.setIfInBounds_toArray, List.set_cons_zero, List.set_cons_succ]
  refine wpAnyH_take (i := 5) (oi := pa5) (v := .pointer (some ⟨bx, 1, none⟩)) rfl (by kernel_rfl) (by kernel_rfl) (by kernel_rfl) (fun _ _ _ h => h) (y_all rfl (fun _ => by simp only [pa5]; go_simp)) hs0 ?_
  simp only [Act.put, pa5, List.setIfInBounds_toArray, List.set_cons_zero, List.set_cons_succ]
  refine wpAnyH_take (i := 2) (oi := pa2) (v := St nm) rfl (by kernel_rfl) (by kernel_rfl) (by kernel_rfl) (fun _ _ _ h => h) (y_load rfl 9 (.tmp 27) rfl bx 1 rfl (fun w hw => load9 ((cell_of_heap hw 1).trans rfl))) hs0 ?_
  simp only [Act.put, pa2, List.setIfInBounds_toArray, List.set_cons_zero, List.set_cons_succ]
  refine wpAnyH_take (i := 6) (oi := pa6) (v := St nm) rfl (by kernel_rfl) (by kernel_rfl) (by kernel_rfl) (fun _ _ _ h => h) (y_load rfl 9 (.tmp 31) rfl bx 1 rfl (fun w hw => load9 ((cell_of_heap hw 1).trans rfl))) hs0 ?_
  simp only [Act.put, pa6, List.setIfInBounds_toArray, List.set_cons_zero, List.set_cons_succ]
  refine wpAnyH_all (rs := [3]) (by kernel_rfl) (by simp) (all1 ?_)
  refine op_call (o := pa3) (f := 15) (args := #[.pointer (some ⟨d, 0, none⟩), St nm]) (R := fun v w' => v = .int .i64 ed ∧ Pr J K0 w' d q s' t ∧ Kj J K0 w0 w') rfl rfl (by simp only [pa3]; go_simp) HD.out ?_
  rintro v0 w1 ⟨rfl, h1, k1⟩
  have hs0 := HBX.out w1 k1
  have HMM := hid (HM.out w1 h1 k1)
  clear h1 k1
  refine ⟨hs0, ?_⟩
  simp only [Act.put, pa3, List.setIfInBounds_toArray, List.set_cons_zero, List.set_cons_succ]
  refine wpAnyH_all (rs := [7]) (by kernel_rfl) (by simp) (all1 ?_)
  refine op_call (o := pa7) (f := 26) (args := #[.pointer (some ⟨q, 0, none⟩), St nm]) (R := fun v w' => v = .int .i64 em ∧ Pr J K0 w' d q s' t' ∧ Kj J K0 w0 w') rfl rfl (by simp only [pa7]; go_simp) HMM.out ?_
  rintro v0 w2 ⟨rfl, h2, k2⟩
  have hs0 := HBX.out w2 k2
  have H2 := hid h2
  have K2 := hid k2
  clear h2 k2
  refine ⟨hs0, ?_⟩
  simp only [Act.put, pa7, List.setIfInBounds_toArray, List.set_cons_zero, List.set_cons_succ]
  refine wpAnyH_take (i := 8) (oi := pa8) (v := .bool (ed == em)) rfl (by kernel_rfl) (by kernel_rfl) (by kernel_rfl) (fun _ _ _ h => h) (y_all rfl (fun _ => by simp only [pa8]; go_simp)) hs0 ?_
  simp only [Act.put, pa8, List.setIfInBounds_toArray, List.set_cons_zero, List.set_cons_succ]
  refine wpAnyH_take (i := 9) (oi := pa9) (v := .bool (ed == em)) rfl (by kernel_rfl) (by kernel_rfl) (by kernel_rfl) (fun _ _ _ h => h) (y_all rfl (fun _ => rfl)) hs0 ?_
  simp only [Act.put, pa9, List.setIfInBounds_toArray, List.set_cons_zero, List.set_cons_succ]
  refine wpAnyH_done (by kernel_rfl) ?_ _
  clear hs0
  go_wp2_with fail
  go_ret
  exact PlE.mk (b := ed == em) rfl HE.out (HFR.out _ _ _ H2.out K2.out)
end Go.Proofs.YtojnembakhhgiaaGreat

/- One call of a row, on a disk and on the document's: syncD. -/
namespace Go.Proofs.YtojnembakhhgiaaGreat
open Go.RowKit

def pb0 : Oper := { dst := some 87, op := Go.Op.move (Go.Operand.tmp 0), type := 24, pos := "law.go:92", after := #[], guard := none }
def pb1 : Oper := { dst := some 88, op := Go.Op.fieldAddr 31 (Go.Operand.tmp 5) 1, type := 0, pos := "law.go:92", after := #[], guard := none }
def pb2 : Oper := { dst := some 89, op := Go.Op.load 9 (Go.Operand.tmp 88), type := 9, pos := "law.go:92", after := #[{ on := 1, ground := Go.Ground.data }], guard := none }
def pb3 : Oper := { dst := some 90, op := Go.Op.call { callee := Go.Callee.value (Go.Operand.func 23), args := #[Go.Operand.tmp 87, Go.Operand.tmp 89], argTypes := #[24, 9] }, type := 38, pos := "law.go:92", after := #[{ on := 0, ground := Go.Ground.data }, { on := 2, ground := Go.Ground.data }], guard := none }
def pb4 : Oper := { dst := some 91, op := Go.Op.move (Go.Operand.tmp 1), type := 26, pos := "law.go:92", after := #[], guard := none }
def pb5 : Oper := { dst := some 92, op := Go.Op.fieldAddr 31 (Go.Operand.tmp 5) 1, type := 0, pos := "law.go:92", after := #[], guard := none }
def pb6 : Oper := { dst := some 93, op := Go.Op.load 9 (Go.Operand.tmp 92), type := 9, pos := "law.go:92", after := #[{ on := 5, ground := Go.Ground.data }], guard := none }
def pb7 : Oper := { dst := some 94, op := Go.Op.call { callee := Go.Callee.value (Go.Operand.func 29), args := #[Go.Operand.tmp 91, Go.Operand.tmp 93], argTypes := #[26, 9] }, type := 38, pos := "law.go:92", after := #[{ on := 4, ground := Go.Ground.data }, { on := 6, ground := Go.Ground.data }, { on := 3, ground := Go.Ground.chain }], guard := none }
def pb8 : Oper := { dst := some 95, op := Go.Op.binOp Go.BinOp.eql 38 (Go.Operand.tmp 90) (Go.Operand.tmp 94) 38, type := 4, pos := "law.go:92", after := #[{ on := 3, ground := Go.Ground.data }, { on := 7, ground := Go.Ground.data }], guard := none }
def pb9 : Oper := { dst := some 6, op := Go.Op.assign (Go.Operand.tmp 95), type := 4, pos := "law.go:92", after := #[{ on := 8, ground := Go.Ground.data }, { on := 7, ground := Go.Ground.chain }, { on := 0, ground := Go.Ground.phase }, { on := 1, ground := Go.Ground.phase }, { on := 2, ground := Go.Ground.phase }, { on := 3, ground := Go.Ground.phase }, { on := 4, ground := Go.Ground.phase }, { on := 5, ground := Go.Ground.phase }, { on := 6, ground := Go.Ground.phase }, { on := 7, ground := Go.Ground.phase }, { on := 8, ground := Go.Ground.phase }], guard := none }

set_option maxRecDepth 100000 in
set_option maxHeartbeats 8000000 in
theorem plays2 {J K : Nat → Prop} {w : World} {d q : Nat} {s t : Ds} (h : Pr J K w d q s t) (hs : Sm 1 s) (ht : Sm 1 t) (x : Ox) (hx : Oxr x) (hk : x.kind % 11 = 2) : Calls Tryz.prog 10 #[.pointer (some ⟨d, 0, none⟩), .pointer (some ⟨q, 0, none⟩), .agg (xcs x)] w (PlE J K w d q s t (syncD s x.name).2 (syncD t x.name).2) := by
  obtain ⟨kd, nm, to, pg, lg, fl, kp⟩ := x
  obtain ⟨hkd, hnm, hto, hpg, hlg, hkp⟩ := hx
  simp only at hk hkd hnm hto hpg hlg hkp ⊢
  unfold xcs
  obtain ⟨w0, hw0⟩ : ∃ w0, w0 = w.alloc (.cells #[.int .u8 (kd : Int), St nm, St to, .int .i64 pg, .int .u16 (lg : Int), .int .u8 (fl.toNat : Int), .int .u64 (kp : Int)] 31) := ⟨_, rfl⟩
  obtain ⟨bx, hbx⟩ : ∃ bx, bx = w.heap.size := ⟨_, rfl⟩
  have hB0 : Below w.heap.size w w0 := hw0 ▸ (Below.refl _ _).alloc (Nat.le_refl _) _
  have hb0 : w0.heap[bx]? = some (.cells #[.int .u8 (kd : Int), St nm, St to, .int .i64 pg, .int .u16 (lg : Int), .int .u8 (fl.toNat : Int), .int .u64 (kp : Int)] 31 (0, 0)) := by rw [hw0, hbx]; exact heap_alloc_new w _
  have h0 := h.grow hB0
  obtain ⟨K0, hK0⟩ : ∃ K0 : Nat → Prop, K0 = fun g => K g ∨ (w.heap.size ≤ g ∧ g < w0.heap.size) := ⟨_, rfl⟩
  rw [← hK0] at h0
  have hKx : K0 bx := by rw [hK0]; exact .inr ⟨by omega, lt_of_block hb0⟩
  have HFR : Hid (∀ W s' t', Pr J K0 W d q s' t' → Kj J K0 w0 W → Pr J K W d q s' t' ∧ Kj J K w W) := hid (fun W s' t' h1 h2 => ⟨h1.less (fun g hg => by rw [hK0]; exact .inl hg), (below_kj hB0 (fun g hg => h.lt hg) (fun g hg => h.jt hg)).trans (h2.less (fun g hg => by rw [hK0]; exact .inl hg))⟩)
  have HBX : Hid (∀ W, Kj J K0 w0 W → W.heap[bx]? = some (.cells #[.int .u8 (kd : Int), St nm, St to, .int .i64 pg, .int .u16 (lg : Int), .int .u8 (fl.toNat : Int), .int .u64 (kp : Int)] 31 (0, 0))) := hid (fun W h2 => (h2.blk bx hKx).trans hb0)
  have hrem : (kd : Int) % 11 = 2 := by omega
  have HS := hid hs
  have HT := hid ht
  have H0 := hid h0
  have HD : Hid (Calls Tryz.prog 23 #[.pointer (some ⟨d, 0, none⟩), St nm] w0.drew fun e w' => ∃ v, e = .returned v ∧ v = .int .i64 ((syncD s nm).1 : Int) ∧ Pr J K0 w' d q (syncD s nm).2 t ∧ Kj J K0 w0 w') := hid ((pd_sync (h0.low (w' := w0.drew) ⟨rfl, rfl, rfl, Nat.le_refl _, fun _ _ => rfl⟩) nm hnm hs).mono (by
    rintro e w' ⟨rfl, a, b⟩
    exact ⟨_, rfl, rfl, a, b.os, b.tape, b.output, b.size, b.blk, b.jlk⟩))
  have HM : Hid (∀ w1, Pr J K0 w1 d q (syncD s nm).2 t → Kj J K0 w0 w1 → Calls Tryz.prog 29 #[.pointer (some ⟨q, 0, none⟩), St nm] w1 fun e w' => ∃ v, e = .returned v ∧ v = .int .i64 ((syncD t nm).1 : Int) ∧ Pr J K0 w' d q (syncD s nm).2 (syncD t nm).2 ∧ Kj J K0 w0 w') := hid (fun w1 h1 k1 => (pm_sync h1 nm HT.out).mono (by
    rintro e w' ⟨rfl, a, b⟩
    exact ⟨_, rfl, rfl, a, k1.trans b⟩))
  have HE : Hid (s = t → (((syncD s nm).1 : Int) == ((syncD t nm).1 : Int)) = true) := hid (fun e => by rw [e]; simp)
  obtain ⟨ed, hed⟩ : ∃ ed : Int, ed = ((syncD s nm).1 : Int) := ⟨_, rfl⟩
  obtain ⟨em, hem⟩ : ∃ em : Int, em = ((syncD t nm).1 : Int) := ⟨_, rfl⟩
  rw [← hed] at HD HE
  rw [← hem] at HM HE
  generalize (syncD s nm).2 = s' at *
  generalize (syncD t nm).2 = t' at *
  obtain ⟨fl, hfl⟩ : ∃ f : Int, f = (fl.toNat : Int) := ⟨_, rfl⟩
  rw [← hfl] at hb0 hw0 HBX ⊢
  have HB0 := hid hb0
  have HBE := hid hbx
  have HKX := hid hKx
  clear h h0 hs ht hB0 hb0 hK0 hed hem hfl hKx hnm hto hpg hlg hkp hk
  go_enter Tryz.func10, Tryz.ntmps10
  go_wp2_with fail
  rw [← hw0, ← hbx]
  clear hw0 hbx
  have hs0 : (fun W : World => W.heap[bx]? = some (.cells #[.int .u8 (kd : Int), St nm, St to, .int .i64 pg, .int .u16 (lg : Int), .int .u8 fl, .int .u64 (kp : Int)] 31 (0, 0))) w0.drew := HB0.out
  refine wp_region_held (S := fun W : World => W.heap[bx]? = some (.cells #[.int .u8 (kd : Int), St nm, St to, .int .i64 pg, .int .u16 (lg : Int), .int .u8 fl, .int .u64 (kp : Int)] 31 (0, 0))) (by kernel_rfl) ?_
  refine wpAnyH_take (i := 0) (oi := pb0) (v := .pointer (some ⟨d, 0, none⟩)) rfl (by kernel_rfl) (by kernel_rfl) (by kernel_rfl) (fun _ _ _ h => h) (y_all rfl (fun _ => rfl)) hs0 ?_
  simp only [Act.put, pb0, List.setIfInBounds_toArray, List.set_cons_zero, List.set_cons_succ]
  refine wpAnyH_take (i := 1) (oi := pb1) (v := .pointer (some ⟨bx, 1, none⟩)) rfl (by kernel_rfl) (by kernel_rfl) (by kernel_rfl) (fun _ _ _ h => h) (y_all rfl (fun _ => by simp only [pb1]; go_simp)) hs0 ?_
  simp only [Act.put, pb1, List.setIfInBounds_toArray, List.set_cons_zero, List.set_cons_succ]
  refine wpAnyH_take (i := 4) (oi := pb4) (v := .pointer (some ⟨q, 0, none⟩)) rfl (by kernel_rfl) (by kernel_rfl) (by kernel_rfl) (fun _ _ _ h => h) (y_all rfl (fun _ => rfl)) hs0 ?_
  simp only [Act.put, pb4, List.setIfInBounds_toArray, List.set_cons_zero, List.set_cons_succ]
  refine wpAnyH_take (i := 5) (oi := pb5) (v := .pointer (some ⟨bx, 1, none⟩)) rfl (by kernel_rfl) (by kernel_rfl) (by kernel_rfl) (fun _ _ _ h => h) (y_all rfl (fun _ => by simp only [pb5]; go_simp)) hs0 ?_
  simp only [Act.put, pb5, List.setIfInBounds_toArray, List.set_cons_zero, List.set_cons_succ]
  refine wpAnyH_take (i := 2) (oi := pb2) (v := St nm) rfl (by kernel_rfl) (by kernel_rfl) (by kernel_rfl) (fun _ _ _ h => h) (y_load rfl 9 (.tmp 88) rfl bx 1 rfl (fun w hw => load9 ((cell_of_heap hw 1).trans rfl))) hs0 ?_
  simp only [Act.put, pb2, List.setIfInBounds_toArray, List.set_cons_zero, List.set_cons_succ]
  refine wpAnyH_take (i := 6) (oi := pb6) (v := St nm) rfl (by kernel_rfl) (by kernel_rfl) (by kernel_rfl) (fun _ _ _ h => h) (y_load rfl 9 (.tmp 92) rfl bx 1 rfl (fun w hw => load9 ((cell_of_heap hw 1).trans rfl))) hs0 ?_
  simp only [Act.put, pb6, List.setIfInBounds_toArray, List.set_cons_zero, List.set_cons_succ]
  refine wpAnyH_all (rs := [3]) (by kernel_rfl) (by simp) (all1 ?_)
  refine op_call (o := pb3) (f := 23) (args := #[.pointer (some ⟨d, 0, none⟩), St nm]) (R := fun v w' => v = .int .i64 ed ∧ Pr J K0 w' d q s' t ∧ Kj J K0 w0 w') rfl rfl (by simp only [pb3]; go_simp) HD.out ?_
  rintro v0 w1 ⟨rfl, h1, k1⟩
  have hs0 := HBX.out w1 k1
  have HMM := hid (HM.out w1 h1 k1)
  clear h1 k1
  refine ⟨hs0, ?_⟩
  simp only [Act.put, pb3, List.setIfInBounds_toArray, List.set_cons_zero, List.set_cons_succ]
  refine wpAnyH_all (rs := [7]) (by kernel_rfl) (by simp) (all1 ?_)
  refine op_call (o := pb7) (f := 29) (args := #[.pointer (some ⟨q, 0, none⟩), St nm]) (R := fun v w' => v = .int .i64 em ∧ Pr J K0 w' d q s' t' ∧ Kj J K0 w0 w') rfl rfl (by simp only [pb7]; go_simp) HMM.out ?_
  rintro v0 w2 ⟨rfl, h2, k2⟩
  have hs0 := HBX.out w2 k2
  have H2 := hid h2
  have K2 := hid k2
  clear h2 k2
  refine ⟨hs0, ?_⟩
  simp only [Act.put, pb7, List.setIfInBounds_toArray, List.set_cons_zero, List.set_cons_succ]
  refine wpAnyH_take (i := 8) (oi := pb8) (v := .bool (ed == em)) rfl (by kernel_rfl) (by kernel_rfl) (by kernel_rfl) (fun _ _ _ h => h) (y_all rfl (fun _ => by simp only [pb8]; go_simp)) hs0 ?_
  simp only [Act.put, pb8, List.setIfInBounds_toArray, List.set_cons_zero, List.set_cons_succ]
  refine wpAnyH_take (i := 9) (oi := pb9) (v := .bool (ed == em)) rfl (by kernel_rfl) (by kernel_rfl) (by kernel_rfl) (fun _ _ _ h => h) (y_all rfl (fun _ => rfl)) hs0 ?_
  simp only [Act.put, pb9, List.setIfInBounds_toArray, List.set_cons_zero, List.set_cons_succ]
  refine wpAnyH_done (by kernel_rfl) ?_ _
  clear hs0
  go_wp2_with fail
  go_ret
  exact PlE.mk (b := ed == em) rfl HE.out (HFR.out _ _ _ H2.out K2.out)
end Go.Proofs.YtojnembakhhgiaaGreat

/- One call of a row, on a disk and on the document's: renameD. -/
namespace Go.Proofs.YtojnembakhhgiaaGreat
open Go.RowKit

def pc0 : Oper := { dst := some 98, op := Go.Op.move (Go.Operand.tmp 0), type := 24, pos := "law.go:94", after := #[], guard := none }
def pc1 : Oper := { dst := some 99, op := Go.Op.fieldAddr 31 (Go.Operand.tmp 5) 1, type := 0, pos := "law.go:94", after := #[], guard := none }
def pc2 : Oper := { dst := some 100, op := Go.Op.load 9 (Go.Operand.tmp 99), type := 9, pos := "law.go:94", after := #[{ on := 1, ground := Go.Ground.data }], guard := none }
def pc3 : Oper := { dst := some 101, op := Go.Op.fieldAddr 31 (Go.Operand.tmp 5) 2, type := 0, pos := "law.go:94", after := #[], guard := none }
def pc4 : Oper := { dst := some 102, op := Go.Op.load 9 (Go.Operand.tmp 101), type := 9, pos := "law.go:94", after := #[{ on := 3, ground := Go.Ground.data }], guard := none }
def pc5 : Oper := { dst := some 103, op := Go.Op.call { callee := Go.Callee.value (Go.Operand.func 30), args := #[Go.Operand.tmp 98, Go.Operand.tmp 100, Go.Operand.tmp 102], argTypes := #[24, 9, 9] }, type := 38, pos := "law.go:94", after := #[{ on := 0, ground := Go.Ground.data }, { on := 2, ground := Go.Ground.data }, { on := 4, ground := Go.Ground.data }], guard := none }
def pc6 : Oper := { dst := some 104, op := Go.Op.move (Go.Operand.tmp 1), type := 26, pos := "law.go:94", after := #[], guard := none }
def pc7 : Oper := { dst := some 105, op := Go.Op.fieldAddr 31 (Go.Operand.tmp 5) 1, type := 0, pos := "law.go:94", after := #[], guard := none }
def pc8 : Oper := { dst := some 106, op := Go.Op.load 9 (Go.Operand.tmp 105), type := 9, pos := "law.go:94", after := #[{ on := 7, ground := Go.Ground.data }], guard := none }
def pc9 : Oper := { dst := some 107, op := Go.Op.fieldAddr 31 (Go.Operand.tmp 5) 2, type := 0, pos := "law.go:94", after := #[], guard := none }
def pc10 : Oper := { dst := some 108, op := Go.Op.load 9 (Go.Operand.tmp 107), type := 9, pos := "law.go:94", after := #[{ on := 9, ground := Go.Ground.data }], guard := none }
def pc11 : Oper := { dst := some 109, op := Go.Op.call { callee := Go.Callee.value (Go.Operand.func 31), args := #[Go.Operand.tmp 104, Go.Operand.tmp 106, Go.Operand.tmp 108], argTypes := #[26, 9, 9] }, type := 38, pos := "law.go:94", after := #[{ on := 6, ground := Go.Ground.data }, { on := 8, ground := Go.Ground.data }, { on := 10, ground := Go.Ground.data }, { on := 5, ground := Go.Ground.chain }], guard := none }
def pc12 : Oper := { dst := some 110, op := Go.Op.binOp Go.BinOp.eql 38 (Go.Operand.tmp 103) (Go.Operand.tmp 109) 38, type := 4, pos := "law.go:94", after := #[{ on := 5, ground := Go.Ground.data }, { on := 11, ground := Go.Ground.data }], guard := none }
def pc13 : Oper := { dst := some 6, op := Go.Op.assign (Go.Operand.tmp 110), type := 4, pos := "law.go:94", after := #[{ on := 12, ground := Go.Ground.data }, { on := 11, ground := Go.Ground.chain }, { on := 0, ground := Go.Ground.phase }, { on := 1, ground := Go.Ground.phase }, { on := 2, ground := Go.Ground.phase }, { on := 3, ground := Go.Ground.phase }, { on := 4, ground := Go.Ground.phase }, { on := 5, ground := Go.Ground.phase }, { on := 6, ground := Go.Ground.phase }, { on := 7, ground := Go.Ground.phase }, { on := 8, ground := Go.Ground.phase }, { on := 9, ground := Go.Ground.phase }, { on := 10, ground := Go.Ground.phase }, { on := 11, ground := Go.Ground.phase }, { on := 12, ground := Go.Ground.phase }], guard := none }

set_option maxRecDepth 100000 in
set_option maxHeartbeats 8000000 in
theorem plays3 {J K : Nat → Prop} {w : World} {d q : Nat} {s t : Ds} (h : Pr J K w d q s t) (hs : Sm 1 s) (ht : Sm 1 t) (x : Ox) (hx : Oxr x) (hk : x.kind % 11 = 3) : Calls Tryz.prog 10 #[.pointer (some ⟨d, 0, none⟩), .pointer (some ⟨q, 0, none⟩), .agg (xcs x)] w (PlE J K w d q s t (renameD s x.name x.to).2 (renameD t x.name x.to).2) := by
  obtain ⟨kd, nm, to, pg, lg, fl, kp⟩ := x
  obtain ⟨hkd, hnm, hto, hpg, hlg, hkp⟩ := hx
  simp only at hk hkd hnm hto hpg hlg hkp ⊢
  unfold xcs
  obtain ⟨w0, hw0⟩ : ∃ w0, w0 = w.alloc (.cells #[.int .u8 (kd : Int), St nm, St to, .int .i64 pg, .int .u16 (lg : Int), .int .u8 (fl.toNat : Int), .int .u64 (kp : Int)] 31) := ⟨_, rfl⟩
  obtain ⟨bx, hbx⟩ : ∃ bx, bx = w.heap.size := ⟨_, rfl⟩
  have hB0 : Below w.heap.size w w0 := hw0 ▸ (Below.refl _ _).alloc (Nat.le_refl _) _
  have hb0 : w0.heap[bx]? = some (.cells #[.int .u8 (kd : Int), St nm, St to, .int .i64 pg, .int .u16 (lg : Int), .int .u8 (fl.toNat : Int), .int .u64 (kp : Int)] 31 (0, 0)) := by rw [hw0, hbx]; exact heap_alloc_new w _
  have h0 := h.grow hB0
  obtain ⟨K0, hK0⟩ : ∃ K0 : Nat → Prop, K0 = fun g => K g ∨ (w.heap.size ≤ g ∧ g < w0.heap.size) := ⟨_, rfl⟩
  rw [← hK0] at h0
  have hKx : K0 bx := by rw [hK0]; exact .inr ⟨by omega, lt_of_block hb0⟩
  have HFR : Hid (∀ W s' t', Pr J K0 W d q s' t' → Kj J K0 w0 W → Pr J K W d q s' t' ∧ Kj J K w W) := hid (fun W s' t' h1 h2 => ⟨h1.less (fun g hg => by rw [hK0]; exact .inl hg), (below_kj hB0 (fun g hg => h.lt hg) (fun g hg => h.jt hg)).trans (h2.less (fun g hg => by rw [hK0]; exact .inl hg))⟩)
  have HBX : Hid (∀ W, Kj J K0 w0 W → W.heap[bx]? = some (.cells #[.int .u8 (kd : Int), St nm, St to, .int .i64 pg, .int .u16 (lg : Int), .int .u8 (fl.toNat : Int), .int .u64 (kp : Int)] 31 (0, 0))) := hid (fun W h2 => (h2.blk bx hKx).trans hb0)
  have hrem : (kd : Int) % 11 = 3 := by omega
  have HS := hid hs
  have HT := hid ht
  have H0 := hid h0
  have HD : Hid (Calls Tryz.prog 30 #[.pointer (some ⟨d, 0, none⟩), St nm, St to] w0.drew fun e w' => ∃ v, e = .returned v ∧ v = .int .i64 ((renameD s nm to).1 : Int) ∧ Pr J K0 w' d q (renameD s nm to).2 t ∧ Kj J K0 w0 w') := hid ((pd_rename (h0.low (w' := w0.drew) ⟨rfl, rfl, rfl, Nat.le_refl _, fun _ _ => rfl⟩) nm hnm hs to).mono (by
    rintro e w' ⟨rfl, a, b⟩
    exact ⟨_, rfl, rfl, a, b.os, b.tape, b.output, b.size, b.blk, b.jlk⟩))
  have HM : Hid (∀ w1, Pr J K0 w1 d q (renameD s nm to).2 t → Kj J K0 w0 w1 → Calls Tryz.prog 31 #[.pointer (some ⟨q, 0, none⟩), St nm, St to] w1 fun e w' => ∃ v, e = .returned v ∧ v = .int .i64 ((renameD t nm to).1 : Int) ∧ Pr J K0 w' d q (renameD s nm to).2 (renameD t nm to).2 ∧ Kj J K0 w0 w') := hid (fun w1 h1 k1 => (pm_rename h1 nm HT.out to).mono (by
    rintro e w' ⟨rfl, a, b⟩
    exact ⟨_, rfl, rfl, a, k1.trans b⟩))
  have HE : Hid (s = t → (((renameD s nm to).1 : Int) == ((renameD t nm to).1 : Int)) = true) := hid (fun e => by rw [e]; simp)
  obtain ⟨ed, hed⟩ : ∃ ed : Int, ed = ((renameD s nm to).1 : Int) := ⟨_, rfl⟩
  obtain ⟨em, hem⟩ : ∃ em : Int, em = ((renameD t nm to).1 : Int) := ⟨_, rfl⟩
  rw [← hed] at HD HE
  rw [← hem] at HM HE
  generalize (renameD s nm to).2 = s' at *
  generalize (renameD t nm to).2 = t' at *
  obtain ⟨fl, hfl⟩ : ∃ f : Int, f = (fl.toNat : Int) := ⟨_, rfl⟩
  rw [← hfl] at hb0 hw0 HBX ⊢
  have HB0 := hid hb0
  have HBE := hid hbx
  have HKX := hid hKx
  clear h h0 hs ht hB0 hb0 hK0 hed hem hfl hKx hnm hto hpg hlg hkp hk
  go_enter Tryz.func10, Tryz.ntmps10
  go_wp2_with fail
  rw [← hw0, ← hbx]
  clear hw0 hbx
  have hs0 : (fun W : World => W.heap[bx]? = some (.cells #[.int .u8 (kd : Int), St nm, St to, .int .i64 pg, .int .u16 (lg : Int), .int .u8 fl, .int .u64 (kp : Int)] 31 (0, 0))) w0.drew := HB0.out
  refine wp_region_held (S := fun W : World => W.heap[bx]? = some (.cells #[.int .u8 (kd : Int), St nm, St to, .int .i64 pg, .int .u16 (lg : Int), .int .u8 fl, .int .u64 (kp : Int)] 31 (0, 0))) (by kernel_rfl) ?_
  refine wpAnyH_take (i := 0) (oi := pc0) (v := .pointer (some ⟨d, 0, none⟩)) rfl (by kernel_rfl) (by kernel_rfl) (by kernel_rfl) (fun _ _ _ h => h) (y_all rfl (fun _ => rfl)) hs0 ?_
  simp only [Act.put, pc0, List.setIfInBounds_toArray, List.set_cons_zero, List.set_cons_succ]
  refine wpAnyH_take (i := 1) (oi := pc1) (v := .pointer (some ⟨bx, 1, none⟩)) rfl (by kernel_rfl) (by kernel_rfl) (by kernel_rfl) (fun _ _ _ h => h) (y_all rfl (fun _ => by simp only [pc1]; go_simp)) hs0 ?_
  simp only [Act.put, pc1, List.setIfInBounds_toArray, List.set_cons_zero, List.set_cons_succ]
  refine wpAnyH_take (i := 3) (oi := pc3) (v := .pointer (some ⟨bx, 2, none⟩)) rfl (by kernel_rfl) (by kernel_rfl) (by kernel_rfl) (fun _ _ _ h => h) (y_all rfl (fun _ => by simp only [pc3]; go_simp)) hs0 ?_
  simp only [Act.put, pc3, List.setIfInBounds_toArray, List.set_cons_zero, List.set_cons_succ]
  refine wpAnyH_take (i := 6) (oi := pc6) (v := .pointer (some ⟨q, 0, none⟩)) rfl (by kernel_rfl) (by kernel_rfl) (by kernel_rfl) (fun _ _ _ h => h) (y_all rfl (fun _ => rfl)) hs0 ?_
  simp only [Act.put, pc6, List.setIfInBounds_toArray, List.set_cons_zero, List.set_cons_succ]
  refine wpAnyH_take (i := 7) (oi := pc7) (v := .pointer (some ⟨bx, 1, none⟩)) rfl (by kernel_rfl) (by kernel_rfl) (by kernel_rfl) (fun _ _ _ h => h) (y_all rfl (fun _ => by simp only [pc7]; go_simp)) hs0 ?_
  simp only [Act.put, pc7, List.setIfInBounds_toArray, List.set_cons_zero, List.set_cons_succ]
  refine wpAnyH_take (i := 9) (oi := pc9) (v := .pointer (some ⟨bx, 2, none⟩)) rfl (by kernel_rfl) (by kernel_rfl) (by kernel_rfl) (fun _ _ _ h => h) (y_all rfl (fun _ => by simp only [pc9]; go_simp)) hs0 ?_
  simp only [Act.put, pc9, List.setIfInBounds_toArray, List.set_cons_zero, List.set_cons_succ]
  refine wpAnyH_take (i := 2) (oi := pc2) (v := St nm) rfl (by kernel_rfl) (by kernel_rfl) (by kernel_rfl) (fun _ _ _ h => h) (y_load rfl 9 (.tmp 99) rfl bx 1 rfl (fun w hw => load9 ((cell_of_heap hw 1).trans rfl))) hs0 ?_
  simp only [Act.put, pc2, List.setIfInBounds_toArray, List.set_cons_zero, List.set_cons_succ]
  refine wpAnyH_take (i := 4) (oi := pc4) (v := St to) rfl (by kernel_rfl) (by kernel_rfl) (by kernel_rfl) (fun _ _ _ h => h) (y_load rfl 9 (.tmp 101) rfl bx 2 rfl (fun w hw => load9 ((cell_of_heap hw 2).trans rfl))) hs0 ?_
  simp only [Act.put, pc4, List.setIfInBounds_toArray, List.set_cons_zero, List.set_cons_succ]
  refine wpAnyH_take (i := 8) (oi := pc8) (v := St nm) rfl (by kernel_rfl) (by kernel_rfl) (by kernel_rfl) (fun _ _ _ h => h) (y_load rfl 9 (.tmp 105) rfl bx 1 rfl (fun w hw => load9 ((cell_of_heap hw 1).trans rfl))) hs0 ?_
  simp only [Act.put, pc8, List.setIfInBounds_toArray, List.set_cons_zero, List.set_cons_succ]
  refine wpAnyH_take (i := 10) (oi := pc10) (v := St to) rfl (by kernel_rfl) (by kernel_rfl) (by kernel_rfl) (fun _ _ _ h => h) (y_load rfl 9 (.tmp 107) rfl bx 2 rfl (fun w hw => load9 ((cell_of_heap hw 2).trans rfl))) hs0 ?_
  simp only [Act.put, pc10, List.setIfInBounds_toArray, List.set_cons_zero, List.set_cons_succ]
  refine wpAnyH_all (rs := [5]) (by kernel_rfl) (by simp) (all1 ?_)
  refine op_call (o := pc5) (f := 30) (args := #[.pointer (some ⟨d, 0, none⟩), St nm, St to]) (R := fun v w' => v = .int .i64 ed ∧ Pr J K0 w' d q s' t ∧ Kj J K0 w0 w') rfl rfl (by simp only [pc5]; go_simp) HD.out ?_
  rintro v0 w1 ⟨rfl, h1, k1⟩
  have hs0 := HBX.out w1 k1
  have HMM := hid (HM.out w1 h1 k1)
  clear h1 k1
  refine ⟨hs0, ?_⟩
  simp only [Act.put, pc5, List.setIfInBounds_toArray, List.set_cons_zero, List.set_cons_succ]
  refine wpAnyH_all (rs := [11]) (by kernel_rfl) (by simp) (all1 ?_)
  refine op_call (o := pc11) (f := 31) (args := #[.pointer (some ⟨q, 0, none⟩), St nm, St to]) (R := fun v w' => v = .int .i64 em ∧ Pr J K0 w' d q s' t' ∧ Kj J K0 w0 w') rfl rfl (by simp only [pc11]; go_simp) HMM.out ?_
  rintro v0 w2 ⟨rfl, h2, k2⟩
  have hs0 := HBX.out w2 k2
  have H2 := hid h2
  have K2 := hid k2
  clear h2 k2
  refine ⟨hs0, ?_⟩
  simp only [Act.put, pc11, List.setIfInBounds_toArray, List.set_cons_zero, List.set_cons_succ]
  refine wpAnyH_take (i := 12) (oi := pc12) (v := .bool (ed == em)) rfl (by kernel_rfl) (by kernel_rfl) (by kernel_rfl) (fun _ _ _ h => h) (y_all rfl (fun _ => by simp only [pc12]; go_simp)) hs0 ?_
  simp only [Act.put, pc12, List.setIfInBounds_toArray, List.set_cons_zero, List.set_cons_succ]
  refine wpAnyH_take (i := 13) (oi := pc13) (v := .bool (ed == em)) rfl (by kernel_rfl) (by kernel_rfl) (by kernel_rfl) (fun _ _ _ h => h) (y_all rfl (fun _ => rfl)) hs0 ?_
  simp only [Act.put, pc13, List.setIfInBounds_toArray, List.set_cons_zero, List.set_cons_succ]
  refine wpAnyH_done (by kernel_rfl) ?_ _
  clear hs0
  go_wp2_with fail
  go_ret
  exact PlE.mk (b := ed == em) rfl HE.out (HFR.out _ _ _ H2.out K2.out)
end Go.Proofs.YtojnembakhhgiaaGreat

/- One call of a row, on a disk and on the document's: removeD. -/
namespace Go.Proofs.YtojnembakhhgiaaGreat
open Go.RowKit

def pe0 : Oper := { dst := some 113, op := Go.Op.move (Go.Operand.tmp 0), type := 24, pos := "law.go:96", after := #[], guard := none }
def pe1 : Oper := { dst := some 114, op := Go.Op.fieldAddr 31 (Go.Operand.tmp 5) 1, type := 0, pos := "law.go:96", after := #[], guard := none }
def pe2 : Oper := { dst := some 115, op := Go.Op.load 9 (Go.Operand.tmp 114), type := 9, pos := "law.go:96", after := #[{ on := 1, ground := Go.Ground.data }], guard := none }
def pe3 : Oper := { dst := some 116, op := Go.Op.call { callee := Go.Callee.value (Go.Operand.func 24), args := #[Go.Operand.tmp 113, Go.Operand.tmp 115], argTypes := #[24, 9] }, type := 38, pos := "law.go:96", after := #[{ on := 0, ground := Go.Ground.data }, { on := 2, ground := Go.Ground.data }], guard := none }
def pe4 : Oper := { dst := some 117, op := Go.Op.move (Go.Operand.tmp 1), type := 26, pos := "law.go:96", after := #[], guard := none }
def pe5 : Oper := { dst := some 118, op := Go.Op.fieldAddr 31 (Go.Operand.tmp 5) 1, type := 0, pos := "law.go:96", after := #[], guard := none }
def pe6 : Oper := { dst := some 119, op := Go.Op.load 9 (Go.Operand.tmp 118), type := 9, pos := "law.go:96", after := #[{ on := 5, ground := Go.Ground.data }], guard := none }
def pe7 : Oper := { dst := some 120, op := Go.Op.call { callee := Go.Callee.value (Go.Operand.func 32), args := #[Go.Operand.tmp 117, Go.Operand.tmp 119], argTypes := #[26, 9] }, type := 38, pos := "law.go:96", after := #[{ on := 4, ground := Go.Ground.data }, { on := 6, ground := Go.Ground.data }, { on := 3, ground := Go.Ground.chain }], guard := none }
def pe8 : Oper := { dst := some 121, op := Go.Op.binOp Go.BinOp.eql 38 (Go.Operand.tmp 116) (Go.Operand.tmp 120) 38, type := 4, pos := "law.go:96", after := #[{ on := 3, ground := Go.Ground.data }, { on := 7, ground := Go.Ground.data }], guard := none }
def pe9 : Oper := { dst := some 6, op := Go.Op.assign (Go.Operand.tmp 121), type := 4, pos := "law.go:96", after := #[{ on := 8, ground := Go.Ground.data }, { on := 7, ground := Go.Ground.chain }, { on := 0, ground := Go.Ground.phase }, { on := 1, ground := Go.Ground.phase }, { on := 2, ground := Go.Ground.phase }, { on := 3, ground := Go.Ground.phase }, { on := 4, ground := Go.Ground.phase }, { on := 5, ground := Go.Ground.phase }, { on := 6, ground := Go.Ground.phase }, { on := 7, ground := Go.Ground.phase }, { on := 8, ground := Go.Ground.phase }], guard := none }

set_option maxRecDepth 100000 in
set_option maxHeartbeats 8000000 in
theorem plays4 {J K : Nat → Prop} {w : World} {d q : Nat} {s t : Ds} (h : Pr J K w d q s t) (hs : Sm 1 s) (ht : Sm 1 t) (x : Ox) (hx : Oxr x) (hk : x.kind % 11 = 4) : Calls Tryz.prog 10 #[.pointer (some ⟨d, 0, none⟩), .pointer (some ⟨q, 0, none⟩), .agg (xcs x)] w (PlE J K w d q s t (removeD s x.name).2 (removeD t x.name).2) := by
  obtain ⟨kd, nm, to, pg, lg, fl, kp⟩ := x
  obtain ⟨hkd, hnm, hto, hpg, hlg, hkp⟩ := hx
  simp only at hk hkd hnm hto hpg hlg hkp ⊢
  unfold xcs
  obtain ⟨w0, hw0⟩ : ∃ w0, w0 = w.alloc (.cells #[.int .u8 (kd : Int), St nm, St to, .int .i64 pg, .int .u16 (lg : Int), .int .u8 (fl.toNat : Int), .int .u64 (kp : Int)] 31) := ⟨_, rfl⟩
  obtain ⟨bx, hbx⟩ : ∃ bx, bx = w.heap.size := ⟨_, rfl⟩
  have hB0 : Below w.heap.size w w0 := hw0 ▸ (Below.refl _ _).alloc (Nat.le_refl _) _
  have hb0 : w0.heap[bx]? = some (.cells #[.int .u8 (kd : Int), St nm, St to, .int .i64 pg, .int .u16 (lg : Int), .int .u8 (fl.toNat : Int), .int .u64 (kp : Int)] 31 (0, 0)) := by rw [hw0, hbx]; exact heap_alloc_new w _
  have h0 := h.grow hB0
  obtain ⟨K0, hK0⟩ : ∃ K0 : Nat → Prop, K0 = fun g => K g ∨ (w.heap.size ≤ g ∧ g < w0.heap.size) := ⟨_, rfl⟩
  rw [← hK0] at h0
  have hKx : K0 bx := by rw [hK0]; exact .inr ⟨by omega, lt_of_block hb0⟩
  have HFR : Hid (∀ W s' t', Pr J K0 W d q s' t' → Kj J K0 w0 W → Pr J K W d q s' t' ∧ Kj J K w W) := hid (fun W s' t' h1 h2 => ⟨h1.less (fun g hg => by rw [hK0]; exact .inl hg), (below_kj hB0 (fun g hg => h.lt hg) (fun g hg => h.jt hg)).trans (h2.less (fun g hg => by rw [hK0]; exact .inl hg))⟩)
  have HBX : Hid (∀ W, Kj J K0 w0 W → W.heap[bx]? = some (.cells #[.int .u8 (kd : Int), St nm, St to, .int .i64 pg, .int .u16 (lg : Int), .int .u8 (fl.toNat : Int), .int .u64 (kp : Int)] 31 (0, 0))) := hid (fun W h2 => (h2.blk bx hKx).trans hb0)
  have hrem : (kd : Int) % 11 = 4 := by omega
  have HS := hid hs
  have HT := hid ht
  have H0 := hid h0
  have HD : Hid (Calls Tryz.prog 24 #[.pointer (some ⟨d, 0, none⟩), St nm] w0.drew fun e w' => ∃ v, e = .returned v ∧ v = .int .i64 ((removeD s nm).1 : Int) ∧ Pr J K0 w' d q (removeD s nm).2 t ∧ Kj J K0 w0 w') := hid ((pd_remove (h0.low (w' := w0.drew) ⟨rfl, rfl, rfl, Nat.le_refl _, fun _ _ => rfl⟩) nm hnm hs).mono (by
    rintro e w' ⟨rfl, a, b⟩
    exact ⟨_, rfl, rfl, a, b.os, b.tape, b.output, b.size, b.blk, b.jlk⟩))
  have HM : Hid (∀ w1, Pr J K0 w1 d q (removeD s nm).2 t → Kj J K0 w0 w1 → Calls Tryz.prog 32 #[.pointer (some ⟨q, 0, none⟩), St nm] w1 fun e w' => ∃ v, e = .returned v ∧ v = .int .i64 ((removeD t nm).1 : Int) ∧ Pr J K0 w' d q (removeD s nm).2 (removeD t nm).2 ∧ Kj J K0 w0 w') := hid (fun w1 h1 k1 => (pm_remove h1 nm HT.out).mono (by
    rintro e w' ⟨rfl, a, b⟩
    exact ⟨_, rfl, rfl, a, k1.trans b⟩))
  have HE : Hid (s = t → (((removeD s nm).1 : Int) == ((removeD t nm).1 : Int)) = true) := hid (fun e => by rw [e]; simp)
  obtain ⟨ed, hed⟩ : ∃ ed : Int, ed = ((removeD s nm).1 : Int) := ⟨_, rfl⟩
  obtain ⟨em, hem⟩ : ∃ em : Int, em = ((removeD t nm).1 : Int) := ⟨_, rfl⟩
  rw [← hed] at HD HE
  rw [← hem] at HM HE
  generalize (removeD s nm).2 = s' at *
  generalize (removeD t nm).2 = t' at *
  obtain ⟨fl, hfl⟩ : ∃ f : Int, f = (fl.toNat : Int) := ⟨_, rfl⟩
  rw [← hfl] at hb0 hw0 HBX ⊢
  have HB0 := hid hb0
  have HBE := hid hbx
  have HKX := hid hKx
  clear h h0 hs ht hB0 hb0 hK0 hed hem hfl hKx hnm hto hpg hlg hkp hk
  go_enter Tryz.func10, Tryz.ntmps10
  go_wp2_with fail
  rw [← hw0, ← hbx]
  clear hw0 hbx
  have hs0 : (fun W : World => W.heap[bx]? = some (.cells #[.int .u8 (kd : Int), St nm, St to, .int .i64 pg, .int .u16 (lg : Int), .int .u8 fl, .int .u64 (kp : Int)] 31 (0, 0))) w0.drew := HB0.out
  refine wp_region_held (S := fun W : World => W.heap[bx]? = some (.cells #[.int .u8 (kd : Int), St nm, St to, .int .i64 pg, .int .u16 (lg : Int), .int .u8 fl, .int .u64 (kp : Int)] 31 (0, 0))) (by kernel_rfl) ?_
  refine wpAnyH_take (i := 0) (oi := pe0) (v := .pointer (some ⟨d, 0, none⟩)) rfl (by kernel_rfl) (by kernel_rfl) (by kernel_rfl) (fun _ _ _ h => h) (y_all rfl (fun _ => rfl)) hs0 ?_
  simp only [Act.put, pe0, List.setIfInBounds_toArray, List.set_cons_zero, List.set_cons_succ]
  refine wpAnyH_take (i := 1) (oi := pe1) (v := .pointer (some ⟨bx, 1, none⟩)) rfl (by kernel_rfl) (by kernel_rfl) (by kernel_rfl) (fun _ _ _ h => h) (y_all rfl (fun _ => by simp only [pe1]; go_simp)) hs0 ?_
  simp only [Act.put, pe1, List.setIfInBounds_toArray, List.set_cons_zero, List.set_cons_succ]
  refine wpAnyH_take (i := 4) (oi := pe4) (v := .pointer (some ⟨q, 0, none⟩)) rfl (by kernel_rfl) (by kernel_rfl) (by kernel_rfl) (fun _ _ _ h => h) (y_all rfl (fun _ => rfl)) hs0 ?_
  simp only [Act.put, pe4, List.setIfInBounds_toArray, List.set_cons_zero, List.set_cons_succ]
  refine wpAnyH_take (i := 5) (oi := pe5) (v := .pointer (some ⟨bx, 1, none⟩)) rfl (by kernel_rfl) (by kernel_rfl) (by kernel_rfl) (fun _ _ _ h => h) (y_all rfl (fun _ => by simp only [pe5]; go_simp)) hs0 ?_
  simp only [Act.put, pe5, List.setIfInBounds_toArray, List.set_cons_zero, List.set_cons_succ]
  refine wpAnyH_take (i := 2) (oi := pe2) (v := St nm) rfl (by kernel_rfl) (by kernel_rfl) (by kernel_rfl) (fun _ _ _ h => h) (y_load rfl 9 (.tmp 114) rfl bx 1 rfl (fun w hw => load9 ((cell_of_heap hw 1).trans rfl))) hs0 ?_
  simp only [Act.put, pe2, List.setIfInBounds_toArray, List.set_cons_zero, List.set_cons_succ]
  refine wpAnyH_take (i := 6) (oi := pe6) (v := St nm) rfl (by kernel_rfl) (by kernel_rfl) (by kernel_rfl) (fun _ _ _ h => h) (y_load rfl 9 (.tmp 118) rfl bx 1 rfl (fun w hw => load9 ((cell_of_heap hw 1).trans rfl))) hs0 ?_
  simp only [Act.put, pe6, List.setIfInBounds_toArray, List.set_cons_zero, List.set_cons_succ]
  refine wpAnyH_all (rs := [3]) (by kernel_rfl) (by simp) (all1 ?_)
  refine op_call (o := pe3) (f := 24) (args := #[.pointer (some ⟨d, 0, none⟩), St nm]) (R := fun v w' => v = .int .i64 ed ∧ Pr J K0 w' d q s' t ∧ Kj J K0 w0 w') rfl rfl (by simp only [pe3]; go_simp) HD.out ?_
  rintro v0 w1 ⟨rfl, h1, k1⟩
  have hs0 := HBX.out w1 k1
  have HMM := hid (HM.out w1 h1 k1)
  clear h1 k1
  refine ⟨hs0, ?_⟩
  simp only [Act.put, pe3, List.setIfInBounds_toArray, List.set_cons_zero, List.set_cons_succ]
  refine wpAnyH_all (rs := [7]) (by kernel_rfl) (by simp) (all1 ?_)
  refine op_call (o := pe7) (f := 32) (args := #[.pointer (some ⟨q, 0, none⟩), St nm]) (R := fun v w' => v = .int .i64 em ∧ Pr J K0 w' d q s' t' ∧ Kj J K0 w0 w') rfl rfl (by simp only [pe7]; go_simp) HMM.out ?_
  rintro v0 w2 ⟨rfl, h2, k2⟩
  have hs0 := HBX.out w2 k2
  have H2 := hid h2
  have K2 := hid k2
  clear h2 k2
  refine ⟨hs0, ?_⟩
  simp only [Act.put, pe7, List.setIfInBounds_toArray, List.set_cons_zero, List.set_cons_succ]
  refine wpAnyH_take (i := 8) (oi := pe8) (v := .bool (ed == em)) rfl (by kernel_rfl) (by kernel_rfl) (by kernel_rfl) (fun _ _ _ h => h) (y_all rfl (fun _ => by simp only [pe8]; go_simp)) hs0 ?_
  simp only [Act.put, pe8, List.setIfInBounds_toArray, List.set_cons_zero, List.set_cons_succ]
  refine wpAnyH_take (i := 9) (oi := pe9) (v := .bool (ed == em)) rfl (by kernel_rfl) (by kernel_rfl) (by kernel_rfl) (fun _ _ _ h => h) (y_all rfl (fun _ => rfl)) hs0 ?_
  simp only [Act.put, pe9, List.setIfInBounds_toArray, List.set_cons_zero, List.set_cons_succ]
  refine wpAnyH_done (by kernel_rfl) ?_ _
  clear hs0
  go_wp2_with fail
  go_ret
  exact PlE.mk (b := ed == em) rfl HE.out (HFR.out _ _ _ H2.out K2.out)
end Go.Proofs.YtojnembakhhgiaaGreat
