import Derived.Test.YtdhmmllpioppfaaROrd
import Derived.Test.YtdhmmllpioppfaaKTxt
/- The message at the bound, laid out in whatever order. -/
namespace Go.Proofs.Ytdhmmllpioppfaa.V
open Go.RowKit

def q0 : Oper := { dst := some 206, op := Op.makeSlice 28 (Operand.const (Value.int IntKind.i64 100)) (Operand.const (Value.int IntKind.i64 100)), type := 28, pos := "law.go:130", after := #[], guard := none }
def q1 : Oper := { dst := some 207, op := Op.convert 28 9 (Operand.tmp 206), type := 9, pos := "law.go:130", after := #[{ on := 0, ground := Ground.data }], guard := none }
def q2 : Oper := { dst := some 208, op := Op.makeSlice 28 (Operand.const (Value.int IntKind.i64 4096)) (Operand.const (Value.int IntKind.i64 4096)), type := 28, pos := "law.go:130", after := #[], guard := none }
def q3 : Oper := { dst := some 209, op := Op.convert 28 9 (Operand.tmp 208), type := 9, pos := "law.go:130", after := #[{ on := 2, ground := Ground.data }], guard := none }
def q4 : Oper := { dst := some 210, op := Op.makeSlice 23 (Operand.const (Value.int IntKind.i64 32)) (Operand.const (Value.int IntKind.i64 32)), type := 23, pos := "law.go:130", after := #[], guard := none }
def q5 : Oper := { dst := some 211, op := Op.makeSlice 28 (Operand.const (Value.int IntKind.i64 28304)) (Operand.const (Value.int IntKind.i64 28304)), type := 28, pos := "law.go:130", after := #[], guard := none }
def q6 : Oper := { dst := some 212, op := Op.build 44 #[(0, Operand.const (Value.int IntKind.u64 1)), (1, Operand.tmp 211)], type := 44, pos := "law.go:130", after := #[{ on := 5, ground := Ground.data }], guard := none }
def q7 : Oper := { dst := some 213, op := Op.buildSlice 25 1 #[(0, Operand.tmp 212)], type := 25, pos := "law.go:130", after := #[{ on := 6, ground := Ground.data }], guard := none }
def q8 : Oper := { dst := some 214, op := Op.build 27 #[(0, Operand.const (Value.int IntKind.u16 999)), (1, Operand.tmp 207), (4, Operand.tmp 209), (2, Operand.tmp 210), (5, Operand.tmp 213)], type := 27, pos := "law.go:130", after := #[{ on := 1, ground := Ground.data }, { on := 3, ground := Ground.data }, { on := 4, ground := Ground.data }, { on := 7, ground := Ground.data }], guard := none }
def q9 : Oper := { dst := some 28, op := Op.alloc 27, type := 0, pos := "law.go:130", after := #[], guard := none }
def q10 : Oper := { dst := none, op := Op.store 27 (Operand.tmp 28) (Operand.tmp 214), type := 0, pos := "law.go:130", after := #[{ on := 9, ground := Ground.data }, { on := 8, ground := Ground.data }, { on := 0, ground := Ground.phase }, { on := 1, ground := Ground.phase }, { on := 2, ground := Ground.phase }, { on := 3, ground := Ground.phase }, { on := 4, ground := Ground.phase }, { on := 5, ground := Ground.phase }, { on := 6, ground := Ground.phase }, { on := 7, ground := Ground.phase }, { on := 8, ground := Ground.phase }, { on := 9, ground := Ground.phase }], guard := none }
def qs : Array Oper := #[q0, q1, q2, q3, q4, q5, q6, q7, q8, q9, q10]
theorem qs_get (i : Nat) (o : Oper) (h : qs[i]? = some o) : (i = 0 ∧ o = q0) ∨ (i = 1 ∧ o = q1) ∨ (i = 2 ∧ o = q2) ∨ (i = 3 ∧ o = q3) ∨ (i = 4 ∧ o = q4) ∨ (i = 5 ∧ o = q5) ∨ (i = 6 ∧ o = q6) ∨ (i = 7 ∧ o = q7) ∨ (i = 8 ∧ o = q8) ∨ (i = 9 ∧ o = q9) ∨ (i = 10 ∧ o = q10) := by
  match i, h with
  | 0, h | 1, h | 2, h | 3, h | 4, h | 5, h | 6, h | 7, h | 8, h | 9, h | 10, h => exact (by cases h; first | exact .inl ⟨rfl, rfl⟩ | (refine .inr ?_; first | exact .inl ⟨rfl, rfl⟩ | (refine .inr ?_; first | exact .inl ⟨rfl, rfl⟩ | (refine .inr ?_; first | exact .inl ⟨rfl, rfl⟩ | (refine .inr ?_; first | exact .inl ⟨rfl, rfl⟩ | (refine .inr ?_; first | exact .inl ⟨rfl, rfl⟩ | (refine .inr ?_; first | exact .inl ⟨rfl, rfl⟩ | (refine .inr ?_; first | exact .inl ⟨rfl, rfl⟩ | (refine .inr ?_; first | exact .inl ⟨rfl, rfl⟩ | (refine .inr ?_; first | exact .inl ⟨rfl, rfl⟩ | (refine .inr ?_; exact ⟨rfl, rfl⟩)))))))))))
  | n + 11, h => simp [qs] at h
theorem qs_back (i : Nat) (o : Oper) (h : qs[i]? = some o) : ∀ e ∈ o.after, e.on < i := by
  rcases qs_get i o h with ⟨rfl, rfl⟩ | ⟨rfl, rfl⟩ | ⟨rfl, rfl⟩ | ⟨rfl, rfl⟩ | ⟨rfl, rfl⟩ | ⟨rfl, rfl⟩ | ⟨rfl, rfl⟩ | ⟨rfl, rfl⟩ | ⟨rfl, rfl⟩ | ⟨rfl, rfl⟩ | ⟨rfl, rfl⟩ <;> decide
section
variable {P : Program} {ops : Array Oper} {Q : Exit → Act → World → Prop}
theorem step_ok {i : Nat} {o : Oper} {a : Act} {w w' : World} {v : Value} {K : Act → World → Prop} (ho : ops[i]? = some o) (hg : o.guard = none) (hr : (execOp a.eval o).run P w = .ok (.value v) w') (hK : K (a.put o.dst v) w') : wpOp P ops Q i K a w := by
  unfold wpOp
  simp only [ho]
  rw [if_pos (by simp [Region.wanted, hg])]
  refine .inl ?_
  unfold Oper.wp
  rw [hr]
  exact hK
end

/-- a slot's value -/
def gt (a : Act) (d : Nat) : Value := a.tmps.getD d undef
theorem ev_tmp (a : Act) (d : Nat) : a.eval (.tmp d) = gt a d := rfl
/-- a block lies there, at B or behind it -/
def Bk (B : Nat) (w : World) (g : Nat) (o : Obj) : Prop := B ≤ g ∧ w.heap[g]? = some o
theorem Bk.alloc {B g : Nat} {w : World} {o : Obj} (h : Bk B w g o) (p : Obj) : Bk B (w.alloc p) g o := ⟨h.1, (Below.heap_alloc _ _ _ (lt_of_block h.2)).trans h.2⟩
theorem Bk.new {B : Nat} {w : World} (h : B ≤ w.heap.size) (o : Obj) : Bk B (w.alloc o) w.heap.size o := ⟨h, heap_alloc_new w o⟩
abbrev m0 : Obj := .cells #[.int .u16 0, St [], .slice none 0 0, .slice none 0 0, St [], .slice none 0 0] 27
abbrev sv (g n : Nat) : Value := .slice (some ⟨g, 0, none⟩) n n
abbrev mv (k h : Nat) : Array Value := #[.int .u16 999, zt 100, sv k 32, .slice none 0 0, zt 4096, sv h 1]
/-- what the region's operations bring -/
def Fv (B : Nat) : Nat → (Nat → Value) → World → Prop
  | 0, s, w => ∃ g, s 206 = sv g 100 ∧ Bk B w g (.cells (zc 100) 5)
  | 1, s, _ => s 207 = zt 100
  | 2, s, w => ∃ g, s 208 = sv g 4096 ∧ Bk B w g (.cells (zc 4096) 5)
  | 3, s, _ => s 209 = zt 4096
  | 4, s, w => ∃ g, s 210 = sv g 32 ∧ Bk B w g (.cells (zi 32) 2)
  | 5, s, w => ∃ g, s 211 = sv g 28304 ∧ Bk B w g (.cells (zc 28304) 5)
  | 6, s, w => ∃ g, s 212 = .agg #[.int .u64 1, sv g 28304] ∧ Bk B w g (.cells (zc 28304) 5)
  | 7, s, w => ∃ g h, s 213 = sv h 1 ∧ Bk B w h (.cells #[.int .u64 1, sv g 28304] 44) ∧ Bk B w g (.cells (zc 28304) 5)
  | 8, s, w => ∃ k g h, s 214 = .agg (mv k h) ∧ Bk B w k (.cells (zi 32) 2) ∧ Bk B w h (.cells #[.int .u64 1, sv g 28304] 44) ∧ Bk B w g (.cells (zc 28304) 5)
  | 9, s, w => ∃ p, s 28 = .pointer (some ⟨p, 0, none⟩) ∧ Bk B w p m0
  | _, _, _ => True
/-- the slots -/
def so : Nat → Nat
  | 0 => 206 | 1 => 207 | 2 => 208 | 3 => 209 | 4 => 210 | 5 => 211 | 6 => 212 | 7 => 213 | 8 => 214 | _ => 28
def Ds : List Nat := [206, 207, 208, 209, 210, 211, 212, 213, 214, 28]
theorem Fv.keep {B j : Nat} {s s' : Nat → Value} {w w' : World} (h : Fv B j s w) (hs : s' (so j) = s (so j)) (hw : ∀ g o, Bk B w g o → Bk B w' g o) : Fv B j s' w' := by
  match j, h with
  | 0, ⟨g, h1, h2⟩ => exact ⟨g, (show s' 206 = s 206 from hs).trans h1, hw _ _ h2⟩
  | 1, h => exact (show s' 207 = s 207 from hs).trans h
  | 2, ⟨g, h1, h2⟩ => exact ⟨g, (show s' 208 = s 208 from hs).trans h1, hw _ _ h2⟩
  | 3, h => exact (show s' 209 = s 209 from hs).trans h
  | 4, ⟨g, h1, h2⟩ => exact ⟨g, (show s' 210 = s 210 from hs).trans h1, hw _ _ h2⟩
  | 5, ⟨g, h1, h2⟩ => exact ⟨g, (show s' 211 = s 211 from hs).trans h1, hw _ _ h2⟩
  | 6, ⟨g, h1, h2⟩ => exact ⟨g, (show s' 212 = s 212 from hs).trans h1, hw _ _ h2⟩
  | 7, ⟨g, h, h1, h2, h3⟩ => exact ⟨g, h, (show s' 213 = s 213 from hs).trans h1, hw _ _ h2, hw _ _ h3⟩
  | 8, ⟨k, g, h, h1, h2, h3, h4⟩ => exact ⟨k, g, h, (show s' 214 = s 214 from hs).trans h1, hw _ _ h2, hw _ _ h3, hw _ _ h4⟩
  | 9, ⟨p, h1, h2⟩ => exact ⟨p, (show s' 28 = s 28 from hs).trans h1, hw _ _ h2⟩
  | n + 10, _ => trivial
theorem so_ne {i j : Nat} (hi : i < 10) (hj : j < 10) (h : i ≠ j) : so i ≠ so j := by
  have : ∀ i : Fin 10, ∀ j : Fin 10, i ≠ j → so i.1 ≠ so j.1 := by decide
  exact this ⟨i, hi⟩ ⟨j, hj⟩ (fun e => h (congrArg Fin.val e))
theorem so_mem {i : Nat} (hi : i < 10) : so i ∈ Ds := by
  have : ∀ i : Fin 10, so i.1 ∈ Ds := by decide
  exact this ⟨i, hi⟩
/-- what lies there in the end -/
structure Lay (w0 w : World) (k g h p : Nat) : Prop where
  bel : Below w0.heap.size w0 w
  kb : Bk w0.heap.size w k (.cells (zi 32) 2)
  gb : Bk w0.heap.size w g (.cells (zc 28304) 5)
  hb : Bk w0.heap.size w h (.cells #[.int .u64 1, sv g 28304] 44)
  pb : Bk w0.heap.size w p (.cells (mv k h) 27)
structure Iv (a0 : Act) (w0 : World) (l : Array Bool) (a : Act) (w : World) : Prop where
  size : l.size = 11
  off : Off Ds a0 a
  alt : (l.getD 10 false = false ∧ Below w0.heap.size w0 w ∧ ∀ j, j < 10 → l.getD j false = true → Fv w0.heap.size j (gt a) w) ∨ ((∀ j, l.getD j true = true) ∧ ∃ k g h p, gt a 28 = .pointer (some ⟨p, 0, none⟩) ∧ Lay w0 w k g h p)
theorem Iv.open' {a0 : Act} {w0 : World} {l : Array Bool} {a : Act} {w : World} (h : Iv a0 w0 l a w) {i : Nat} (hf : l.getD i true = false) : l.getD 10 false = false ∧ Below w0.heap.size w0 w ∧ ∀ j, j < 10 → l.getD j false = true → Fv w0.heap.size j (gt a) w := by
  rcases h.alt with h1 | h1
  · exact h1
  · rw [h1.1 i] at hf
    cases hf
theorem Iv.put {a0 : Act} {w0 : World} {l : Array Bool} {a : Act} {w w' : World} (h : Iv a0 w0 l a w) {i : Nat} (hi : i < 10) (hf : l.getD i true = false) (hz : 300 ≤ a0.tmps.size ∨ 214 < a0.tmps.size) (v : Value) (hb : Below w0.heap.size w0 w') (hw : ∀ g o, Bk w0.heap.size w g o → Bk w0.heap.size w' g o) (hF : ∀ s : Nat → Value, s (so i) = v → Fv w0.heap.size i s w') : Iv a0 w0 (l.setIfInBounds i true) (a.put (some (so i)) v) w' := by
  obtain ⟨h10, _, hj⟩ := h.open' hf
  refine ⟨by simpa using h.size, h.off.put (so_mem hi) v, .inl ⟨by rw [getD_set_other (by omega)]; exact h10, hb, fun j hjl hjs => ?_⟩⟩
  by_cases e : i = j
  · subst e
    refine hF _ (get_put_same ?_)
    rw [h.off.size]
    have : ∀ i : Fin 10, so i.1 < 215 := by decide
    have := this ⟨i, hi⟩
    simp only at this
    omega
  · rw [getD_set_other e] at hjs
    exact (hj j hjl hjs).keep (get_put_ne (so_ne hi hjl e)) hw
theorem x0 (a : Act) (W : World) : (execOp a.eval q0).run Try.prog W = .ok (.value (sv W.heap.size 100)) (W.alloc (.cells (zc 100) 5)) := by
  have h : (Instr.makeSlice 28 (.int .i64 100) (.int .i64 100)).run Try.prog W = .ok (sv W.heap.size 100) (W.alloc (.cells (zc 100) 5)) := zmake 100 (by omega) W
  simp [execOp, q0, Act.eval, h]
theorem x2 (a : Act) (W : World) : (execOp a.eval q2).run Try.prog W = .ok (.value (sv W.heap.size 4096)) (W.alloc (.cells (zc 4096) 5)) := by
  have h : (Instr.makeSlice 28 (.int .i64 4096) (.int .i64 4096)).run Try.prog W = .ok (sv W.heap.size 4096) (W.alloc (.cells (zc 4096) 5)) := zmake 4096 (by omega) W
  simp [execOp, q2, Act.eval, h]
theorem x4 (a : Act) (W : World) : (execOp a.eval q4).run Try.prog W = .ok (.value (sv W.heap.size 32)) (W.alloc (.cells (zi 32) 2)) := by
  have h : (Instr.makeSlice 23 (.int .i64 32) (.int .i64 32)).run Try.prog W = .ok (sv W.heap.size 32) (W.alloc (.cells (zi 32) 2)) := zmakei 32 (by omega) W
  simp [execOp, q4, Act.eval, h]
theorem x5 (a : Act) (W : World) : (execOp a.eval q5).run Try.prog W = .ok (.value (sv W.heap.size 28304)) (W.alloc (.cells (zc 28304) 5)) := by
  have h : (Instr.makeSlice 28 (.int .i64 28304) (.int .i64 28304)).run Try.prog W = .ok (sv W.heap.size 28304) (W.alloc (.cells (zc 28304) 5)) := zmake 28304 (by omega) W
  simp [execOp, q5, Act.eval, h]
theorem x1 (a : Act) (W : World) {g : Nat} (h : gt a 206 = sv g 100) (hb : W.heap[g]? = some (.cells (zc 100) 5)) : (execOp a.eval q1).run Try.prog W = .ok (.value (zt 100)) W := by
  have h2 : (convert 28 9 (sv g 100)).run Try.prog W = .ok (zt 100) W := (zsl hb).string
  simp [execOp, q1, ev_tmp, h, h2]
theorem x3 (a : Act) (W : World) {g : Nat} (h : gt a 208 = sv g 4096) (hb : W.heap[g]? = some (.cells (zc 4096) 5)) : (execOp a.eval q3).run Try.prog W = .ok (.value (zt 4096)) W := by
  have h2 : (convert 28 9 (sv g 4096)).run Try.prog W = .ok (zt 4096) W := (zsl hb).string
  simp [execOp, q3, ev_tmp, h, h2]
theorem gt_eq {a : Act} {d : Nat} {v : Value} (h : gt a d = v) : a.tmps[d]?.getD undef = v := by simpa [gt] using h
theorem x6 (a : Act) (W : World) {g : Nat} (h : gt a 211 = sv g 28304) : (execOp a.eval q6).run Try.prog W = .ok (.value (.agg #[.int .u64 1, sv g 28304])) W := by
  have h1 := gt_eq h
  clear h
  simp only [execOp, q6]
  go_simp
theorem x7 (a : Act) (W : World) {g : Nat} (h : gt a 212 = .agg #[.int .u64 1, sv g 28304]) : (execOp a.eval q7).run Try.prog W = .ok (.value (sv W.heap.size 1)) (W.alloc (.cells #[.int .u64 1, sv g 28304] 44)) := by
  have h1 := gt_eq h
  clear h
  simp only [execOp, q7]
  go_simp
theorem x8 (a : Act) (W : World) {k h : Nat} (h1 : gt a 207 = zt 100) (h2 : gt a 209 = zt 4096) (h3 : gt a 210 = sv k 32) (h4 : gt a 213 = sv h 1) : (execOp a.eval q8).run Try.prog W = .ok (.value (.agg (mv k h))) W := by
  unfold mv
  obtain ⟨x, hx⟩ : ∃ x, zt 100 = .string x := ⟨_, rfl⟩
  obtain ⟨y, hy⟩ : ∃ y, zt 4096 = .string y := ⟨_, rfl⟩
  rw [hx] at h1 ⊢
  rw [hy] at h2 ⊢
  have g1 := gt_eq h1
  have g2 := gt_eq h2
  have g3 := gt_eq h3
  have g4 := gt_eq h4
  clear h1 h2 h3 h4 hx hy
  simp only [execOp, q8]
  go_simp
theorem x9 (a : Act) (W : World) : (execOp a.eval q9).run Try.prog W = .ok (.value (.pointer (some ⟨W.heap.size, 0, none⟩))) (W.alloc m0) := by
  simp only [execOp, q9]
  go_simp
theorem reg21 {Q : Exit → Act → World → Prop} {a0 : Act} {w0 : World} (hz : 214 < a0.tmps.size)
    (hQ : ∀ (s : Nat → Value) (w : World) (k g h p : Nat), Lay w0 w k g h p → Q .normal (puts a0 [(206, s 206), (207, s 207), (208, s 208), (209, s 209), (210, s 210), (211, s 211), (212, s 212), (213, s 213), (214, s 214), (28, .pointer (some ⟨p, 0, none⟩))]) w) :
    (Code.region 21 qs true).wp Try.prog Q a0 w0 := by
  refine region_inv (Iv a0 w0) rfl qs_back ⟨by rfl, Off.refl _ _, .inl ⟨by decide, (Below.refl _ _).drew, fun j hj hl => ?_⟩⟩ ?_ ?_
  · have : ∀ j : Fin 10, (Array.replicate qs.size false).getD j.1 false = false := by decide
    have := this ⟨j, hj⟩
    rw [hl] at this
    cases this
  · intro l a w i o hI ho hf ha
    obtain ⟨h10, hbel, hF⟩ := hI.open' hf
    have hsz : w0.heap.size ≤ w.heap.size := hbel.size
    have hz' := Or.inr (a := 300 ≤ a0.tmps.size) hz
    have same : ∀ g o, Bk w0.heap.size w g o → Bk w0.heap.size w g o := fun _ _ h => h
    have grow : ∀ p : Obj, ∀ g o, Bk w0.heap.size w g o → Bk w0.heap.size (w.alloc p) g o := fun p _ _ h => h.alloc p
    rcases qs_get i o ho with ⟨rfl, rfl⟩ | ⟨rfl, rfl⟩ | ⟨rfl, rfl⟩ | ⟨rfl, rfl⟩ | ⟨rfl, rfl⟩ | ⟨rfl, rfl⟩ | ⟨rfl, rfl⟩ | ⟨rfl, rfl⟩ | ⟨rfl, rfl⟩ | ⟨rfl, rfl⟩ | ⟨rfl, rfl⟩
    · exact step_ok ho rfl (x0 a w) (hI.put (i := 0) (by omega) hf hz' _ (hbel.alloc hsz _) (grow _) fun s hs => ⟨_, hs, Bk.new hsz _⟩)
    · obtain ⟨g, hg, hb⟩ := hF 0 (by omega) (ha ⟨0, .data⟩ (by simp [q1]) (by decide))
      exact step_ok ho rfl (x1 a w hg hb.2) (hI.put (i := 1) (by omega) hf hz' _ hbel same fun s hs => hs)
    · exact step_ok ho rfl (x2 a w) (hI.put (i := 2) (by omega) hf hz' _ (hbel.alloc hsz _) (grow _) fun s hs => ⟨_, hs, Bk.new hsz _⟩)
    · obtain ⟨g, hg, hb⟩ := hF 2 (by omega) (ha ⟨2, .data⟩ (by simp [q3]) (by decide))
      exact step_ok ho rfl (x3 a w hg hb.2) (hI.put (i := 3) (by omega) hf hz' _ hbel same fun s hs => hs)
    · exact step_ok ho rfl (x4 a w) (hI.put (i := 4) (by omega) hf hz' _ (hbel.alloc hsz _) (grow _) fun s hs => ⟨_, hs, Bk.new hsz _⟩)
    · exact step_ok ho rfl (x5 a w) (hI.put (i := 5) (by omega) hf hz' _ (hbel.alloc hsz _) (grow _) fun s hs => ⟨_, hs, Bk.new hsz _⟩)
    · obtain ⟨g, hg, hb⟩ := hF 5 (by omega) (ha ⟨5, .data⟩ (by simp [q6]) (by decide))
      exact step_ok ho rfl (x6 a w hg) (hI.put (i := 6) (by omega) hf hz' _ hbel same fun s hs => ⟨g, hs, hb⟩)
    · obtain ⟨g, hg, hb⟩ := hF 6 (by omega) (ha ⟨6, .data⟩ (by simp [q7]) (by decide))
      exact step_ok ho rfl (x7 a w hg) (hI.put (i := 7) (by omega) hf hz' _ (hbel.alloc hsz _) (grow _) fun s hs => ⟨g, _, hs, Bk.new hsz _, hb.alloc _⟩)
    · have h1 := hF 1 (by omega) (ha ⟨1, .data⟩ (by simp [q8]) (by decide))
      have h3 := hF 3 (by omega) (ha ⟨3, .data⟩ (by simp [q8]) (by decide))
      obtain ⟨k, hk, hkb⟩ := hF 4 (by omega) (ha ⟨4, .data⟩ (by simp [q8]) (by decide))
      obtain ⟨g, h, hh, hhb, hgb⟩ := hF 7 (by omega) (ha ⟨7, .data⟩ (by simp [q8]) (by decide))
      exact step_ok ho rfl (x8 a w h1 h3 hk hh) (hI.put (i := 8) (by omega) hf hz' _ hbel same fun s hs => ⟨k, g, h, hs, hkb, hhb, hgb⟩)
    · exact step_ok ho rfl (x9 a w) (hI.put (i := 9) (by omega) hf hz' _ (hbel.alloc hsz _) (grow _) fun s hs => ⟨_, hs, Bk.new hsz _⟩)
    · have hall : ∀ j : Nat, j < 10 → l.getD j false = true := fun j hj => by
        refine ha ⟨j, .phase⟩ ?_ (by rfl)
        match j, hj with
        | 0, _ | 1, _ | 2, _ | 3, _ | 4, _ | 5, _ | 6, _ | 7, _ | 8, _ | 9, _ => simp [q10]
      obtain ⟨k, g, h, h8, hkb, hhb, hgb⟩ := hF 8 (by omega) (hall 8 (by omega))
      obtain ⟨p, h9, hpb⟩ := hF 9 (by omega) (hall 9 (by omega))
      unfold wpOp
      simp only [ho]
      rw [if_pos (by rfl)]
      refine .inl (wp_store_row 27 (.tmp 28) (.tmp 214) rfl p (mv k h) h9 h8 27 _ hpb.2 (by kernel_rfl) rfl (by simp [Value.oneCell', zt]) ?_)
      have ne : ∀ {x : Nat} {c : Array Value} {t : TypeId}, t ≠ 27 → Bk w0.heap.size w x (.cells c t) → Bk w0.heap.size (w.setRow p (mv k h)) x (.cells c t) := fun ht hx => ⟨hx.1, (setRow_other _ _ _ _ (fun e => by
        subst e
        have := hx.2.symm.trans hpb.2
        simp only [Option.some.injEq, Obj.cells.injEq] at this
        exact ht this.2.1)).trans hx.2⟩
      refine ⟨by simpa using hI.size, hI.off, .inr ⟨fun j => ?_, k, g, h, p, h9, ⟨⟨hbel.os, hbel.tape, hbel.output, by simpa using hbel.size, fun x hx => (setRow_other _ _ _ _ (by have := hpb.1; omega)).trans (hbel.block x hx)⟩, ne (by decide) hkb, ne (by decide) hgb, ne (by decide) hhb, ⟨hpb.1, setRow_heap _ _ _ _ _ _ hpb.2⟩⟩⟩⟩
      have hs := hI.size
      rcases Nat.lt_or_ge j 11 with h' | h'
      · by_cases e : j = 10
        · subst e
          simp [hs]
        · rw [getD_set_other (Ne.symm e)]
          have := hall j (by omega)
          simpa [hs, h'] using this
      · simp [hs, h']
  · intro l a w hI hl
    rcases hI.alt with h1 | ⟨_, k, g, h, p, hp, hlay⟩
    · have h2 := hl 10
      have h3 := h1.1
      simp [hI.size] at h2 h3
      rw [h2] at h3
      cases h3
    · have e := hI.off.eq
      have h2 := hQ (gt a) w k g h p hlay
      rw [← hp] at h2
      rw [e]
      exact h2
end Go.Proofs.Ytdhmmllpioppfaa.V

/- The message at the bound, written and read. -/
namespace Go.Proofs.Ytdhmmllpioppfaa.V
open Go.RowKit

def lgB : Bs := msgB (lg 28304)
theorem lgB_len : lgB.length = 32768 := lg_size 28304 (by omega) (by omega)
theorem Lay.below {w0 w w' : World} {k g h p : Nat} (hl : Lay w0 w k g h p) (hb : Below w.heap.size w w') : Lay w0 w' k g h p := by
  have f : ∀ {x : Nat} {o : Obj}, Bk w0.heap.size w x o → Bk w0.heap.size w' x o := fun hx => ⟨hx.1, (hb.block _ (lt_of_block hx.2)).trans hx.2⟩
  exact ⟨hl.bel.trans (hb.mono hl.bel.size), f hl.kb, f hl.gb, f hl.hb, f hl.pb⟩
theorem encLg {w0 w : World} {k g h p : Nat} (hl : Lay w0 w k g h p) : Calls Try.prog 8 #[.agg (mv k h)] w fun e w' => ∃ ao cap, e = .returned (.tuple #[.slice ao 32768 cap, .int .i64 0]) ∧ Sl w' (.slice ao 32768 cap) lgB ∧ Below w.heap.size w w' := by
  have h1 := enc_ok (m := lg 28304) ⟨ns_zero hl.kb.2, ts_nil _, rcs_one (t := 1) hl.hb.2 (zsl hl.gb.2)⟩ (lg_len 28304 (by omega)) lg_enc
  rw [show (msgB (lg 28304)).length = 32768 from lgB_len] at h1
  exact h1
theorem decLg {W : World} {v : Value} (hs : Sl W v lgB) : Calls Try.prog 9 #[v] W fun e w' => ∃ x y an cn at' ct am cm, e = .returned (.tuple #[.agg #[.int .u16 999, .string x, .slice an 32 cn, .slice at' 0 ct, .string y, .slice am 1 cm], .int .i64 0]) ∧ Below W.heap.size W w' := by
  have h := dec_any W v lgB hs (by rw [lgB_len]; omega)
  rw [show decR lgB = (lg 28304, 0) from lg_dec] at h
  refine h.mono ?_
  rintro e w1 ⟨nv, tv, mv, rfl, hmo, hb⟩
  obtain ⟨an, cn, rfl⟩ := own_slice hmo.ns
  obtain ⟨at', ct, rfl⟩ := own_slice hmo.ts
  obtain ⟨am, cm, rfl⟩ := hmo.mo.shape
  exact ⟨_, _, an, cn, at', ct, am, cm, rfl, hb⟩
theorem encOver {w : World} {k h G : Nat} (hk : w.heap[k]? = some (.cells (zi 32) 2)) (hh : w.heap[h]? = some (.cells #[.int .u64 1, sv G 28305] 44)) (hG : w.heap[G]? = some (.cells (zc 28305) 5)) : Calls Try.prog 8 #[.agg (mv k h)] w fun e w' => ∃ ao cap, e = .returned (.tuple #[.slice ao 0 cap, .int .i64 3]) ∧ Below w.heap.size w w' := by
  have h1 := enc_any w _ _ _ (lg 28305) ⟨ns_zero hk, ts_nil _, rcs_one (t := 1) hh (zsl hG)⟩ (lg_len 28305 (by omega))
  rw [lg_over] at h1
  refine h1.mono ?_
  rintro e w1 ⟨ao, cap, rfl, _, hb⟩
  exact ⟨ao, cap, rfl, hb⟩
theorem Lay.alloc {w0 w : World} {k g h p : Nat} (hl : Lay w0 w k g h p) (o : Obj) : Lay w0 (w.alloc o) k g h p := hl.below ((Below.refl _ _).alloc (Nat.le_refl _) o)
theorem Lay.cell {w0 w : World} {k g h p : Nat} (hl : Lay w0 w k g h p) : w.cell? ⟨h, 1, none⟩ = some (sv g 28304) := (cell_of_heap hl.hb.2 1).trans rfl
theorem Lay.thaw {w0 w : World} {k g h p : Nat} (hl : Lay w0 w k g h p) (i : Nat) : w.frozen? ⟨h, i, none⟩ = false := by simp [World.frozen?, hl.hb.2]
theorem Lay.five {w0 w : World} {k g h p : Nat} (hl : Lay w0 w k g h p) : w.cell? ⟨p, 5, none⟩ = some (sv h 1) := (cell_of_heap hl.pb.2 5).trans rfl
/-- the body is put in the place of the elder one -/
theorem Lay.over {w0 W X : World} {k g h p : Nat} (hl : Lay w0 W k g h p) (hX : X = ((W.alloc (.cells (zc 28305) 5)).setCell ⟨h, 1, none⟩ (sv W.heap.size 28305)).drew) :
    Below w0.heap.size w0 X ∧ X.heap[h]? = some (.cells #[.int .u64 1, sv W.heap.size 28305] 44) ∧ X.heap[W.heap.size]? = some (.cells (zc 28305) 5) ∧ ∀ (q : Nat) (c : Array Value) (t : TypeId), W.heap[q]? = some (.cells c t) → t ≠ 44 → X.heap[q]? = some (.cells c t) := by
  subst hX
  have hh := (hl.alloc (.cells (zc 28305) 5)).hb
  have hlt := lt_of_block hl.hb.2
  refine ⟨(set1_below (hl.alloc _).bel hh.1 1 _).drew, (heap_setCell_same hh.2 1 _).trans rfl, ?_, fun q c t hq ht => ?_⟩
  · show ((W.alloc _).setCell _ _).heap[W.heap.size]? = _
    rw [Below.heap_setCell _ _ _ _ (by show W.heap.size ≠ h; omega)]
    exact heap_alloc_new _ _
  · show ((W.alloc _).setCell _ _).heap[q]? = _
    have ne : q ≠ h := fun e => by
      subst e
      have := hq.symm.trans hl.hb.2
      simp only [Option.some.injEq, Obj.cells.injEq] at this
      exact ht this.2.1
    rw [Below.heap_setCell _ _ _ _ ne]
    exact (Below.heap_alloc _ _ _ (lt_of_block hq)).trans hq
end Go.Proofs.Ytdhmmllpioppfaa.V
