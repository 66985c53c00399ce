import Derived.Test.YtojnembakhhgiaaGreatRuAll
/- Guarded steps of a region that draws its order. -/
namespace Go.Proofs.YtojnembakhhgiaaGreat
open Go.RowKit

theorem g_all {ops : Array Oper} {S : World → Prop} {op : Oper} {a : Act} {v : Value} (hg : Region.wanted op (yielded ops a.tmps) = true) (hr : ∀ w, (execOp a.eval op).run Tryz.prog w = .ok (.value v) w) : YieldsIf Tryz.prog ops S op v a :=
  .inl ⟨hg, fun w _ => hr w⟩
theorem g_load {ops : Array Oper} {S : World → Prop} {op : Oper} {a : Act} {v : Value} (hg : Region.wanted op (yielded ops a.tmps) = true) (ty : TypeId) (x : Operand) (ho : op.op = .load ty x) (b o : Nat) (hx : a.eval x = .pointer (some ⟨b, o, none⟩))
    (hr : ∀ w, S w → (Instr.loadAt ty (.pointer (some ⟨b, o, none⟩))).run Tryz.prog w = .ok v w) : YieldsIf Tryz.prog ops S op v a :=
  .inl ⟨hg, fun w hw => by
    unfold execOp
    simp only [ho, hx, Sem.run_bind, Sem.run_pure, hr w hw, Result.andThen_ok]⟩
theorem g_skip {ops : Array Oper} {S : World → Prop} {op : Oper} {a : Act} (hg : Region.wanted op (yielded ops a.tmps) = false) : YieldsIf Tryz.prog ops S op undef a := .inr ⟨hg, rfl⟩
/-- a conversion of bytes that lie there, wherever S holds -/
theorem y_text {ops : Array Oper} {S : World → Prop} {op : Oper} {a : Act} {bv : Value} {b : Bs} (hg : op.guard = none) (x : Operand) (ho : op.op = .convert 47 9 x) (hx : a.eval x = bv) (hr : ∀ w, S w → Br w bv b) : YieldsIf Tryz.prog ops S op (St b) a :=
  .inl ⟨by simp [Region.wanted, hg], fun w hw => by
    unfold execOp
    simp only [ho, hx, Sem.run_bind, Sem.run_pure, text_br (hr w hw), Result.andThen_ok]⟩
/-- a guarded call of a function in a region -/
theorem g_call {P : Program} {ops : Array Oper} {Q : Exit → Act → World → Prop} {i : Nat} {o : Oper} {a : Act} {w : World} {f : FuncId} {args : Array Value} {K : Act → World → Prop} {R : Value → World → Prop} (ho : ops[i]? = some o) (hg : Region.wanted o (yielded ops a.tmps) = true) (hr : (execOp a.eval o).run P w = .ok (.enter f args) w) (hc : Calls P f args w fun e w' => ∃ v, e = .returned v ∧ R v w') (hK : ∀ v w', R v w' → K (a.put o.dst v) w') : wpOp P ops Q i K a w := by
  unfold wpOp
  simp only [ho]
  rw [if_pos hg]
  refine .inl ?_
  unfold Oper.wp
  rw [hr]
  refine Calls.mono hc ?_
  rintro e w' ⟨v, rfl, h⟩
  exact hK v w' h
end Go.Proofs.YtojnembakhhgiaaGreat

/- Steps of Write's last region. -/
namespace Go.Proofs.YtojnembakhhgiaaGreat
open Go.RowKit

theorem op_make {ops : Array Oper} {Q : Exit → Act → World → Prop} {i : Nat} {o : Oper} {a : Act} {w : World} {K : Act → World → Prop} (ho : ops[i]? = some o) (hg : o.guard = none) (x : Operand) (hop : o.op = .makeSlice 47 x x) (n : Nat) (hx : a.eval x = .int .i64 (n : Int)) (hn : n ≤ 1000000) (hK : K (a.put o.dst (.slice (some ⟨w.heap.size, 0, none⟩) n n)) (w.alloc (.cells (bcs (List.replicate n 0)).toArray 5))) : wpOp Tryz.prog ops Q i K a w :=
  op_ok ho hg (by
    unfold execOp
    simp only [hop, hx, Sem.run_bind, Sem.run_pure, make_n n hn w, Result.andThen_ok]) hK
theorem op_text {ops : Array Oper} {Q : Exit → Act → World → Prop} {i : Nat} {o : Oper} {a : Act} {w : World} {K : Act → World → Prop} (ho : ops[i]? = some o) (hg : o.guard = none) (x : Operand) (hop : o.op = .convert 47 9 x) (v u : Value) (hx : a.eval x = v) (hr : (convert 47 9 v).run Tryz.prog w = .ok u w) (hK : K (a.put o.dst u) w) : wpOp Tryz.prog ops Q i K a w :=
  op_ok ho hg (by
    unfold execOp
    simp only [hop, hx, Sem.run_bind, Sem.run_pure, hr, Result.andThen_ok]) hK
theorem st_app (a b : Bs) : Value.string (⟨a.toArray⟩ ++ ⟨b.toArray⟩) = St (a ++ b) := by
  show Value.string _ = Value.string ⟨(a ++ b).toArray⟩
  congr 1
end Go.Proofs.YtojnembakhhgiaaGreat
