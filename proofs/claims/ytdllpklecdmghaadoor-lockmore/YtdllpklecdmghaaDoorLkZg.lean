/- Guarded steps of a region that draws its order. -/
import Derived.Test.YtdllpklecdmghaaDoorLkVAll
namespace Go.Proofs.YtdllpklecdmghaaDoor
open Go.RowKit

theorem g_all {ops : Array Oper} {S : World → Prop} {op : Oper} {a : Act} {v : Value} (hg : Region.wanted op (yielded ops a.tmps) = true) (hr : ∀ w, (execOp a.eval op).run Tryd.prog w = .ok (.value v) w) : YieldsIf Tryd.prog ops S op v a :=
  .inl ⟨hg, fun w _ => hr w⟩
theorem g_load {ops : Array Oper} {S : World → Prop} {op : Oper} {a : Act} {v : Value} (hg : Region.wanted op (yielded ops a.tmps) = true) (ty : TypeId) (x : Operand) (ho : op.op = .load ty x) (b o : Nat) (hx : a.eval x = .pointer (some ⟨b, o, none⟩))
    (hr : ∀ w, S w → (Instr.loadAt ty (.pointer (some ⟨b, o, none⟩))).run Tryd.prog w = .ok v w) : YieldsIf Tryd.prog ops S op v a :=
  .inl ⟨hg, fun w hw => by
    unfold execOp
    simp only [ho, hx, Sem.run_bind, Sem.run_pure, hr w hw, Result.andThen_ok]⟩
theorem g_skip {ops : Array Oper} {S : World → Prop} {op : Oper} {a : Act} (hg : Region.wanted op (yielded ops a.tmps) = false) : YieldsIf Tryd.prog ops S op undef a := .inr ⟨hg, rfl⟩
/-- a guarded call of a function in a region -/
theorem g_call {P : Program} {ops : Array Oper} {Q : Exit → Act → World → Prop} {i : Nat} {o : Oper} {a : Act} {w : World} {f : FuncId} {args : Array Value} {K : Act → World → Prop} {R : Value → World → Prop} (ho : ops[i]? = some o) (hg : Region.wanted o (yielded ops a.tmps) = true) (hr : (execOp a.eval o).run P w = .ok (.enter f args) w) (hc : Calls P f args w fun e w' => ∃ v, e = .returned v ∧ R v w') (hK : ∀ v w', R v w' → K (a.put o.dst v) w') : wpOp P ops Q i K a w := by
  unfold wpOp
  simp only [ho]
  rw [if_pos hg]
  refine .inl ?_
  unfold Oper.wp
  rw [hr]
  refine Calls.mono hc ?_
  rintro e w' ⟨v, rfl, h⟩
  exact hK v w' h
/-- a call with one answer -/
theorem call_one {P : Program} {f : FuncId} {args : Array Value} {w : World} {x : Value} {B : World → Prop} (h : Calls P f args w fun e w' => e = .returned x ∧ B w') : Calls P f args w fun e w' => ∃ v, e = .returned v ∧ (v = x ∧ B w') :=
  h.mono (fun _ _ ⟨h1, h2⟩ => ⟨x, h1, rfl, h2⟩)
theorem lkload25 {w : World} {b : Nat} {v0 v1 v2 v3 : Value} (h0 : w.cell? ⟨b, 0, none⟩ = some v0) (h1 : w.cell? ⟨b, 1, none⟩ = some v1) (h2 : w.cell? ⟨b, 2, none⟩ = some v2) (h3 : w.cell? ⟨b, 3, none⟩ = some v3) : (Instr.loadAt 26 (.pointer (some ⟨b, 0, none⟩))).run Tryd.prog w = .ok (.agg #[v0, v1, v2, v3]) w := by go_simp
theorem lkload44 {w : World} {b : Nat} {v0 v1 : Value} (h0 : w.cell? ⟨b, 0, none⟩ = some v0) (h1 : w.cell? ⟨b, 1, none⟩ = some v1) : (Instr.loadAt 43 (.pointer (some ⟨b, 0, none⟩))).run Tryd.prog w = .ok (.agg #[v0, v1]) w := by go_simp
end Go.Proofs.YtdllpklecdmghaaDoor
