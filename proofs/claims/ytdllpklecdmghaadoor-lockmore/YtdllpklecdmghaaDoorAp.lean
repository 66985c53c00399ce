/- What append does to a row of one's own. -/
import Derived.Test.YtdllpklecdmghaaDoorLkE
import Derived.Deep.AppendSrc
namespace Go.Proofs.YtdllpklecdmghaaDoor
open Go.RowKit
open Lk (Lt)

/-- append, its run known -/
theorem wpList_append_run {P : Program} {w : World} {ops : Array Oper} {rest : List Oper} {o : Oper} {a : Act} {Q : Exit → Act → World → Prop} (hgd : o.guard = none) (s x : Operand) (t u : TypeId)
    (ho : o.op = .call { callee := .builtin .append, args := #[s, x], argTypes := #[t, u] }) (v xv v' : Value) (w' : World) (hs : a.eval s = v) (hx : a.eval x = xv)
    (hrun : ∀ ty, (Builtin.append_ #[t, u] ty #[v, xv]).run P w = .ok v' w') (h : wpList P ops Q rest (a.put o.dst v') w') : wpList P ops Q (o :: rest) a w := by
  refine wpList_plain hgd fun K hK => ?_
  unfold Oper.wp
  simp [execOp, ho, resolve, invoke, builtin, hs, hx, hrun, Result.andThen]
  exact hK _ _ h
theorem row_shape {w : World} {base : Nat} {e : TypeId} {sz : Nat} {v : Value} {n : Nat} {xs : List Value} (h : w.ownsRow base e sz v n xs) : ∃ ao cap, v = .slice ao n cap := by
  rcases h.2 with ⟨h1, h2⟩ | ⟨g, cap, _, h1, _⟩
  · rw [h2]; exact ⟨_, _, h1⟩
  · exact ⟨_, _, h1⟩
theorem below_own {b : Nat} {w0 w w' : World} {e : TypeId} {size : Nat} {v : Value} {n : Nat} {xs : List Value} (hb : Below b w0 w) (hbs : b ≤ w.heap.size) (ho : w.ownsRow b e size v n xs) (hg : w.grownBy w' v.ownBlock) : Below b w0 w' := by
  refine ⟨hg.os.trans hb.os, hg.tape.trans hb.tape, hg.output.trans hb.output, Nat.le_trans hb.size hg.size, fun k hk => ?_⟩
  rw [hg.block k (by omega) (fun e => by have := (ho.lt k e.symm).1; omega)]
  exact hb.block k hk
theorem add_plain (g o i : Nat) : (⟨g, o, none⟩ : Addr).add i = ⟨g, o + i, none⟩ := by
  unfold Addr.add
  split
  · rename_i h; subst h; rfl
  · rfl
/-- one element more -/
theorem app_run {t e : TypeId} {sz bt : Nat} {i0 : TypeInfo} {z : Value} (ht : Tryd.prog.underlying t = some (.slice e)) (hi : Tryd.prog.info? e = some i0) (hz0 : i0.zero = some z) (hz1 : i0.size = sz) (hz2 : i0.bytes = bt) (hzs : z.cells.size = sz) (hsz : 0 < sz)
    {W : World} {base : Nat} {v : Value} {n : Nat} {xs : List Value} (hown : W.ownsRow base e sz v n xs) (news : List Value) (hl : news.length = sz) (h1 : ∀ u ∈ news, u.oneCell' = true) (hn : (n + 1) * bt ≤ 140737488355328) (hn2 : n + 1 ≤ 140737488355328) (hbase : base ≤ W.heap.size) :
    ∃ ao cap w', (∀ ty, (Builtin.append_ #[t, t] ty #[v, .slice (some ⟨W.heap.size, 0, none⟩) 1 1]).run Tryd.prog (W.alloc (.cells news.toArray e)) = .ok (.slice ao (n + 1) cap) w') ∧ w'.ownsRow base e sz (.slice ao (n + 1) cap) (n + 1) (xs ++ news) ∧ W.grownBy w' v.ownBlock := by
  obtain ⟨v', w', h4, h5, h6, _⟩ := run_append_own (P := Tryd.prog) (W.alloc (.cells news.toArray e)) base t t e i0 z sz bt ht hi hz0 hz1 hz2 hzs hsz v n xs (hown.alloc _) ⟨W.heap.size, 0, none⟩ 1 1 news (by omega)
    (fun j u hj => by
      have : (W.alloc (.cells news.toArray e)).cell? ⟨W.heap.size, j, none⟩ = some u := by
        rw [cell_of_heap (heap_alloc_new W _)]
        simpa using hj
      rw [add_plain, Nat.zero_add]
      exact this) h1 (by unfold maxLen; omega) hn (by simp; omega)
  obtain ⟨ao, cap, rfl⟩ := row_shape h5
  refine ⟨ao, cap, w', fun ty => h4, h5, ⟨h6.os, h6.tape, h6.output, ?_, fun k hk hne => ?_⟩⟩
  · have := h6.size; simp at this; omega
  · rw [h6.block k (by simp; omega) hne]; exact Below.heap_alloc W _ k hk
/-- one byte more -/
theorem app_byte {W : World} {base : Nat} {v : Value} {l : Bs} (hown : W.ownsRow base 5 1 v l.length (bcs l)) (c : UInt8) (z : Int) (hz : z = (c.toNat : Int)) (hn : l.length + 1 ≤ 140737488355328) (hbase : base ≤ W.heap.size) :
    ∃ ao cap w', (∀ ty, (Builtin.append_ #[52, 52] ty #[v, .slice (some ⟨W.heap.size, 0, none⟩) 1 1]).run Tryd.prog (W.alloc (.cells #[.int .u8 z] 5)) = .ok (.slice ao (l.length + 1) cap) w') ∧ w'.ownsRow base 5 1 (.slice ao (l.length + 1) cap) (l ++ [c]).length (bcs (l ++ [c])) ∧ W.grownBy w' v.ownBlock := by
  obtain ⟨i0, hi, hz0, hz1, hz2⟩ := info_parts Tryd.info5
  subst hz
  obtain ⟨ao, cap, w', h1, h2, h3⟩ := app_run (t := 52) Tryd.underlying52 hi hz0 hz1 hz2 rfl (by decide) hown [.int .u8 (c.toNat : Int)] rfl (fun u hu => by simp at hu; rw [hu]; rfl) (by omega) hn hbase
  refine ⟨ao, cap, w', h1, ?_, h3⟩
  have e : bcs l ++ [.int .u8 (c.toNat : Int)] = bcs (l ++ [c]) := by rw [← bcs_app]; rfl
  rw [e] at h2
  rw [List.length_append]
  exact h2
/-- a text more -/
theorem app_str {W : World} {base : Nat} {v : Value} {l : Bs} (hown : W.ownsRow base 5 1 v l.length (bcs l)) (t : Bs) (hn : l.length + t.length ≤ 140737488355328) (hbase : base ≤ W.heap.size) :
    ∃ ao cap w', (∀ ty, (Builtin.append_ #[52, 22] ty #[v, St t]).run Tryd.prog W = .ok (.slice ao (l ++ t).length cap) w') ∧ w'.ownsRow base 5 1 (.slice ao (l ++ t).length cap) (l ++ t).length (bcs (l ++ t)) ∧ W.grownBy w' v.ownBlock := by
  obtain ⟨i0, hi, hz0, hz1, hz2⟩ := info_parts Tryd.info5
  obtain ⟨v', w', h4, h5, h6, _⟩ := Lib.run_append_own_string (P := Tryd.prog) W base 52 22 52 5 i0 Tryd.underlying52 Tryd.underlying22 hi hz0 hz1 hz2 v l.length (bcs l) hown ⟨t.toArray⟩ (by unfold maxLen; rw [st_size]; omega) (by rw [st_size]; omega) hbase
  rw [strCells_bcs, st_size, bcs_app, ← List.length_append] at h5
  obtain ⟨ao, cap, rfl⟩ := row_shape h5
  exact ⟨ao, cap, w', fun ty => h4, h5, h6⟩
/-- one term more -/
theorem app_term {W : World} {base : Nat} {v : Value} {l : List Bs} (hown : W.ownsRow base 22 1 v l.length (l.map fun b => St b)) (t : Bs) (hn : l.length + 1 ≤ 1000000) (hbase : base ≤ W.heap.size) :
    ∃ ao cap w', (∀ ty, (Builtin.append_ #[41, 41] ty #[v, .slice (some ⟨W.heap.size, 0, none⟩) 1 1]).run Tryd.prog (W.alloc (.cells #[St t] 22)) = .ok (.slice ao (l.length + 1) cap) w') ∧ w'.ownsRow base 22 1 (.slice ao (l.length + 1) cap) (l ++ [t]).length ((l ++ [t]).map fun b => St b) ∧ W.grownBy w' v.ownBlock := by
  obtain ⟨i0, hi, hz0, hz1, hz2⟩ := info_parts Tryd.info22
  obtain ⟨ao, cap, w', h1, h2, h3⟩ := app_run (t := 41) Tryd.underlying41 hi hz0 hz1 hz2 rfl (by decide) hown [St t] rfl (fun u hu => by simp at hu; rw [hu]; rfl) (by omega) (by omega) hbase
  exact ⟨ao, cap, w', h1, by simpa using h2, h3⟩
end Go.Proofs.YtdllpklecdmghaaDoor
