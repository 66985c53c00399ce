/- Rows of terms of one's own; a number picked. -/
import Derived.Test.YtmdiggbbgcjcnaaDoorSdN
import Derived.Deep.AppendSrc
import Derived.Maps.AppendAt
namespace Go.Proofs.YtmdiggbbgcjcnaaDoor
open Go.RowKit

/-- append, its run known -/
theorem wpList_append_run {P : Program} {w : World} {ops : Array Oper} {rest : List Oper} {o : Oper} {a : Act} {Q : Exit → Act → World → Prop} (hgd : o.guard = none) (s x : Operand) (t u : TypeId)
    (ho : o.op = .call { callee := .builtin .append, args := #[s, x], argTypes := #[t, u] }) (v xv v' : Value) (w' : World) (hs : a.eval s = v) (hx : a.eval x = xv)
    (hrun : ∀ ty, (Builtin.append_ #[t, u] ty #[v, xv]).run P w = .ok v' w') (h : wpList P ops Q rest (a.put o.dst v') w') : wpList P ops Q (o :: rest) a w := by
  refine wpList_plain hgd fun K hK => ?_
  unfold Oper.wp
  simp [execOp, ho, resolve, invoke, builtin, hs, hx, hrun, Result.andThen]
  exact hK _ _ h
theorem row_shape {w : World} {base : Nat} {e : TypeId} {sz : Nat} {v : Value} {n : Nat} {xs : List Value} (h : w.ownsRow base e sz v n xs) : ∃ ao cap, v = .slice ao n cap := by
  rcases h.2 with ⟨h1, h2⟩ | ⟨g, cap, _, h1, _⟩
  · rw [h2]; exact ⟨_, _, h1⟩
  · exact ⟨_, _, h1⟩
theorem below_own {b : Nat} {w0 w w' : World} {e : TypeId} {size : Nat} {v : Value} {n : Nat} {xs : List Value} (hb : Below b w0 w) (hbs : b ≤ w.heap.size) (ho : w.ownsRow b e size v n xs) (hg : w.grownBy w' v.ownBlock) : Below b w0 w' := by
  refine ⟨hg.os.trans hb.os, hg.tape.trans hb.tape, hg.output.trans hb.output, Nat.le_trans hb.size hg.size, fun k hk => ?_⟩
  rw [hg.block k (by omega) (fun e => by have := (ho.lt k e.symm).1; omega)]
  exact hb.block k hk
theorem add_plain (g o i : Nat) : (⟨g, o, none⟩ : Addr).add i = ⟨g, o + i, none⟩ := by
  unfold Addr.add
  split
  · rename_i h; subst h; rfl
  · rfl
/-- one element more -/
theorem app_run {t e : TypeId} {sz bt : Nat} {i0 : TypeInfo} {z : Value} (ht : Tryd.prog.underlying t = some (.slice e)) (hi : Tryd.prog.info? e = some i0) (hz0 : i0.zero = some z) (hz1 : i0.size = sz) (hz2 : i0.bytes = bt) (hzs : z.cells.size = sz) (hsz : 0 < sz)
    {W : World} {base : Nat} {v : Value} {n : Nat} {xs : List Value} (hown : W.ownsRow base e sz v n xs) (news : List Value) (hl : news.length = sz) (h1 : ∀ u ∈ news, u.oneCell' = true) (hn : (n + 1) * bt ≤ 140737488355328) (hn2 : n + 1 ≤ 140737488355328) (hbase : base ≤ W.heap.size) :
    ∃ ao cap w', (∀ ty, (Builtin.append_ #[t, t] ty #[v, .slice (some ⟨W.heap.size, 0, none⟩) 1 1]).run Tryd.prog (W.alloc (.cells news.toArray e)) = .ok (.slice ao (n + 1) cap) w') ∧ w'.ownsRow base e sz (.slice ao (n + 1) cap) (n + 1) (xs ++ news) ∧ W.grownBy w' v.ownBlock := by
  obtain ⟨v', w', h4, h5, h6, _⟩ := run_append_own (P := Tryd.prog) (W.alloc (.cells news.toArray e)) base t t e i0 z sz bt ht hi hz0 hz1 hz2 hzs hsz v n xs (hown.alloc _) ⟨W.heap.size, 0, none⟩ 1 1 news (by omega)
    (fun j u hj => by
      have : (W.alloc (.cells news.toArray e)).cell? ⟨W.heap.size, j, none⟩ = some u := by
        rw [cell_of_heap (heap_alloc_new W _)]
        simpa using hj
      rw [add_plain, Nat.zero_add]
      exact this) h1 (by unfold maxLen; omega) hn (by simp; omega)
  obtain ⟨ao, cap, rfl⟩ := row_shape h5
  refine ⟨ao, cap, w', fun ty => h4, h5, ⟨h6.os, h6.tape, h6.output, ?_, fun k hk hne => ?_⟩⟩
  · have := h6.size; simp at this; omega
  · rw [h6.block k (by simp; omega) hne]; exact Below.heap_alloc W _ k hk
/-- one term more -/
theorem app_term {W : World} {base : Nat} {v : Value} {l : List Bs} (hown : W.ownsRow base 22 1 v l.length (l.map fun b => St b)) (t : Bs) (hn : l.length + 1 ≤ 1000000) (hbase : base ≤ W.heap.size) :
    ∃ ao cap w', (∀ ty, (Builtin.append_ #[32, 32] ty #[v, .slice (some ⟨W.heap.size, 0, none⟩) 1 1]).run Tryd.prog (W.alloc (.cells #[St t] 22)) = .ok (.slice ao (l.length + 1) cap) w') ∧ w'.ownsRow base 22 1 (.slice ao (l.length + 1) cap) (l ++ [t]).length ((l ++ [t]).map fun b => St b) ∧ W.grownBy w' v.ownBlock := by
  obtain ⟨i0, hi, hz0, hz1, hz2⟩ := info_parts Tryd.info22
  obtain ⟨ao, cap, w', h1, h2, h3⟩ := app_run (t := 32) Tryd.underlying32 hi hz0 hz1 hz2 rfl (by decide) hown [St t] rfl (fun u hu => by simp at hu; rw [hu]; rfl) (by omega) (by omega) hbase
  exact ⟨ao, cap, w', h1, by simpa using h2, h3⟩
theorem own_cap {w : World} {B : Nat} {a : Option Addr} {k : Nat} {l : List Bs} (h : w.ownsRow B 22 1 (.slice a l.length k) l.length (l.map St)) : l.length ≤ k ∧ (a = none → l = []) ∧ ∀ x, a = some x → ∃ g, x = ⟨g, 0, none⟩ := by
  rcases h.2 with ⟨h1, h2⟩ | ⟨g, cap, cur, hv, hb, hg, hc1, hc2, hc3, hc4⟩
  · have e : l = [] := List.length_eq_zero_iff.1 (by omega)
    subst e
    injection h1 with e1 _ _
    exact ⟨by simp, fun _ => rfl, fun x h => by rw [e1] at h; cases h⟩
  · cases hv
    exact ⟨by omega, (fun h => by cases h), fun x h => by cases h; exact ⟨g, rfl⟩⟩
theorem append_many (W : World) (B : Nat) (v kv : Value) (l ks : List Bs) (hown : W.ownsRow B 22 1 v l.length (l.map St)) (hk : Texts W kv ks) (hl : l.length + ks.length < 1000000000) (hB : B ≤ W.heap.size) :
    ∃ ao kc w', (∀ ty, (Builtin.append_ #[32, 32] ty #[v, kv]).run Tryd.prog W = .ok (.slice ao (l ++ ks).length kc) w') ∧ w'.ownsRow B 22 1 (.slice ao (l ++ ks).length kc) (l ++ ks).length ((l ++ ks).map St) ∧ W.grownBy w' v.ownBlock := by
  obtain ⟨i0, hi, hz0, hz1, hz2⟩ := info_parts Tryd.info22
  obtain ⟨ao, cap, rfl, hc⟩ := hk
  obtain ⟨a1, k1, rfl⟩ := row_shape hown
  by_cases h0 : ks = []
  · subst h0
    refine ⟨a1, k1, W, fun ty => ?_, by simpa using hown, ⟨rfl, rfl, rfl, Nat.le_refl _, fun _ _ _ => rfl⟩⟩
    have hcap := (own_cap hown).1
    cases a1 <;> cases ao <;> simp [hcap, Builtin.append_, Builtin.firstCells, run_underlying Tryd.underlying32, sizeOf, typeInfo, hi, Builtin.lenOf, go_sem]
  · obtain ⟨g, o, rfl, hlt, hcell⟩ := hc h0
    have hpos := List.length_pos_iff.2 h0
    obtain ⟨v', w', h1, h2, h3, _, h5⟩ := run_append_own_at (P := Tryd.prog) W B 32 32 22 i0 _ 1 16 Tryd.underlying32 hi hz0 hz1 hz2 rfl (by decide) (.slice a1 l.length k1) l.length (l.map St) hown ⟨g, o, none⟩ ks.length cap (ks.map St) (by simp) (fun j u hu => by
      have hj : j < ks.length := by have := (List.getElem?_eq_some_iff.1 hu).1; simpa using this
      rw [add_plain, hcell j hj, ← hu]; simp [hj]) (fun u hu => by obtain ⟨x, _, rfl⟩ := List.mem_map.1 hu; rfl) (by unfold maxLen; omega) (by omega) hB
    rw [← List.map_append] at h2
    have h4 : ∃ a k, v' = .slice a (l ++ ks).length k := by
      rcases h2.2 with ⟨_, e⟩ | ⟨g, cap, _, e, _⟩
      · omega
      · exact ⟨some ⟨g, 0, none⟩, cap, by rw [e]; simp⟩
    obtain ⟨a, k, rfl⟩ := h4
    exact ⟨a, k, w', fun ty => h1, by simpa using h2, h3⟩
/-- a row's own block is no store's -/
theorem own_ne {w : World} {B g : Nat} {v : Value} {n : Nat} {xs : List Value} {cs : Array Value} {t : TypeId} (h : w.ownsRow B 22 1 v n xs) (hg : w.heap[g]? = some (.cells cs t (0, 0))) (ht : t ≠ 22) : v.ownBlock ≠ some g := by
  intro e
  rcases h.2 with ⟨h1, _⟩ | ⟨k, cap, cur, e1, _, e3, _⟩
  · rw [h1] at e; cases e
  · rw [e1] at e
    have : k = g := by simpa [Value.ownBlock] using e
    subst this
    rw [hg] at e3
    simp at e3
    exact ht e3.2
/-- a row stays where a store is written -/
theorem own_frx {w w1 : World} {B g : Nat} {v : Value} {n : Nat} {xs : List Value} (h : w.ownsRow B 22 1 v n xs) (hf : Frx w.heap.size g w w1) (hne : v.ownBlock ≠ some g) : w1.ownsRow B 22 1 v n xs := by
  obtain ⟨h1, h2⟩ := h
  refine ⟨h1, ?_⟩
  rcases h2 with h2 | ⟨k, cap, cur, e1, e2, e3, e4⟩
  · exact Or.inl h2
  · refine Or.inr ⟨k, cap, cur, e1, e2, ?_, e4⟩
    rw [hf.block k (lt_of_block e3) (fun e => hne (by rw [e1, ← e]; rfl))]
    exact e3

theorem pick_any (n : Int) (m : Nat) (hm : 0 < m) (hm2 : m ≤ 1000) (w : World) : Calls Tryd.prog 12 #[.int .i64 n, .int .i64 (m : Int)] w fun e w' => (∃ k : Nat, k < m ∧ e = .returned (.int .i64 (k : Int))) ∧ w' = w := by
  have a1 : (-(m : Int)) < n.tmod m := by
    by_cases h0 : 0 ≤ n
    · have := Int.tmod_nonneg (m : Int) h0; omega
    · have e : n.tmod m = -((-n).tmod m) := by rw [← Int.neg_tmod, Int.neg_neg]
      have := Int.tmod_lt_of_pos (-n) (show (0 : Int) < m by omega)
      omega
  have a2 : n.tmod m < (m : Int) := Int.tmod_lt_of_pos _ (by omega)
  have hw1 : IntKind.i64.wrap (n.tmod m) = n.tmod m := by rw [IntKind.wrap_i64]; omega
  have hw2 : IntKind.i64.wrap (n.tmod m + m) = n.tmod m + m := by rw [IntKind.wrap_i64]; omega
  have b1 : 0 ≤ (n.tmod m + m).tmod m := Int.tmod_nonneg _ (by omega)
  have b2 : (n.tmod m + m).tmod m < (m : Int) := Int.tmod_lt_of_pos _ (by omega)
  have hw3 : IntKind.i64.wrap ((n.tmod m + m).tmod m) = (n.tmod m + m).tmod m := by rw [IntKind.wrap_i64]; omega
  obtain ⟨r, hr⟩ : ∃ r, r = (n.tmod m + m).tmod m := ⟨_, rfl⟩
  have HR : Hid (0 ≤ r ∧ r < (m : Int)) := hid ⟨by rw [hr]; exact b1, by rw [hr]; exact b2⟩
  have hm0 : ¬ (m : Int) ≤ 0 := by omega
  have hm1 : (m : Int) ≠ 0 := by omega
  have HRR := hid hr
  clear a1 a2 b1 b2 hr
  go_enter Tryd.func12, Tryd.ntmps12
  go_wp2_with fail
  go_ret
  exact ⟨⟨r.toNat, by have := HR.out; omega, by rw [show ((r.toNat : Nat) : Int) = r by have := HR.out; omega, HRR.out]; rfl⟩, rfl⟩
end Go.Proofs.YtmdiggbbgcjcnaaDoor
