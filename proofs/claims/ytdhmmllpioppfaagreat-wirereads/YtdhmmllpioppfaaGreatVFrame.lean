/- Bytes in memory, and a row of bytes of one's own. -/
import Derived.Test.YtdhmmllpioppfaaGreatVSmall
import Derived.Deep.RegionHeld3
import Derived.Lib.AppendStr
import Derived.Maps.AppendAt
import Derived.Laws.OwnMore
namespace Go.Proofs.YtdhmmllpioppfaaGreat.V
open Go.RowKit

abbrev bcs (l : Bs) : List Value := Lib.byteCells l
theorem bcs_app (a b : Bs) : bcs a ++ bcs b = bcs (a ++ b) := by simp [Lib.byteCells]
theorem bcs_len (a : Bs) : (bcs a).length = a.length := by simp [Lib.byteCells]
theorem bcs_get {l : Bs} {i : Nat} (h : i < l.length) : (bcs l)[i]? = some (.int .u8 (l[i].toNat : Int)) := by simp [Lib.byteCells, h]
/-- a text as a value -/
abbrev St (l : Bs) : Value := .string ⟨l.toArray⟩

theorem cell_of_heap {w : World} {b : Nat} {cs : Array Value} {t : TypeId} (h : w.heap[b]? = some (.cells cs t (0, 0))) (o : Nat) : w.cell? ⟨b, o, none⟩ = cs[o]? := by
  simp [World.cell?, h]
theorem frozen_of_heap {w : World} {b : Nat} {cs : Array Value} {t : TypeId} (h : w.heap[b]? = some (.cells cs t (0, 0))) (o : Nat) : w.frozen? ⟨b, o, none⟩ = false := by
  simp [World.frozen?, h]
theorem heap_setCell_same {w : World} {b : Nat} {cs : Array Value} {t : TypeId} (h : w.heap[b]? = some (.cells cs t (0, 0))) (o : Nat) (v : Value) :
    (w.setCell ⟨b, o, none⟩ v).heap[b]? = some (.cells (cs.setIfInBounds o v) t (0, 0)) := by
  simp [World.setCell, Array.getElem?_modify, h]
theorem lt_of_block {w : World} {b : Nat} {o : Obj} (h : w.heap[b]? = some o) : b < w.heap.size := by
  apply Classical.byContradiction
  intro hn
  rw [Array.getElem?_eq_none (by omega)] at h
  cases h

theorem add_plain (g o i : Nat) : (⟨g, o, none⟩ : Addr).add i = ⟨g, o + i, none⟩ := by
  unfold Addr.add
  split
  · rename_i h; subst h; rfl
  · rfl
theorem add_block (a : Addr) (i : Nat) : (a.add i).block = a.block := by
  unfold Addr.add
  split <;> rfl
/-- bytes lie there -/
def Sl (w : World) (v : Value) (l : Bs) : Prop :=
  (v = .slice none 0 0 ∧ l = []) ∨ ∃ a cap, v = .slice (some a) l.length cap ∧ l.length ≤ cap ∧ (l ≠ [] → a = ⟨a.block, a.off, none⟩ ∧ a.block < w.heap.size) ∧ ∀ i (h : i < l.length), w.cell? (a.add i) = some (.int .u8 (l[i].toNat : Int))
theorem Sl.shape {w : World} {v : Value} {l : Bs} (h : Sl w v l) : ∃ ao cap, v = .slice ao l.length cap := by
  rcases h with ⟨h, e⟩ | ⟨a, cap, h, _⟩
  · subst e; exact ⟨none, 0, h⟩
  · exact ⟨_, _, h⟩
theorem Sl.nil (w : World) : Sl w (.slice none 0 0) [] := Or.inl ⟨rfl, rfl⟩
theorem Sl.below {w w' : World} {v : Value} {l : Bs} (h : Sl w v l) (hb : Below w.heap.size w w') : Sl w' v l := by
  rcases h with h | ⟨a, cap, h1, hc, h2, h3⟩
  · exact Or.inl h
  · refine Or.inr ⟨a, cap, h1, hc, fun hn => ⟨(h2 hn).1, Nat.lt_of_lt_of_le (h2 hn).2 hb.size⟩, fun i hi => ?_⟩
    have hl : l ≠ [] := fun e => by subst e; simp at hi
    rw [← h3 i hi]
    exact World.cell?_of_block (hb.block _ (by rw [add_block]; exact (h2 hl).2))
/-- the place of bytes that are not none -/
theorem Sl.at {w : World} {ao : Option Addr} {cap n : Nat} {l : Bs} (h : Sl w (.slice ao n cap) l) (hl : l ≠ []) : ∃ g o, ao = some ⟨g, o, none⟩ ∧ g < w.heap.size ∧ n = l.length ∧ l.length ≤ cap ∧ ∀ i (h : i < l.length), w.cell? ⟨g, o + i, none⟩ = some (.int .u8 (l[i].toNat : Int)) := by
  rcases h with ⟨_, e⟩ | ⟨a, cap, h1, hc, h2, h3⟩
  · exact absurd e hl
  · cases h1
    obtain ⟨ha, hb⟩ := h2 hl
    refine ⟨a.block, a.off, by rw [← ha], hb, rfl, hc, fun i hi => ?_⟩
    have := h3 i hi
    rw [ha, add_plain] at this
    exact this
theorem Sl.own {w : World} {base : Nat} {v : Value} {n : Nat} {l : Bs} (h : w.ownsRow base 5 1 v n (bcs l)) (hn : n = l.length) : Sl w v l := by
  subst hn
  have h' := h
  rcases h.2 with ⟨h1, h2⟩ | ⟨g, cap, cur, h1, h2, h3, h4, _⟩
  · exact Or.inl ⟨h1, List.length_eq_zero_iff.1 h2⟩
  · refine Or.inr ⟨⟨g, 0, none⟩, cap, h1, h4, fun _ => ⟨rfl, lt_of_block h3⟩, fun i hi => h'.cells (g := g) (by rw [h1]; rfl) i _ (bcs_get hi)⟩
/-- a piece of bytes -/
theorem Sl.drop {w : World} {g o n cap : Nat} {l : Bs} (h : Sl w (.slice (some ⟨g, o, none⟩) n cap) l) (k : Nat) (_hk : k ≤ l.length) (c : Nat) (hc : l.length - k ≤ c) : Sl w (.slice (some ⟨g, o + k, none⟩) (n - k) c) (l.drop k) := by
  rcases h with ⟨h, _⟩ | ⟨a, cap', h1, _, h2, h3⟩
  · cases h
  · cases h1
    refine Or.inr ⟨⟨g, o + k, none⟩, c, by simp, by simpa using hc, fun hn => ⟨rfl, (h2 (fun e => by subst e; simp at hn)).2⟩, fun i hi => ?_⟩
    have hi' : k + i < l.length := by simp at hi; omega
    have := h3 (k + i) hi'
    rw [add_plain] at this ⊢
    rw [List.getElem_drop, Nat.add_assoc]
    exact this
theorem Sl.take {w : World} {ao : Option Addr} {n cap : Nat} {l : Bs} (h : Sl w (.slice ao n cap) l) (k : Nat) (hk : k ≤ l.length) (c : Nat) (hc : ao = none → c = 0) (hkc : k ≤ c) : Sl w (.slice ao k c) (l.take k) := by
  rcases h with ⟨h, e⟩ | ⟨a, cap', h1, _, h2, h3⟩
  · cases h
    subst e
    have : k = 0 := by simpa using hk
    subst this
    exact Or.inl ⟨by rw [hc rfl], rfl⟩
  · cases h1
    refine Or.inr ⟨a, c, by simp [Nat.min_eq_left hk], by simp [Nat.min_eq_left hk]; exact hkc, fun hn => h2 (fun e => by subst e; simp at hn), fun i hi => ?_⟩
    have hi' : i < l.length := by simp at hi; omega
    have := h3 i hi'
    simpa using this

theorem Tryz.info5 : (Tryz.prog.info? 5).map (fun i => (i.zero, i.size, i.bytes)) = some (some (.int .u8 0), 1, 1) := by kernel_rfl
theorem info_get {t : TypeId} {z : Value} {s b : Nat} (h : (Tryz.prog.info? t).map (fun i => (i.zero, i.size, i.bytes)) = some (some z, s, b)) : ∃ i, Tryz.prog.info? t = some i ∧ i.zero = some z ∧ i.size = s ∧ i.bytes = b := by
  cases hi : Tryz.prog.info? t with
  | none => rw [hi] at h; cases h
  | some i =>
    rw [hi] at h
    simp only [Option.map_some, Option.some.injEq, Prod.mk.injEq] at h
    exact ⟨i, rfl, h.1, h.2.1, h.2.2⟩
/-- append, its run known -/
theorem wpList_append_run {P : Program} {w : World} {ops : Array Oper} {rest : List Oper} {o : Oper} {a : Act} {Q : Exit → Act → World → Prop} (hgd : o.guard = none) (s x : Operand) (t : TypeId)
    (ho : o.op = .call { callee := .builtin .append, args := #[s, x], argTypes := #[t, t] }) (v xv v' : Value) (w' : World) (hs : a.eval s = v) (hx : a.eval x = xv)
    (hrun : ∀ ty, (Builtin.append_ #[t, t] ty #[v, xv]).run P w = .ok v' w') (h : wpList P ops Q rest (a.put o.dst v') w') : wpList P ops Q (o :: rest) a w := by
  refine wpList_plain hgd fun K hK => ?_
  unfold Oper.wp
  simp [execOp, ho, resolve, invoke, builtin, hs, hx, hrun, Result.andThen]
  exact hK _ _ h
/-- append of bytes onto a row of one's own -/
theorem append_bytes {w : World} {base : Nat} {v u : Value} {xs l : Bs} (hown : w.ownsRow base 5 1 v xs.length (bcs xs)) (hs : Sl w u l) (hb : xs.length + l.length ≤ 140737488355328) (hbase : base ≤ w.heap.size) :
    ∃ ao cap w', (∀ ty, (Builtin.append_ #[33, 33] ty #[v, u]).run Tryz.prog w = .ok (.slice ao (xs ++ l).length cap) w') ∧ w'.ownsRow base 5 1 (.slice ao (xs ++ l).length cap) (xs ++ l).length (bcs (xs ++ l)) ∧ w.grownBy w' v.ownBlock := by
  obtain ⟨i0, hi, hz0, hz1, hz2⟩ := info_get Tryz.info5
  rcases hs with ⟨rfl, rfl⟩ | ⟨a, cap, rfl, _, h2, h3⟩
  · have hv : ∃ ao cap, v = .slice ao xs.length cap := by
      rcases hown.2 with ⟨h1, h2⟩ | ⟨g, cap, _, h1, _⟩
      · rw [h2]; exact ⟨_, _, h1⟩
      · exact ⟨_, _, h1⟩
    obtain ⟨ao, cap, rfl⟩ := hv
    rw [List.append_nil]
    exact ⟨ao, cap, w, fun ty => run_append_owned_none w base 33 ty 5 i0 1 Tryz.underlying33 hi _ _ _ hown, hown, ⟨rfl, rfl, rfl, Nat.le_refl _, fun _ _ _ => rfl⟩⟩
  · obtain ⟨v', w', h4, h5, h6, _⟩ := run_append_own (P := Tryz.prog) w base 33 33 5 i0 _ 1 1 Tryz.underlying33 hi hz0 hz1 hz2 rfl (by decide) v xs.length (bcs xs) hown a l.length cap (bcs l) (by rw [bcs_len]; omega)
      (fun j u hj => by
        have hjl : j < l.length := by
          apply Classical.byContradiction
          intro hn
          rw [List.getElem?_eq_none (by rw [bcs_len]; omega)] at hj
          cases hj
        rw [bcs_get hjl] at hj
        cases hj
        exact h3 j hjl)
      (fun u hu => by simp [Lib.byteCells] at hu; obtain ⟨_, _, rfl⟩ := hu; rfl) (by unfold maxLen; omega) (by omega) hbase
    rw [bcs_app, ← List.length_append] at h5
    have hv : ∃ ao cap, v' = .slice ao (xs ++ l).length cap := by
      rcases h5.2 with ⟨h1, h2⟩ | ⟨g, cap, _, h1, _⟩
      · rw [h2]; exact ⟨_, _, h1⟩
      · exact ⟨_, _, h1⟩
    obtain ⟨ao, cap', rfl⟩ := hv
    exact ⟨ao, cap', w', fun ty => h4, h5, h6⟩
end Go.Proofs.YtdhmmllpioppfaaGreat.V
