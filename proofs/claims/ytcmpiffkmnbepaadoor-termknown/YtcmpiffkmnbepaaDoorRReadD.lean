/- What the document's reading of parts needs: where they are kept while it reads. -/
import Derived.Test.YtcmpiffkmnbepaaDoorRReadC
namespace Go.Proofs.YtcmpiffkmnbepaaDoor
open Go.RowKit

namespace Tm
theorem body_none0 {n : Nat} {c : UInt8} {l : Bs} (h : headB c l = none) : bodyB n c l = none := by unfold bodyB; rw [h]
theorem body_none1 {n : Nat} {c : UInt8} {l r : Bs} {k : Nat} (h : headB c l = some (k, r)) (h2 : manyA (rd n) k 1 r = none) : bodyB n c l = none := by unfold bodyB; rw [h]; simp only; rw [h2]
theorem body_fit {n : Nat} {c : UInt8} {l r r' : Bs} {k d : Nat} (h : headB c l = some (k, r)) (h2 : manyA (rd n) k 1 r = some (d, r')) : bodyB n c l = if fitB c (kidsN (rd n) k r) then some (d, r') else none := by unfold bodyB; rw [h]; simp only; rw [h2]

theorem many_two_some {f : Bs → Option (Nat × Bs)} {l r' : Bs} {d : Nat} (h : manyA f 2 1 l = some (d, r')) : ∃ d' r r'', twoA f l = some (d', r, r'') := by
  rw [many_two] at h
  unfold two2 at h
  cases h2 : twoA f l with
  | none => rw [h2] at h; cases h
  | some x => exact ⟨x.1, x.2.1, x.2.2, rfl⟩

theorem parts_cases {c : UInt8} {k : Nat} (h : partsN c = some k) : (k = 1 ∧ (c = 80 ∨ c = 72)) ∨ (k = 2 ∧ c ≠ 80 ∧ c ≠ 72) := by
  unfold partsN at h
  split at h
  · rename_i h1; left; exact ⟨(Option.some.inj h).symm, h1⟩
  · rename_i h1
    split at h
    · right; exact ⟨(Option.some.inj h).symm, fun e => h1 (Or.inl e), fun e => h1 (Or.inr e)⟩
    · cases h

theorem body_kids {n : Nat} {c : UInt8} {l r r' : Bs} {k d : Nat} (h1 : c ≠ 110) (h2 : c ≠ 116) (h : headB c l = some (k, r)) (hm : manyA (rd n) k 1 r = some (d, r')) : kidsOf n (c :: l) = kidsN (rd n) k r := by
  unfold headB at h
  rw [kidsOf]
  by_cases c84 : c = 84
  · rw [if_pos c84] at h ⊢
    unfold tupleK
    cases hn : num 58 l with
    | none => rw [hn] at h; cases h
    | some x =>
      obtain ⟨k', r1⟩ := x
      rw [hn] at h
      simp only at h ⊢
      split at h
      · obtain ⟨rfl, rfl⟩ := Prod.mk.inj (Option.some.inj h); rfl
      · cases h
  · rw [if_neg c84] at h ⊢
    cases hp : partsN c with
    | none => rw [hp] at h; cases h
    | some k' =>
      rw [hp] at h
      obtain ⟨rfl, rfl⟩ := Prod.mk.inj (Option.some.inj h)
      rcases parts_cases hp with ⟨rfl, hc⟩ | ⟨rfl, hc1, hc2⟩
      · rw [if_pos hc, kidsN_one]
      · rw [if_neg (fun e => e.elim hc1 hc2), if_neg (fun e => e.elim h1 h2)]
        obtain ⟨d', q, q', ht⟩ := many_two_some hm
        rw [kidsN_two ht]
        unfold kids2
        rw [ht]

theorem head_len1 {c : UInt8} {l r : Bs} {k : Nat} (h : headB c l = some (k, r)) (hc : c = 80) : k = 1 := by
  subst hc
  exact (Prod.mk.inj (Option.some.inj h)).1.symm
theorem head_len2 {c : UInt8} {l r : Bs} {k : Nat} (h : headB c l = some (k, r)) (hc : c = 88 ∨ c = 87 ∨ c = 76) : k = 2 := by
  rcases hc with rfl | rfl | rfl <;> exact (Prod.mk.inj (Option.some.inj h)).1.symm
end Tm

theorem own_set {w : World} {base : Nat} {v : Value} {n : Nat} {xs : List Value} {ob : Nat} {cs : Array Value} (h : w.ownsRow base 3 1 v n xs) (hb : w.heap[ob]? = some (.cells cs 59 (0, 0))) (o : Nat) (u : Value) : (w.setCell ⟨ob, o, none⟩ u).ownsRow base 3 1 v n xs := by
  obtain ⟨h1, h2⟩ := h
  refine ⟨h1, ?_⟩
  rcases h2 with h2 | ⟨g, cap, cur, e1, e2, e3, e4⟩
  · exact Or.inl h2
  · refine Or.inr ⟨g, cap, cur, e1, e2, ?_, e4⟩
    have hgs : g < w.heap.size := by
      apply Classical.byContradiction
      intro hn
      rw [Array.getElem?_eq_none (by omega)] at e3
      cases e3
    have hne : g ≠ ob := by
      intro e
      subst e
      rw [e3] at hb
      simp at hb
    rw [((Frx.refl w.heap.size ob w).setCell o u).block g hgs hne]
    exact e3

abbrev cutC (E d : Nat) (kv : Value) : Array Value := #[.int .i64 (E : Int), .int .i64 (d : Int), .int .u64 0, .int .i64 0, kv]

/-- where the parts are kept while the document reads -/
structure OB (w : World) (ob E d : Nat) (g kc : Nat) (ps : List Nat) (wr : World) : Prop where
  bel : Below w.heap.size w wr
  res : wr.heap[w.heap.size]? = some (.cells cutZ 59 (0, 0))
  lt : w.heap.size < ob ∧ ob < wr.heap.size
  out : wr.heap[ob]? = some (.cells (cutC E d (.slice (some ⟨g, 0, none⟩) ps.length kc)) 59 (0, 0))
  own : wr.ownsRow (w.heap.size + 1) 3 1 (.slice (some ⟨g, 0, none⟩) ps.length kc) ps.length (ints ps)

theorem OB.below {w : World} {ob E d g kc : Nat} {ps : List Nat} {wr w2 : World} (h : OB w ob E d g kc ps wr) (hb : Below wr.heap.size wr w2) : OB w ob E d g kc ps w2 :=
  ⟨h.bel.trans (hb.mono h.bel.size), (hb.block _ (by have := h.lt; omega)).trans h.res, ⟨h.lt.1, Nat.lt_of_lt_of_le h.lt.2 hb.size⟩, (hb.block _ h.lt.2).trans h.out, ownsRow_of_heap h.own (fun k hk => hb.block k hk)⟩

theorem OB.alloc {w : World} {ob E d g kc : Nat} {ps : List Nat} {wr : World} (h : OB w ob E d g kc ps wr) (o : Obj) : OB w ob E d g kc ps (wr.alloc o) := h.below (below_alloc_self' _ _)

theorem OB.setD {w : World} {ob E d g kc : Nat} {ps : List Nat} {wr : World} (h : OB w ob E d g kc ps wr) (d' : Nat) (v : Value) (hv : v = .int .i64 (d' : Int)) : OB w ob E d' g kc ps (wr.setCell ⟨ob, 1, none⟩ v) := by
  subst hv
  refine ⟨h.bel.setCell (by have := h.lt; show w.heap.size ≤ ob; omega) _, ?_, ⟨h.lt.1, Nat.lt_of_lt_of_le h.lt.2 ((Frx.refl 0 ob _).setCell _ _).size⟩, ?_, own_set h.own h.out _ _⟩
  · rw [((Frx.refl wr.heap.size ob wr).setCell _ _).block _ (by have := h.lt; omega) (by have := h.lt; omega)]; exact h.res
  · rw [heap_setCell_same h.out]; rfl

theorem OB.setE {w : World} {ob E d g kc : Nat} {ps : List Nat} {wr : World} (h : OB w ob E d g kc ps wr) (E' : Nat) (v : Value) (hv : v = .int .i64 (E' : Int)) : OB w ob E' d g kc ps (wr.setCell ⟨ob, 0, none⟩ v) := by
  subst hv
  refine ⟨h.bel.setCell (by have := h.lt; show w.heap.size ≤ ob; omega) _, ?_, ⟨h.lt.1, Nat.lt_of_lt_of_le h.lt.2 ((Frx.refl 0 ob _).setCell _ _).size⟩, ?_, own_set h.own h.out _ _⟩
  · rw [((Frx.refl wr.heap.size ob wr).setCell _ _).block _ (by have := h.lt; omega) (by have := h.lt; omega)]; exact h.res
  · rw [heap_setCell_same h.out]; rfl

theorem OB.cells {w : World} {ob E d g kc : Nat} {ps : List Nat} {wr : World} (h : OB w ob E d g kc ps wr) :
    wr.cell? ⟨ob, 0, none⟩ = some (.int .i64 (E : Int)) ∧ wr.cell? ⟨ob, 1, none⟩ = some (.int .i64 (d : Int)) ∧ wr.cell? ⟨ob, 2, none⟩ = some (.int .u64 0) ∧ wr.cell? ⟨ob, 3, none⟩ = some (.int .i64 0) ∧ wr.cell? ⟨ob, 4, none⟩ = some (.slice (some ⟨g, 0, none⟩) ps.length kc) ∧ (∀ o, wr.frozen? ⟨ob, o, none⟩ = false) :=
  ⟨by rw [cell_of_heap h.out]; rfl, by rw [cell_of_heap h.out]; rfl, by rw [cell_of_heap h.out]; rfl, by rw [cell_of_heap h.out]; rfl, by rw [cell_of_heap h.out]; rfl, fun o => frozen_of_heap h.out o⟩

/-- behind an append, before the store -/
structure OG (w : World) (ob E d : Nat) (kv v3 : Value) (ps : List Nat) (w3 : World) : Prop where
  bel : Below w.heap.size w w3
  res : w3.heap[w.heap.size]? = some (.cells cutZ 59 (0, 0))
  lt : w.heap.size < ob ∧ ob < w3.heap.size
  out : w3.heap[ob]? = some (.cells (cutC E d kv) 59 (0, 0))
  own : w3.ownsRow (w.heap.size + 1) 3 1 v3 ps.length (ints ps)

theorem OB.grown {w : World} {ob E d g kc : Nat} {ps : List Nat} {wr w3 : World} {v3 : Value} {j : Nat} (h : OB w ob E d g kc ps wr) (ho : w3.ownsRow (w.heap.size + 1) 3 1 v3 (ps.length + 1) (ints ps ++ [.int .i64 (j : Int)])) (hg : wr.grownBy w3 (some g)) :
    OG w ob E d (.slice (some ⟨g, 0, none⟩) ps.length kc) v3 (ps ++ [j]) w3 := by
  obtain ⟨hb1, hb2⟩ : w.heap.size + 1 ≤ g ∧ g ≠ ob := by
    rcases h.own.2 with ⟨h1, _⟩ | ⟨g', cap, cur, e1, e2, e3, e4⟩
    · cases h1
    · have e : g = g' := by simp at e1; exact e1.1
      subst e
      refine ⟨e2, fun e => ?_⟩
      subst e
      rw [h.out] at e3
      simp at e3
  have hl := h.lt
  refine ⟨⟨hg.os.trans h.bel.os, hg.tape.trans h.bel.tape, hg.output.trans h.bel.output, Nat.le_trans h.bel.size hg.size, fun k hk => ?_⟩, ?_, ⟨hl.1, Nat.lt_of_lt_of_le hl.2 hg.size⟩, ?_, ?_⟩
  · rw [hg.block k (by have := h.bel.size; omega) (by intro e; have := Option.some.inj e; omega)]; exact h.bel.block k hk
  · rw [hg.block _ (by omega) (by intro e; have := Option.some.inj e; omega)]; exact h.res
  · rw [hg.block _ hl.2 (by intro e; exact hb2 (Option.some.inj e).symm)]; exact h.out
  · simpa [ints] using ho

theorem OG.cells {w : World} {ob E d : Nat} {kv v3 : Value} {ps : List Nat} {w3 : World} (h : OG w ob E d kv v3 ps w3) : w3.cell? ⟨ob, 4, none⟩ = some kv ∧ (∀ o, w3.frozen? ⟨ob, o, none⟩ = false) :=
  ⟨by rw [cell_of_heap h.out]; rfl, fun o => frozen_of_heap h.out o⟩

theorem OG.form {w : World} {ob E d : Nat} {kv v3 : Value} {ps : List Nat} {w3 : World} (h : OG w ob E d kv v3 ps w3) (hp : ps ≠ []) : ∃ g kc, v3 = .slice (some ⟨g, 0, none⟩) ps.length kc := by
  obtain ⟨g, kc, e, _⟩ := own_ints h.own hp
  exact ⟨g, kc, e⟩

theorem OG.store {w : World} {ob E d : Nat} {kv : Value} {g kc : Nat} {ps : List Nat} {w3 : World} (h : OG w ob E d kv (.slice (some ⟨g, 0, none⟩) ps.length kc) ps w3) : OB w ob E d g kc ps (w3.setCell ⟨ob, 4, none⟩ (.slice (some ⟨g, 0, none⟩) ps.length kc)) := by
  have hl := h.lt
  refine ⟨h.bel.setCell (by show w.heap.size ≤ ob; omega) _, ?_, ⟨h.lt.1, Nat.lt_of_lt_of_le h.lt.2 ((Frx.refl 0 ob _).setCell _ _).size⟩, ?_, own_set h.own h.out _ _⟩
  · rw [((Frx.refl w3.heap.size ob w3).setCell _ _).block _ (by omega) (by omega)]; exact h.res
  · rw [heap_setCell_same h.out]; rfl

/-- the result's block, and what lies below, wherever the reading gives up -/
theorem resb {w W wn : World} (h1 : Below w.heap.size w W) (h2 : W.heap[w.heap.size]? = some (.cells cutZ 59 (0, 0))) (hb : Below W.heap.size W wn) : Below w.heap.size w wn ∧ wn.heap[w.heap.size]? = some (.cells cutZ 59 (0, 0)) := by
  have hlt : w.heap.size < W.heap.size := by
    apply Classical.byContradiction
    intro hn
    rw [Array.getElem?_eq_none (by omega)] at h2
    cases h2
  exact ⟨h1.trans (hb.mono h1.size), (hb.block _ hlt).trans h2⟩

/-- one more part -/
theorem cuts_more {s : ByteArray} {ps : List Nat} {kk : List Bs} {j j' : Nat} (h : Cuts s ps kk) (hj : ps.getD kk.length 0 = j) (h1 : j < j') (h2 : j' ≤ s.size) (p : Bs) (hp : p = (rest s j).take (j' - j)) :
    Cuts s (ps ++ [j']) (kk ++ [p]) := by
  obtain ⟨l1, l2, l3⟩ := h
  have g1 : ∀ i, i < ps.length → (ps ++ [j']).getD i 0 = ps.getD i 0 := by
    intro i hi; simp [List.getD, List.getElem?_append_left hi]
  have g2 : (ps ++ [j']).getD ps.length 0 = j' := by simp [List.getD]
  refine ⟨by simp [l1], fun i hi => ?_, fun i hi => ?_⟩
  · by_cases h3 : i < kk.length
    · obtain ⟨q1, q2⟩ := l2 i h3
      rw [g1 i (by omega), g1 (i + 1) (by omega)]
      refine ⟨q1, ?_⟩
      rw [← q2]; simp [List.getD, List.getElem?_append_left h3]
    · have h4 : i = kk.length := by simp at hi; omega
      subst h4
      rw [g1 _ (by omega), hj, ← l1, g2]
      refine ⟨h1, ?_⟩
      rw [← hp]; simp [List.getD]
  · by_cases h3 : i < ps.length
    · rw [g1 i h3]; exact l3 i h3
    · have h4 : i = ps.length := by simp at hi; omega
      subst h4
      rw [g2]; exact h2
end Go.Proofs.YtcmpiffkmnbepaaDoor
