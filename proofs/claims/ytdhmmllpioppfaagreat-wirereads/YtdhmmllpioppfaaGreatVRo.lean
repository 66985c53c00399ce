/- Records of one's own. -/
import Derived.Test.YtdhmmllpioppfaaGreatVNext
namespace Go.Proofs.YtdhmmllpioppfaaGreat.V
open Go.RowKit

/-- the cells of records whose bodies are bs -/
def rcells : List Rec → List Value → List Value
  | r :: L, b :: bs => .int .u64 (r.1 : Int) :: b :: rcells L bs
  | _, _ => []
theorem rcells_len : ∀ (L : List Rec) (bs : List Value), bs.length = L.length → (rcells L bs).length = L.length * 2
  | [], [], _ => rfl
  | [], _ :: _, h => by simp at h
  | _ :: _, [], h => by simp at h
  | r :: L, b :: bs, h => by
    have := rcells_len L bs (by simpa using h)
    simp only [rcells, List.length_cons, this]
    omega
theorem rcells_app : ∀ (L : List Rec) (bs : List Value) (r : Rec) (b : Value), bs.length = L.length → rcells (L ++ [r]) (bs ++ [b]) = rcells L bs ++ [.int .u64 (r.1 : Int), b]
  | [], [], _, _, _ => rfl
  | [], _ :: _, _, _, h => by simp at h
  | _ :: _, [], _, _, h => by simp at h
  | r :: L, b :: bs, q, c, h => by
    have := rcells_app L bs q c (by simpa using h)
    simp only [List.cons_append, rcells, this]
theorem rcells_get : ∀ (L : List Rec) (bs : List Value) (i : Nat) (h : bs.length = L.length) (hi : i < L.length), (rcells L bs)[i * 2]? = some (.int .u64 (L[i].1 : Int)) ∧ (rcells L bs)[i * 2 + 1]? = some (bs[i]'(by omega))
  | [], _, _, _, hi => by simp at hi
  | _ :: _, [], _, h, _ => by simp at h
  | r :: L, b :: bs, 0, _, _ => by simp [rcells]
  | r :: L, b :: bs, i + 1, h, hi => by
    have := rcells_get L bs i (by simpa using h) (by simpa using hi)
    have e : (i + 1) * 2 = i * 2 + 1 + 1 := by omega
    rw [e]
    simpa [rcells] using this
/-- records of one's own: the row, and each body -/
structure Ro (B : Nat) (w : World) (v : Value) (L : List Rec) : Prop where
  row : ∃ bs, bs.length = L.length ∧ w.ownsRow B 43 2 v L.length (rcells L bs) ∧ ∀ i (h : i < L.length) (h' : i < bs.length), w.ownsRow B 5 1 bs[i] L[i].2.length (bcs L[i].2)
theorem Ro.nil (B : Nat) (w : World) : Ro B w (.slice none 0 0) [] := ⟨[], rfl, World.ownsRow_nil _ _ _ _, fun i h => by simp at h⟩
theorem Ro.shape {B : Nat} {w : World} {v : Value} {L : List Rec} (h : Ro B w v L) : ∃ ao cap, v = .slice ao L.length cap := by
  obtain ⟨bs, _, h2, _⟩ := h.row
  rcases h2.2 with ⟨h3, h4⟩ | ⟨g, cap, _, h3, _⟩
  · rw [h4]; exact ⟨_, _, h3⟩
  · exact ⟨_, _, h3⟩
theorem Ro.below {B : Nat} {w w' : World} {v : Value} {L : List Rec} (h : Ro B w v L) (hb : Below w.heap.size w w') : Ro B w' v L := by
  obtain ⟨bs, h1, h2, h3⟩ := h.row
  exact ⟨bs, h1, ownsRow_same h2 (fun g e => hb.block g (h2.lt g e).2), fun i hi hi' => ownsRow_same (h3 i hi hi') (fun g e => hb.block g ((h3 i hi hi').lt g e).2)⟩
theorem Ro.rcs {B : Nat} {w : World} {v : Value} {L : List Rec} (h : Ro B w v L) : Rcs w v L := by
  obtain ⟨bs, h1, h2, h3⟩ := h.row
  have h2' := h2
  rcases h2.2 with ⟨h4, h5⟩ | ⟨g, cap, cur, h4, h5, h6, h7, _⟩
  · exact Or.inl ⟨h4, List.length_eq_zero_iff.1 h5⟩
  · refine Or.inr ⟨⟨g, 0, none⟩, cap, h4, h7, fun _ => ⟨rfl, lt_of_block h6⟩, fun i hi => ?_⟩
    have hg := rcells_get L bs i h1 hi
    exact ⟨bs[i], h2'.cells (g := g) (by rw [h4]; rfl) _ _ hg.1, h2'.cells (g := g) (by rw [h4]; rfl) _ _ hg.2, Sl.own (h3 i hi (by omega)) rfl⟩
theorem Tryz.info43 : (Tryz.prog.info? 43).map (fun i => (i.zero, i.size, i.bytes)) = some (some (.agg #[.int .u64 0, .slice none 0 0]), 2, 32) := by kernel_rfl
theorem ne_of_type {w : World} {B C : Nat} {e1 e2 : TypeId} {s1 s2 : Nat} {v u : Value} {n m : Nat} {xs ys : List Value} (h : w.ownsRow B e1 s1 v n xs) (k : w.ownsRow C e2 s2 u m ys) (he : e1 ≠ e2) {g : Nat} (hg : v.ownBlock = some g) : some g ≠ u.ownBlock := by
  intro e
  rcases h.2 with ⟨h3, _⟩ | ⟨g1, _, cur1, h3, _, h5, _⟩
  · rw [h3] at hg; cases hg
  · rcases k.2 with ⟨k3, _⟩ | ⟨g2, _, cur2, k3, _, k5, _⟩
    · rw [k3] at e; cases e
    · rw [h3] at hg
      rw [k3] at e
      cases hg
      cases e
      rw [h5] at k5
      cases k5
      exact he rfl
/-- one record more -/
theorem append_rec {w : World} {B : Nat} {v bv : Value} {L : List Rec} {t : Nat} {body : Bs} (h : Ro B w v L) (hbv : w.ownsRow B 5 1 bv body.length (bcs body)) (hone : bv.oneCell' = true) (hl : L.length ≤ 1000000) (hB : B ≤ w.heap.size) :
    ∃ ao cap w', (∀ ty, (Builtin.append_ #[25, 25] ty #[v, .slice (some ⟨w.heap.size, 0, none⟩) 1 1]).run Tryz.prog (w.alloc (.cells #[.int .u64 (t : Int), bv] 43)) = .ok (.slice ao (L.length + 1) cap) w') ∧ Ro B w' (.slice ao (L.length + 1) cap) (L ++ [(t, body)]) ∧ Below B w w' := by
  obtain ⟨bs, h1, h2, h3⟩ := h.row
  obtain ⟨i0, hi, hz0, hz1, hz2⟩ := info_get Tryz.info43
  obtain ⟨v', w', h4, h5, h6, _⟩ := run_append_own (P := Tryz.prog) (w.alloc (.cells #[.int .u64 (t : Int), bv] 43)) B 25 25 43 i0 _ 2 32 Tryz.underlying25 hi hz0 hz1 hz2 rfl (by decide) v L.length (rcells L bs) (h2.alloc _) ⟨w.heap.size, 0, none⟩ 1 1 [.int .u64 (t : Int), bv] rfl
    (fun j u hj => by
      have hb := heap_alloc_new w (.cells #[.int .u64 (t : Int), bv] 43)
      rw [add_plain, Nat.zero_add, cell_of_heap hb]
      simpa using hj)
    (fun u hu => by
      simp only [List.mem_cons, List.not_mem_nil, or_false] at hu
      rcases hu with rfl | rfl
      · rfl
      · exact hone)
    (by unfold maxLen; omega) (by omega) (by simp; omega)
  have hv : ∃ ao cap, v' = .slice ao (L.length + 1) cap := by
    rcases h5.2 with ⟨_, e⟩ | ⟨g, cap, _, e, _⟩
    · omega
    · exact ⟨_, _, e⟩
  obtain ⟨ao, cap, rfl⟩ := hv
  have hal := (Below.refl w.heap.size w).alloc (Nat.le_refl _) (.cells #[.int .u64 (t : Int), bv] 43)
  have keep : ∀ {u : Value} {n : Nat} {xs : List Value}, w.ownsRow B 5 1 u n xs → w'.ownsRow B 5 1 u n xs := fun {u n xs} hu =>
    ownsRow_same hu (fun g e => by
      rw [h6.block g (by simp; have := (hu.lt g e).2; omega) (ne_of_type hu h2 (by decide) e)]
      exact hal.block g (hu.lt g e).2)
  refine ⟨ao, cap, w', fun ty => h4, ⟨bs ++ [bv], by simp [h1], ?_, fun i hi hi' => ?_⟩, ?_⟩
  · rw [rcells_app L bs (t, body) bv h1]
    simpa using h5
  · by_cases e : i < L.length
    · have := keep (h3 i e (by omega))
      rw [List.getElem_append_left (by omega), List.getElem_append_left e]
      exact this
    · have hiL : i = L.length := by simp at hi; omega
      subst hiL
      have := keep hbv
      rw [List.getElem_append_right (by omega), List.getElem_append_right (Nat.le_refl _)]
      simpa [h1] using this
  · refine ⟨h6.os, h6.tape, h6.output, by have := h6.size; simp at this; omega, fun k hk => ?_⟩
    rw [h6.block k (by simp; omega) (fun e => by have := (h2.lt k e.symm).1; omega)]
    exact hal.block k (by omega)
/-- fuel enough is enough -/
theorem recs_fuel : ∀ (f g : Nat) (a : List Rec) (b : Bs), b.length ≤ f → b.length ≤ g → recsGo f a b = recsGo g a b := by
  intro f
  induction f with
  | zero =>
    intro g a b hf hg
    have : b = [] := List.length_eq_zero_iff.1 (by omega)
    subst this
    cases g <;> simp [recsGo]
  | succ f ih =>
    intro g a b hf hg
    cases g with
    | zero =>
      have : b = [] := List.length_eq_zero_iff.1 (by omega)
      subst this
      simp [recsGo]
    | succ g =>
      rw [recsGo, recsGo]
      split
      · rfl
      · split
        · rfl
        · rename_i hb he
          have he' : (nextB a b).2.2 = 0 := Decidable.byContradiction he
          generalize hn : nextB a b = n at *
          obtain ⟨r, x, e⟩ := n
          simp only at he' ⊢
          subst he'
          obtain ⟨h1, _⟩ := next_ok hn
          have hlen := congrArg List.length h1
          have hp : 1 ≤ (recB r).length := by unfold recB; simp only [List.length_append, put_len]; have := sizeN_pos (formN r.1); omega
          simp only [List.length_append] at hlen
          exact ih g _ _ (by omega) (by omega)
/-- one step of reading -/
theorem recs_step {a : List Rec} {b : Bs} (hb : b ≠ []) : recsGo b.length a b = if (nextB a b).2.2 ≠ 0 then ([], (nextB a b).2.2) else recsGo (nextB a b).2.1.length (a ++ [(nextB a b).1]) (nextB a b).2.1 := by
  obtain ⟨f, hf⟩ : ∃ f, b.length = f + 1 := ⟨b.length - 1, by have := List.length_pos_iff.2 hb; omega⟩
  rw [hf, recsGo, if_neg hb]
  split
  · rfl
  · rename_i he
    have he' : (nextB a b).2.2 = 0 := Decidable.byContradiction he
    generalize hn : nextB a b = n at *
    obtain ⟨r, x, e⟩ := n
    simp only at he' ⊢
    subst he'
    obtain ⟨h1, _⟩ := next_ok hn
    have hlen := congrArg List.length h1
    have hp : 1 ≤ (recB r).length := by unfold recB; simp only [List.length_append, put_len]; have := sizeN_pos (formN r.1); omega
    simp only [List.length_append] at hlen
    exact recs_fuel _ _ _ _ (by omega) (Nat.le_refl _)
theorem next_short {a : List Rec} {b x : Bs} {r : Rec} (h : nextB a b = (r, x, 0)) : x.length < b.length ∧ a.length < 64 := by
  obtain ⟨h1, _, _, h4⟩ := next_ok h
  have hlen := congrArg List.length h1
  have hp : 1 ≤ (recB r).length := by unfold recB; simp only [List.length_append, put_len]; have := sizeN_pos (formN r.1); omega
  simp only [List.length_append] at hlen
  exact ⟨by omega, h4⟩
end Go.Proofs.YtdhmmllpioppfaaGreat.V
