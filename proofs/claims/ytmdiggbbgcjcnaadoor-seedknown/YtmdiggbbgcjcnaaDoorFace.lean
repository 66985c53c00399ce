/- What the makers do: digests, children, joined and bound secrets, signatures, boxes. -/
import Derived.Test.YtmdiggbbgcjcnaaDoorBuild
namespace Go.Proofs.YtmdiggbbgcjcnaaDoor
open Go.RowKit

theorem texts_two (w : World) (a b : Bs) : Texts (w.alloc (.cells #[St a, St b] 22)) (.slice (some ⟨w.heap.size, 0, none⟩) 2 2) [a, b] :=
  ⟨_, _, rfl, fun _ => ⟨w.heap.size, 0, rfl, by simp, fun i h => by
    have hg : (w.alloc (.cells #[St a, St b] 22)).heap[w.heap.size]? = some (.cells #[St a, St b] 22 (0, 0)) := heap_alloc_new w _
    rw [cell_of_heap hg]
    match i, h with
    | 0, _ => rfl
    | 1, _ => rfl⟩⟩
theorem texts_one (w : World) (a : Bs) : Texts (w.alloc (.cells #[St a] 22)) (.slice (some ⟨w.heap.size, 0, none⟩) 1 1) [a] :=
  ⟨_, _, rfl, fun _ => ⟨w.heap.size, 0, rfl, by simp, fun i h => by
    have hg : (w.alloc (.cells #[St a] 22)).heap[w.heap.size]? = some (.cells #[St a] 22 (0, 0)) := heap_alloc_new w _
    rw [cell_of_heap hg]
    match i, h with
    | 0, _ => rfl⟩⟩
theorem texts_nil (w : World) : Texts w (.slice none 0 0) [] := ⟨none, 0, rfl, fun h => absurd rfl h⟩

/-- what a maker answers -/
abbrev made (r : Bs × Nat) : Ending := .returned (.tuple #[St r.1, .int .i64 (r.2 : Int)])

set_option maxHeartbeats 400000 in
theorem child_any (a b : Bs) (w : World) : Calls Tryd.prog 41 #[St a, St b] w fun en w' => en = made (bRes 68 [] [a, b]) ∧ Below w.heap.size w w' := by
  go_enter Tryd.func41, Tryd.ntmps41
  go_wp2_with fail
  refine (build_any 68 [] [a, b] _ _ (texts_two w a b) (by simp) (by simp)).mono ?_
  rintro e w1 ⟨rfl, hb⟩
  have HB := hid (((Below.refl _ w).alloc (Nat.le_refl _) (.cells #[St a, St b] 22)).trans (hb.mono (by simp)))
  clear hb
  go_wp2_with fail
  go_ret2
  exact ⟨rfl, HB.out⟩

theorem st_app (a b : Bs) : (⟨a.toArray⟩ : ByteArray) ++ ⟨b.toArray⟩ = ⟨(a ++ b).toArray⟩ := by
  apply ByteArray.ext; simp

theorem ownsRow_of_heap {w w2 : World} {base : Nat} {e : TypeId} {size : Nat} {v : Value} {n : Nat} {xs : List Value} (h : w.ownsRow base e size v n xs) (hh : ∀ k, k < w.heap.size → w2.heap[k]? = w.heap[k]?) : w2.ownsRow base e size v n xs := by
  obtain ⟨h1, h2⟩ := h
  refine ⟨h1, ?_⟩
  rcases h2 with h2 | ⟨g, cap, cur, e1, e2, e3, e4⟩
  · exact Or.inl h2
  · refine Or.inr ⟨g, cap, cur, e1, e2, ?_, e4⟩
    have hg : g < w.heap.size := by
      apply Classical.byContradiction
      intro hn
      rw [Array.getElem?_eq_none (by omega)] at e3
      cases e3
    rw [hh g hg]; exact e3
theorem ownsRow_frx {b : Nat} {w w1 : World} {e : TypeId} {size : Nat} {v : Value} {n : Nat} {xs : List Value} (h : w.ownsRow (b + 1) e size v n xs) (hf : Frx w.heap.size b w w1) : w1.ownsRow (b + 1) e size v n xs := by
  obtain ⟨h1, h2⟩ := h
  refine ⟨h1, ?_⟩
  rcases h2 with h2 | ⟨g, cap, cur, e1, e2, e3, e4⟩
  · exact Or.inl h2
  · refine Or.inr ⟨g, cap, cur, e1, e2, ?_, e4⟩
    have hg : g < w.heap.size := by
      apply Classical.byContradiction
      intro hn
      rw [Array.getElem?_eq_none (by omega)] at e3
      cases e3
    rw [hf.block g hg (by omega)]
    exact e3
theorem rest_split {s : ByteArray} {a : Nat} {p x : Bs} (ha : a ≤ s.size) (h : rest s a = p ++ x) : s.size - x.length = a + p.length ∧ a + p.length ≤ s.size ∧ rest s (a + p.length) = x ∧ p = (rest s a).take p.length := by
  obtain ⟨h1, h2, h3⟩ := rest_of ha h
  refine ⟨h2, by omega, by rw [← h2]; exact h1, by rw [h]; simp⟩
theorem new_cell (WW : World) (k : Nat) (hk : k = WW.heap.size) (v : Value) (t : TypeId) : ∀ j u, [v][j]? = some u → (WW.alloc (.cells #[v] t)).cell? ((⟨k, 0, none⟩ : Addr).add j) = some u := by
  subst hk; exact cell_one_new _ _ _
end Go.Proofs.YtmdiggbbgcjcnaaDoor
