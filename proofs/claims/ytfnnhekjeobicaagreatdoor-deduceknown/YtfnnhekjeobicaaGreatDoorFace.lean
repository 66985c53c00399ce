/- What the makers do: digests, children, joined and bound secrets, signatures, boxes. -/
import Derived.Test.YtfnnhekjeobicaaGreatDoorBuild
namespace Go.Proofs.YtfnnhekjeobicaaGreatDoor
open Go.RowKit

theorem texts_two (w : World) (a b : Bs) : Texts (w.alloc (.cells #[St a, St b] 29)) (.slice (some ⟨w.heap.size, 0, none⟩) 2 2) [a, b] :=
  ⟨_, _, rfl, fun _ => ⟨w.heap.size, 0, rfl, by simp, fun i h => by
    have hg : (w.alloc (.cells #[St a, St b] 29)).heap[w.heap.size]? = some (.cells #[St a, St b] 29 (0, 0)) := heap_alloc_new w _
    rw [cell_of_heap hg]
    match i, h with
    | 0, _ => rfl
    | 1, _ => rfl⟩⟩
theorem texts_one (w : World) (a : Bs) : Texts (w.alloc (.cells #[St a] 29)) (.slice (some ⟨w.heap.size, 0, none⟩) 1 1) [a] :=
  ⟨_, _, rfl, fun _ => ⟨w.heap.size, 0, rfl, by simp, fun i h => by
    have hg : (w.alloc (.cells #[St a] 29)).heap[w.heap.size]? = some (.cells #[St a] 29 (0, 0)) := heap_alloc_new w _
    rw [cell_of_heap hg]
    match i, h with
    | 0, _ => rfl⟩⟩
theorem texts_nil (w : World) : Texts w (.slice none 0 0) [] := ⟨none, 0, rfl, fun h => absurd rfl h⟩

/-- what a maker answers -/
abbrev made (r : Bs × Nat) : Ending := .returned (.tuple #[St r.1, .int .i64 (r.2 : Int)])

theorem st_app (a b : Bs) : (⟨a.toArray⟩ : ByteArray) ++ ⟨b.toArray⟩ = ⟨(a ++ b).toArray⟩ := by
  apply ByteArray.ext; simp

end Go.Proofs.YtfnnhekjeobicaaGreatDoor
