/- What TermKnown answers. -/
import Derived.Test.YtcmpiffkmnbepaaDoorAskedA
namespace Go.Proofs.YtcmpiffkmnbepaaDoor
open Go.RowKit

/-- the right terms of the examples -/
def good : List Bs := [[110, 55, 59], [110, 48, 59], [110, 57, 50, 50, 51, 51, 55, 50, 48, 51, 54, 56, 53, 52, 55, 55, 53, 56, 48, 55, 59], [116, 50, 58, 97, 98], [116, 48, 58], [84, 48, 58], [84, 50, 58, 110, 55, 59, 110, 56, 59], [80, 110, 55, 59], [72, 110, 55, 59], [83, 110, 49, 59, 116, 49, 58, 97], [66, 110, 49, 59, 116, 49, 58, 97], [88, 110, 49, 48, 59, 110, 57, 59], [68, 110, 49, 59, 116, 49, 58, 120], [86, 110, 49, 59, 110, 50, 59], [87, 80, 110, 49, 59, 80, 110, 50, 59], [75, 110, 49, 59, 116, 49, 58, 120], [76, 80, 110, 49, 59, 116, 49, 58, 120], [80, 80, 110, 49, 59], [87, 87, 80, 110, 49, 59, 80, 110, 50, 59, 76, 80, 110, 51, 59, 110, 52, 59], [75, 86, 110, 49, 59, 110, 50, 59, 116, 48, 58], [88, 110, 49, 59, 110, 49, 59], [86, 75, 110, 49, 59, 110, 50, 59, 86, 110, 51, 59, 110, 52, 59], [80, 72, 110, 49, 59], [110, 49, 48, 59], [110, 57, 59]]
/-- the texts of the examples that are no right terms -/
def bad : List Bs := [[], [110, 48, 55, 59], [110, 59], [110, 45, 49, 59], [110, 43, 49, 59], [110, 32, 49, 59], [110, 57, 50, 50, 51, 51, 55, 50, 48, 51, 54, 56, 53, 52, 55, 55, 53, 56, 48, 56, 59], [110, 57, 57, 57, 57, 57, 57, 57, 57, 57, 57, 57, 57, 57, 57, 57, 57, 57, 57, 57, 57, 59], [110, 49], [116, 51, 58, 97, 98], [116, 48, 50, 58, 97, 98], [116, 58], [116, 49], [116, 57, 50, 50, 51, 51, 55, 50, 48, 51, 54, 56, 53, 52, 55, 55, 53, 56, 48, 55, 58, 97], [84, 49, 58], [84, 48, 49, 58, 110, 49, 59], [84, 51, 51, 58], [84, 50, 58, 110, 49, 59], [84, 49, 58, 110, 49, 59, 110, 50, 59], [84], [80], [80, 86, 110, 49, 59, 110, 50, 59], [80, 75, 110, 49, 59, 110, 50, 59], [88, 110, 57, 59, 110, 49, 48, 59], [87, 110, 49, 59, 80, 110, 50, 59], [87, 80, 110, 49, 59, 110, 50, 59], [76, 110, 49, 59, 110, 50, 59], [110, 49, 59, 110, 50, 59], [83], [83, 110, 49, 59], [81], [97], [110, 49, 59, 0]]
theorem getD_all {P : Bs → Prop} {L : List Bs} (h : ∀ l ∈ L, P l) (h0 : P []) (i : Nat) : P (L.getD i []) := by
  by_cases hi : i < L.length
  · rw [List.getD, List.getElem?_eq_getElem hi, Option.getD_some]
    exact h _ (List.getElem_mem hi)
  · rw [List.getD, List.getElem?_eq_none (Nat.le_of_not_lt hi)]
    exact h0
theorem good_short (i : Nat) : (good.getD i []).length ≤ 140737488355328 := by
  have h := getD_all (P := fun l => l.length ≤ 200) (L := good) (by decide) (by decide) i
  omega
theorem bad_short (i : Nat) : (bad.getD i []).length ≤ 140737488355328 := by
  have h := getD_all (P := fun l => l.length ≤ 200) (L := bad) (by decide) (by decide) i
  omega
theorem bad_bad (i : Nat) : Tm.deep (bad.getD i []) = 0 :=
  getD_all (P := fun l => Tm.deep l = 0) (L := bad) (by decide +kernel) (by decide +kernel) i
/-- a new block of texts -/
theorem new_cells {w : World} {L : List Bs} {t : TypeId} (i : Nat) (hi : i < L.length) : (w.alloc (.cells (L.map St).toArray t)).cell? ⟨w.heap.size, i, none⟩ = some (St (L.getD i [])) := by
  rw [cell_of_heap (heap_alloc_new w _)]
  simp [List.getD, hi]
end Go.Proofs.YtcmpiffkmnbepaaDoor
