/- Sorting, by the library's contract (the shelf's, over this program's own functions). -/
import Derived.Test.YtfnnhekjeobicaaLearnN
import Derived.Shelf.SortM.Plain
namespace Go.Proofs.Ytfnnhekjeobicaa
open Go.RowKit

section
open Go.Shelf
def Try.laysSort_ren : Go.Shelf.Ren := ⟨fun | 6 => 15 | 8 => 27 | 9 => 26 | 19 => 46 | 20 => 47 | 21 => 37 | 22 => 38 | 23 => 39 | 24 => 40 | 25 => 41 | 26 => 42 | 27 => 43 | 28 => 44 | 29 => 45 | 36 => 51 | 31 => 52 | 32 => 53 | 37 => 54 | 38 => 55 | 39 => 56 | 41 => 69 | n => n, fun | 27 => 27 | 29 => 22 | 3 => 3 | 32 => 55 | 26 => 27 | 0 => 0 | 44 => 75 | 46 => 77 | 4 => 4 | 36 => 68 | 35 => 67 | 41 => 72 | 5 => 5 | 9 => 9 | 53 => 82 | 57 => 86 | 63 => 89 | 64 => 90 | n => n, fun | n => n⟩
theorem Try.laysSort : Go.Proofs.SlLaysM.n6 Try.prog Try.laysSort_ren := {
  mixed := by kernel_rfl
  f6 := ⟨Try.f15.name, by decide, Try.func15.trans (congrArg some (by kernel_rfl))⟩
  f8 := Try.func27.trans (congrArg some (by kernel_rfl))
  f9 := ⟨Try.f26.name, by decide, Try.func26.trans (congrArg some (by kernel_rfl))⟩
  f19 := Try.func46.trans (congrArg some (by kernel_rfl))
  f20 := Try.func47.trans (congrArg some (by kernel_rfl))
  f21 := ⟨Try.f37.name, by decide, Try.func37.trans (congrArg some (by kernel_rfl))⟩
  f22 := ⟨Try.f38.name, by decide, Try.func38.trans (congrArg some (by kernel_rfl))⟩
  f23 := ⟨Try.f39.name, by decide, Try.func39.trans (congrArg some (by kernel_rfl))⟩
  f24 := ⟨Try.f40.name, by decide, Try.func40.trans (congrArg some (by kernel_rfl))⟩
  f25 := ⟨Try.f41.name, by decide, Try.func41.trans (congrArg some (by kernel_rfl))⟩
  f26 := ⟨Try.f42.name, by decide, Try.func42.trans (congrArg some (by kernel_rfl))⟩
  f27 := ⟨Try.f43.name, by decide, Try.func43.trans (congrArg some (by kernel_rfl))⟩
  f28 := ⟨Try.f44.name, by decide, Try.func44.trans (congrArg some (by kernel_rfl))⟩
  f29 := ⟨Try.f45.name, by decide, Try.func45.trans (congrArg some (by kernel_rfl))⟩
  f31 := Try.func52.trans (congrArg some (by kernel_rfl))
  f32 := Try.func53.trans (congrArg some (by kernel_rfl))
  f36 := ⟨Try.f51.name, by decide, Try.func51.trans (congrArg some (by kernel_rfl))⟩
  f37 := ⟨Try.f54.name, by decide, Try.func54.trans (congrArg some (by kernel_rfl))⟩
  f38 := ⟨Try.f55.name, by decide, Try.func55.trans (congrArg some (by kernel_rfl))⟩
  f39 := ⟨Try.f56.name, by decide, Try.func56.trans (congrArg some (by kernel_rfl))⟩
  f41 := ⟨Try.f69.name, by decide, Try.func69.trans (congrArg some (by kernel_rfl))⟩
  t0 := Try.underlying0
  a0 := Try.isAgg0
  z0 := Try.sizeOf0
  v0 := Try.zeroValue0
  t3 := Try.underlying3
  a3 := Try.isAgg3
  z3 := Try.sizeOf3
  v3 := Try.zeroValue3
  t4 := Try.underlying4
  a4 := Try.isAgg4
  z4 := Try.sizeOf4
  v4 := Try.zeroValue4
  t5 := Try.underlying5
  a5 := Try.isAgg5
  z5 := Try.sizeOf5
  v5 := Try.zeroValue5
  t9 := Try.underlying9
  a9 := Try.isAgg9
  z9 := Try.sizeOf9
  v9 := Try.zeroValue9
  t26 := Try.underlying27
  a26 := Try.isAgg27
  z26 := Try.sizeOf27
  v26 := Try.zeroValue27
  t27 := Try.underlying27
  a27 := Try.isAgg27
  z27 := Try.sizeOf27
  v27 := Try.zeroValue27
  t29 := Try.underlying22
  a29 := Try.isAgg22
  z29 := Try.sizeOf22
  v29 := Try.zeroValue22
  t32 := Try.underlying55
  a32 := Try.isAgg55
  z32 := Try.sizeOf55
  v32 := Try.zeroValue55
  t35 := Try.underlying67
  a35 := Try.isAgg67
  z35 := Try.sizeOf67
  v35 := Try.zeroValue67
  t36 := Try.underlying68
  a36 := Try.isAgg68
  z36 := Try.sizeOf68
  v36 := Try.zeroValue68
  t41 := Try.underlying72
  a41 := Try.isAgg72
  z41 := Try.sizeOf72
  v41 := Try.zeroValue72
  t44 := Try.underlying75
  a44 := Try.isAgg75
  z44 := Try.sizeOf75
  v44 := Try.zeroValue75
  t46 := Try.underlying77
  a46 := Try.isAgg77
  z46 := Try.sizeOf77
  v46 := Try.zeroValue77
  t53 := Try.underlying82
  a53 := Try.isAgg82
  z53 := Try.sizeOf82
  v53 := Try.zeroValue82
  t57 := Try.underlying86
  a57 := Try.isAgg86
  z57 := Try.sizeOf86
  v57 := Try.zeroValue86
  t63 := Try.underlying89
  a63 := Try.isAgg89
  z63 := Try.sizeOf89
  v63 := Try.zeroValue89
  t64 := Try.underlying90
  a64 := Try.isAgg90
  z64 := Try.sizeOf90
  v64 := Try.zeroValue90 }
open Go.Sort Go.RowKit in
theorem Try.slices_Sort (blk off cap : Nat) (ss : List (List UInt8)) (w : World) (hH : Holds encStr w blk off ss.toArray) (hblk : blk < w.heap.size) (hsz : ss.length < 4611686018427387904) :
    Calls Try.prog 15 #[.slice (some ⟨blk, off, none⟩) ss.length cap] w fun e w' =>
      e = .returned (.tuple #[]) ∧ ∃ n os, w' = grow (putRow encStr (Sort.ahead w n) blk off (ss.mergeSort fun x y => decide (x ≤ y)).toArray) os := AnyM.slices_Sort_string Try.laysSort blk off cap ss w hH hblk hsz
end

/-- the order in which texts are sorted -/
def sorted (l : List Bs) : List Bs := l.mergeSort fun x y => decide (x ≤ y)
theorem sorted_length (l : List Bs) : (sorted l).length = l.length := List.length_mergeSort l

open Go.Sort in
theorem sort_any (w : World) (base : Nat) (v : Value) (l : List Bs) (h : w.ownsRow base 22 1 v l.length (l.map St)) (h0 : 0 < l.length) (hl : l.length < 1000000000000) :
    Calls Try.prog 15 #[v] w fun e w' => e = .returned (.tuple #[]) ∧ w'.ownsRow base 22 1 v (sorted l).length ((sorted l).map St) ∧ w.grownBy w' v.ownBlock := by
  rcases h.2 with ⟨h1, h2⟩ | ⟨g, cap, cur, hv, hb, hg, hc1, hc2, hc3, hc4⟩
  · omega
  · subst hv
    have hgl := lt_of_block hg
    have hH : Holds encStr w g 0 l.toArray := by
      intro j hj
      have hj' : j < l.length := by simpa using hj
      have e : (cur.toList.take (l.length * 1))[j]? = some (St l[j]) := by rw [hc4]; simp [hj']
      rw [Nat.mul_one, List.getElem?_take_of_lt hj', Array.getElem?_toList] at e
      refine ⟨?_, frozen_of_heap hg _⟩
      rw [cell_of_heap hg, Nat.zero_add, e, getElem!_pos _ j hj]
      simp [encStr]
    refine (Try.slices_Sort g 0 cap l w hH hgl (by omega)).mono ?_
    rintro e w' ⟨rfl, n, os, rfl⟩
    have hs : l.mergeSort (fun x y => decide (x ≤ y)) = sorted l := rfl
    rw [hs]
    have hsl := sorted_length l
    generalize sorted l = s at hsl ⊢
    have hblk : (grow (putRow encStr (Go.Sort.ahead w n) g 0 s.toArray) os).heap[g]? = some (.cells (putCells encStr 0 s.toArray cur) 22 (0, 0)) := by
      show ((w.heap.modify g (onCells (putCells encStr 0 s.toArray))) ++ os)[g]? = _
      rw [Array.getElem?_append, if_pos (by simpa using hgl), Array.getElem?_modify, if_pos rfl, hg]
      rfl
    refine ⟨rfl, ⟨by simp, Or.inr ⟨g, cap, _, by rw [hsl], hb, hblk, by omega, hc2, by simpa [putCells] using hc3, ?_⟩⟩, ⟨rfl, rfl, rfl, by simp [grow, putRow, mapBlock, Go.Sort.ahead], fun k hk hne => ?_⟩⟩
    · apply List.ext_getElem?
      intro j
      rw [Nat.mul_one, List.getElem?_take]
      by_cases hj : j < s.length
      · rw [if_pos hj]
        have hjc : j < cur.size := by omega
        have hjs : j < s.toArray.size := by simpa using hj
        have hcond : 0 ≤ j ∧ j < 0 + s.toArray.size := ⟨Nat.zero_le _, by omega⟩
        rw [Array.getElem?_toList, putCells, Array.getElem?_mapIdx, Array.getElem?_eq_getElem hjc, Option.map_some, if_pos hcond, Nat.sub_zero, getElem!_pos _ j hjs]
        simp [hj, encStr]
      · rw [if_neg hj]
        simp [hj]
    · have hne' : g ≠ k := fun e => hne (by rw [← e]; rfl)
      show ((w.heap.modify g (onCells (putCells encStr 0 s.toArray))) ++ os)[k]? = _
      rw [Array.getElem?_append, if_pos (by simpa using hk), Array.getElem?_modify, if_neg hne']
end Go.Proofs.Ytfnnhekjeobicaa
