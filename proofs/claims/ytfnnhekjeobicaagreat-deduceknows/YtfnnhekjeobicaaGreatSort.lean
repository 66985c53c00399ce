/- Sorting, by the library's contract (the shelf's, over this program's own functions). -/
import Derived.Test.YtfnnhekjeobicaaGreatLearnN
import Derived.Shelf.SortM.Plain
namespace Go.Proofs.YtfnnhekjeobicaaGreat
open Go.RowKit

section
open Go.Shelf
def Tryz.laysSort_ren : Go.Shelf.Ren := ⟨fun | 6 => 21 | 8 => 37 | 9 => 36 | 19 => 64 | 20 => 65 | 21 => 55 | 22 => 56 | 23 => 57 | 24 => 58 | 25 => 59 | 26 => 60 | 27 => 61 | 28 => 62 | 29 => 63 | 36 => 73 | 31 => 74 | 32 => 75 | 37 => 76 | 38 => 77 | 39 => 78 | 41 => 82 | n => n, fun | 27 => 22 | 29 => 28 | 3 => 3 | 32 => 66 | 26 => 22 | 0 => 0 | 44 => 88 | 46 => 51 | 4 => 4 | 36 => 81 | 35 => 80 | 41 => 85 | 5 => 5 | 9 => 9 | 53 => 101 | 57 => 105 | 63 => 109 | 64 => 110 | n => n, fun | n => n⟩
theorem Tryz.laysSort : Go.Proofs.SlLaysM.n6 Tryz.prog Tryz.laysSort_ren := {
  mixed := by kernel_rfl
  f6 := ⟨Tryz.f21.name, by decide, Tryz.func21.trans (congrArg some (by kernel_rfl))⟩
  f8 := Tryz.func37.trans (congrArg some (by kernel_rfl))
  f9 := ⟨Tryz.f36.name, by decide, Tryz.func36.trans (congrArg some (by kernel_rfl))⟩
  f19 := Tryz.func64.trans (congrArg some (by kernel_rfl))
  f20 := Tryz.func65.trans (congrArg some (by kernel_rfl))
  f21 := ⟨Tryz.f55.name, by decide, Tryz.func55.trans (congrArg some (by kernel_rfl))⟩
  f22 := ⟨Tryz.f56.name, by decide, Tryz.func56.trans (congrArg some (by kernel_rfl))⟩
  f23 := ⟨Tryz.f57.name, by decide, Tryz.func57.trans (congrArg some (by kernel_rfl))⟩
  f24 := ⟨Tryz.f58.name, by decide, Tryz.func58.trans (congrArg some (by kernel_rfl))⟩
  f25 := ⟨Tryz.f59.name, by decide, Tryz.func59.trans (congrArg some (by kernel_rfl))⟩
  f26 := ⟨Tryz.f60.name, by decide, Tryz.func60.trans (congrArg some (by kernel_rfl))⟩
  f27 := ⟨Tryz.f61.name, by decide, Tryz.func61.trans (congrArg some (by kernel_rfl))⟩
  f28 := ⟨Tryz.f62.name, by decide, Tryz.func62.trans (congrArg some (by kernel_rfl))⟩
  f29 := ⟨Tryz.f63.name, by decide, Tryz.func63.trans (congrArg some (by kernel_rfl))⟩
  f31 := Tryz.func74.trans (congrArg some (by kernel_rfl))
  f32 := Tryz.func75.trans (congrArg some (by kernel_rfl))
  f36 := ⟨Tryz.f73.name, by decide, Tryz.func73.trans (congrArg some (by kernel_rfl))⟩
  f37 := ⟨Tryz.f76.name, by decide, Tryz.func76.trans (congrArg some (by kernel_rfl))⟩
  f38 := ⟨Tryz.f77.name, by decide, Tryz.func77.trans (congrArg some (by kernel_rfl))⟩
  f39 := ⟨Tryz.f78.name, by decide, Tryz.func78.trans (congrArg some (by kernel_rfl))⟩
  f41 := ⟨Tryz.f82.name, by decide, Tryz.func82.trans (congrArg some (by kernel_rfl))⟩
  t0 := Tryz.underlying0
  a0 := Tryz.isAgg0
  z0 := Tryz.sizeOf0
  v0 := Tryz.zeroValue0
  t3 := Tryz.underlying3
  a3 := Tryz.isAgg3
  z3 := Tryz.sizeOf3
  v3 := Tryz.zeroValue3
  t4 := Tryz.underlying4
  a4 := Tryz.isAgg4
  z4 := Tryz.sizeOf4
  v4 := Tryz.zeroValue4
  t5 := Tryz.underlying5
  a5 := Tryz.isAgg5
  z5 := Tryz.sizeOf5
  v5 := Tryz.zeroValue5
  t9 := Tryz.underlying9
  a9 := Tryz.isAgg9
  z9 := Tryz.sizeOf9
  v9 := Tryz.zeroValue9
  t26 := Tryz.underlying22
  a26 := Tryz.isAgg22
  z26 := Tryz.sizeOf22
  v26 := Tryz.zeroValue22
  t27 := Tryz.underlying22
  a27 := Tryz.isAgg22
  z27 := Tryz.sizeOf22
  v27 := Tryz.zeroValue22
  t29 := Tryz.underlying28
  a29 := Tryz.isAgg28
  z29 := Tryz.sizeOf28
  v29 := Tryz.zeroValue28
  t32 := Tryz.underlying66
  a32 := Tryz.isAgg66
  z32 := Tryz.sizeOf66
  v32 := Tryz.zeroValue66
  t35 := Tryz.underlying80
  a35 := Tryz.isAgg80
  z35 := Tryz.sizeOf80
  v35 := Tryz.zeroValue80
  t36 := Tryz.underlying81
  a36 := Tryz.isAgg81
  z36 := Tryz.sizeOf81
  v36 := Tryz.zeroValue81
  t41 := Tryz.underlying85
  a41 := Tryz.isAgg85
  z41 := Tryz.sizeOf85
  v41 := Tryz.zeroValue85
  t44 := Tryz.underlying88
  a44 := Tryz.isAgg88
  z44 := Tryz.sizeOf88
  v44 := Tryz.zeroValue88
  t46 := Tryz.underlying51
  a46 := Tryz.isAgg51
  z46 := Tryz.sizeOf51
  v46 := Tryz.zeroValue51
  t53 := Tryz.underlying101
  a53 := Tryz.isAgg101
  z53 := Tryz.sizeOf101
  v53 := Tryz.zeroValue101
  t57 := Tryz.underlying105
  a57 := Tryz.isAgg105
  z57 := Tryz.sizeOf105
  v57 := Tryz.zeroValue105
  t63 := Tryz.underlying109
  a63 := Tryz.isAgg109
  z63 := Tryz.sizeOf109
  v63 := Tryz.zeroValue109
  t64 := Tryz.underlying110
  a64 := Tryz.isAgg110
  z64 := Tryz.sizeOf110
  v64 := Tryz.zeroValue110 }
open Go.Sort Go.RowKit in
theorem Tryz.slices_Sort (blk off cap : Nat) (ss : List (List UInt8)) (w : World) (hH : Holds encStr w blk off ss.toArray) (hblk : blk < w.heap.size) (hsz : ss.length < 4611686018427387904) :
    Calls Tryz.prog 21 #[.slice (some ⟨blk, off, none⟩) ss.length cap] w fun e w' =>
      e = .returned (.tuple #[]) ∧ ∃ n os, w' = grow (putRow encStr (Sort.ahead w n) blk off (ss.mergeSort fun x y => decide (x ≤ y)).toArray) os := AnyM.slices_Sort_string Tryz.laysSort blk off cap ss w hH hblk hsz
end

/-- the order in which texts are sorted -/
def sorted (l : List Bs) : List Bs := l.mergeSort fun x y => decide (x ≤ y)
theorem sorted_length (l : List Bs) : (sorted l).length = l.length := List.length_mergeSort l

open Go.Sort in
theorem sort_any (w : World) (base : Nat) (v : Value) (l : List Bs) (h : w.ownsRow base 28 1 v l.length (l.map St)) (h0 : 0 < l.length) (hl : l.length < 1000000000000) :
    Calls Tryz.prog 21 #[v] w fun e w' => e = .returned (.tuple #[]) ∧ w'.ownsRow base 28 1 v (sorted l).length ((sorted l).map St) ∧ w.grownBy w' v.ownBlock := by
  rcases h.2 with ⟨h1, h2⟩ | ⟨g, cap, cur, hv, hb, hg, hc1, hc2, hc3, hc4⟩
  · omega
  · subst hv
    have hgl := lt_of_block hg
    have hH : Holds encStr w g 0 l.toArray := by
      intro j hj
      have hj' : j < l.length := by simpa using hj
      have e : (cur.toList.take (l.length * 1))[j]? = some (St l[j]) := by rw [hc4]; simp [hj']
      rw [Nat.mul_one, List.getElem?_take_of_lt hj', Array.getElem?_toList] at e
      refine ⟨?_, frozen_of_heap hg _⟩
      rw [cell_of_heap hg, Nat.zero_add, e, getElem!_pos _ j hj]
      simp [encStr]
    refine (Tryz.slices_Sort g 0 cap l w hH hgl (by omega)).mono ?_
    rintro e w' ⟨rfl, n, os, rfl⟩
    have hs : l.mergeSort (fun x y => decide (x ≤ y)) = sorted l := rfl
    rw [hs]
    have hsl := sorted_length l
    generalize sorted l = s at hsl ⊢
    have hblk : (grow (putRow encStr (Go.Sort.ahead w n) g 0 s.toArray) os).heap[g]? = some (.cells (putCells encStr 0 s.toArray cur) 28 (0, 0)) := by
      show ((w.heap.modify g (onCells (putCells encStr 0 s.toArray))) ++ os)[g]? = _
      rw [Array.getElem?_append, if_pos (by simpa using hgl), Array.getElem?_modify, if_pos rfl, hg]
      rfl
    refine ⟨rfl, ⟨by simp, Or.inr ⟨g, cap, _, by rw [hsl], hb, hblk, by omega, hc2, by simpa [putCells] using hc3, ?_⟩⟩, ⟨rfl, rfl, rfl, by simp [grow, putRow, mapBlock, Go.Sort.ahead], fun k hk hne => ?_⟩⟩
    · apply List.ext_getElem?
      intro j
      rw [Nat.mul_one, List.getElem?_take]
      by_cases hj : j < s.length
      · rw [if_pos hj]
        have hjc : j < cur.size := by omega
        have hjs : j < s.toArray.size := by simpa using hj
        have hcond : 0 ≤ j ∧ j < 0 + s.toArray.size := ⟨Nat.zero_le _, by omega⟩
        rw [Array.getElem?_toList, putCells, Array.getElem?_mapIdx, Array.getElem?_eq_getElem hjc, Option.map_some, if_pos hcond, Nat.sub_zero, getElem!_pos _ j hjs]
        simp [hj, encStr]
      · rw [if_neg hj]
        simp [hj]
    · have hne' : g ≠ k := fun e => hne (by rw [← e]; rfl)
      show ((w.heap.modify g (onCells (putCells encStr 0 s.toArray))) ++ os)[k]? = _
      rw [Array.getElem?_append, if_pos (by simpa using hk), Array.getElem?_modify, if_neg hne']
end Go.Proofs.YtfnnhekjeobicaaGreat
