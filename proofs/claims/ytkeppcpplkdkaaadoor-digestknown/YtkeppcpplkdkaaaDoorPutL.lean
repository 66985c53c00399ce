/- The length is laid, a state is made. -/
import Derived.Test.YtkeppcpplkdkaaaDoorSmall
import Derived.Laws.CopyOwn
namespace Go.Proofs.YtkeppcpplkdkaaaDoor
open Go.RowKit

theorem byte_of (x : Nat) : ((UInt8.ofNat x).toNat : Int) = (x : Int) % 256 := by simp
theorem splice_set {cur : List Value} {o : Nat} {cs : List Value} (h : o + cs.length < cur.length) (v : Value) : ((splice cur o cs).toArray.setIfInBounds (o + cs.length) v) = (splice cur o (cs ++ [v])).toArray := by
  apply Array.ext'
  simp only [Array.toList_setIfInBounds, splice]
  have hto : (cur.take o).length = o := by simp; omega
  rw [List.set_append_right (h := by omega), hto, List.set_append_right (h := by omega), List.drop_eq_getElem_cons (by omega)]
  simp [Nat.add_assoc]
theorem splice_len {cur : List Value} {o : Nat} {cs : List Value} (h : o + cs.length ≤ cur.length) : (splice cur o cs).length = cur.length := length_splice cur o cs h
theorem splice_nil (cur : List Value) (o : Nat) : splice cur o [] = cur := by simp [splice]

/-- a row known whole: its next cell is set -/
theorem row_step {w : World} {g o : Nat} {t : TypeId} {cur cs : List Value} (hg : w.heap[g]? = some (.cells cur.toArray t (0, 0))) (h : o + cs.length < cur.length) (v : Value) :
    (w.setRow g (splice cur o cs).toArray).setCell ⟨g, o + cs.length, none⟩ v = w.setRow g (splice cur o (cs ++ [v])).toArray := by
  rw [setCell_eq_setRow _ g _ _ t (0, 0) v (setRow_heap w g _ _ t _ hg), setRow_setRow, splice_set h]
theorem row_cell {w : World} {g k : Nat} {t : TypeId} {cur cs : List Value} (hg : w.heap[g]? = some (.cells cur.toArray t (0, 0))) (h : k < cs.length) : ∃ v, (w.setRow g cs.toArray).cell? ⟨g, k, none⟩ = some v :=
  ⟨cs[k], by rw [cell_of_heap (setRow_heap w g _ _ t _ hg)]; simp [h]⟩
theorem row_frozen {w : World} {g k : Nat} {t : TypeId} {cur cs : List Value} (hg : w.heap[g]? = some (.cells cur.toArray t (0, 0))) : (w.setRow g cs.toArray).frozen? ⟨g, k, none⟩ = false :=
  frozen_of_heap (setRow_heap w g _ _ t _ hg) k

set_option maxHeartbeats 4000000 in
theorem putLength_any (w : World) (g o cap n : Nat) (t : TypeId) (cur : List Value) (hg : w.heap[g]? = some (.cells cur.toArray t (0, 0))) (hl : o + 8 ≤ cur.length) :
    Calls Tryd.prog 18 #[.slice (some ⟨g, o, none⟩) 8 cap, .int .u64 (n : Int)] w fun en w' => en = .returned (.tuple #[]) ∧ w' = w.setRow g (splice cur o (bys (len8 n))).toArray := by
  have HG := hid hg
  have HL := hid hl
  clear hg hl
  go_enter Tryd.func18, Tryd.ntmps18
  go_wp2_with fail
  go_loopg [7] 8 (fun gg vi wr => ∃ i : Nat, i ≤ 8 ∧ gg = 8 - i ∧ vi = .int .i64 (i : Int) ∧ wr = w.setRow g (splice cur o (bys ((len8 n).take i))).toArray)
  case atStart => exact ⟨0, by omega, rfl, rfl, by rw [show bys (List.take 0 (len8 n)) = [] from rfl, splice_nil]; exact (setRow_self w g _ t _ HG.out).symm⟩
  case round =>
    obtain ⟨i, hi, rfl, rfl, hw⟩ := hrel
    have HW := hid hw
    clear hw
    by_cases hil : i < 8
    · rcases (by omega : i = 0 ∨ i = 1 ∨ i = 2 ∨ i = 3 ∨ i = 4 ∨ i = 5 ∨ i = 6 ∨ i = 7) with rfl | rfl | rfl | rfl | rfl | rfl | rfl | rfl
      all_goals clear hi hil
      · obtain ⟨v0, hv0⟩ : ∃ v, wr.cell? ⟨g, o, none⟩ = some v := by rw [HW.out]; exact row_cell HG.out (by rw [splice_len (by have := HL.out; simp [len8]; omega)]; have := HL.out; omega)
        have hf0 : wr.frozen? ⟨g, o, none⟩ = false := by rw [HW.out]; exact row_frozen HG.out
        go_wp2_with fail
        go_roundg (8 - (0 + 1))
        case measure => decide
        case rel =>
          refine ⟨0 + 1, by decide, rfl, rfl, ?_⟩
          rw [HW.out]
          have h := row_step (o := o) (cs := bys ((len8 n).take 0)) HG.out (by have := HL.out; simp [len8]; omega) (.int .u8 ((n : Int) / 72057594037927936 % 256))
          refine h.trans ?_
          simp [len8, bys]
      · obtain ⟨v0, hv0⟩ : ∃ v, wr.cell? ⟨g, o + 1, none⟩ = some v := by rw [HW.out]; exact row_cell HG.out (by rw [splice_len (by have := HL.out; simp [len8]; omega)]; have := HL.out; omega)
        have hf0 : wr.frozen? ⟨g, o + 1, none⟩ = false := by rw [HW.out]; exact row_frozen HG.out
        go_wp2_with fail
        go_roundg (8 - (1 + 1))
        case measure => decide
        case rel =>
          refine ⟨1 + 1, by decide, rfl, rfl, ?_⟩
          rw [HW.out]
          have h := row_step (o := o) (cs := bys ((len8 n).take 1)) HG.out (by have := HL.out; simp [len8]; omega) (.int .u8 ((n : Int) / 281474976710656 % 256))
          refine h.trans ?_
          simp [len8, bys]
      · obtain ⟨v0, hv0⟩ : ∃ v, wr.cell? ⟨g, o + 2, none⟩ = some v := by rw [HW.out]; exact row_cell HG.out (by rw [splice_len (by have := HL.out; simp [len8]; omega)]; have := HL.out; omega)
        have hf0 : wr.frozen? ⟨g, o + 2, none⟩ = false := by rw [HW.out]; exact row_frozen HG.out
        go_wp2_with fail
        go_roundg (8 - (2 + 1))
        case measure => decide
        case rel =>
          refine ⟨2 + 1, by decide, rfl, rfl, ?_⟩
          rw [HW.out]
          have h := row_step (o := o) (cs := bys ((len8 n).take 2)) HG.out (by have := HL.out; simp [len8]; omega) (.int .u8 ((n : Int) / 1099511627776 % 256))
          refine h.trans ?_
          simp [len8, bys]
      · obtain ⟨v0, hv0⟩ : ∃ v, wr.cell? ⟨g, o + 3, none⟩ = some v := by rw [HW.out]; exact row_cell HG.out (by rw [splice_len (by have := HL.out; simp [len8]; omega)]; have := HL.out; omega)
        have hf0 : wr.frozen? ⟨g, o + 3, none⟩ = false := by rw [HW.out]; exact row_frozen HG.out
        go_wp2_with fail
        go_roundg (8 - (3 + 1))
        case measure => decide
        case rel =>
          refine ⟨3 + 1, by decide, rfl, rfl, ?_⟩
          rw [HW.out]
          have h := row_step (o := o) (cs := bys ((len8 n).take 3)) HG.out (by have := HL.out; simp [len8]; omega) (.int .u8 ((n : Int) / 4294967296 % 256))
          refine h.trans ?_
          simp [len8, bys]
      · obtain ⟨v0, hv0⟩ : ∃ v, wr.cell? ⟨g, o + 4, none⟩ = some v := by rw [HW.out]; exact row_cell HG.out (by rw [splice_len (by have := HL.out; simp [len8]; omega)]; have := HL.out; omega)
        have hf0 : wr.frozen? ⟨g, o + 4, none⟩ = false := by rw [HW.out]; exact row_frozen HG.out
        go_wp2_with fail
        go_roundg (8 - (4 + 1))
        case measure => decide
        case rel =>
          refine ⟨4 + 1, by decide, rfl, rfl, ?_⟩
          rw [HW.out]
          have h := row_step (o := o) (cs := bys ((len8 n).take 4)) HG.out (by have := HL.out; simp [len8]; omega) (.int .u8 ((n : Int) / 16777216 % 256))
          refine h.trans ?_
          simp [len8, bys]
      · obtain ⟨v0, hv0⟩ : ∃ v, wr.cell? ⟨g, o + 5, none⟩ = some v := by rw [HW.out]; exact row_cell HG.out (by rw [splice_len (by have := HL.out; simp [len8]; omega)]; have := HL.out; omega)
        have hf0 : wr.frozen? ⟨g, o + 5, none⟩ = false := by rw [HW.out]; exact row_frozen HG.out
        go_wp2_with fail
        go_roundg (8 - (5 + 1))
        case measure => decide
        case rel =>
          refine ⟨5 + 1, by decide, rfl, rfl, ?_⟩
          rw [HW.out]
          have h := row_step (o := o) (cs := bys ((len8 n).take 5)) HG.out (by have := HL.out; simp [len8]; omega) (.int .u8 ((n : Int) / 65536 % 256))
          refine h.trans ?_
          simp [len8, bys]
      · obtain ⟨v0, hv0⟩ : ∃ v, wr.cell? ⟨g, o + 6, none⟩ = some v := by rw [HW.out]; exact row_cell HG.out (by rw [splice_len (by have := HL.out; simp [len8]; omega)]; have := HL.out; omega)
        have hf0 : wr.frozen? ⟨g, o + 6, none⟩ = false := by rw [HW.out]; exact row_frozen HG.out
        go_wp2_with fail
        go_roundg (8 - (6 + 1))
        case measure => decide
        case rel =>
          refine ⟨6 + 1, by decide, rfl, rfl, ?_⟩
          rw [HW.out]
          have h := row_step (o := o) (cs := bys ((len8 n).take 6)) HG.out (by have := HL.out; simp [len8]; omega) (.int .u8 ((n : Int) / 256 % 256))
          refine h.trans ?_
          simp [len8, bys]
      · obtain ⟨v0, hv0⟩ : ∃ v, wr.cell? ⟨g, o + 7, none⟩ = some v := by rw [HW.out]; exact row_cell HG.out (by rw [splice_len (by have := HL.out; simp [len8]; omega)]; have := HL.out; omega)
        have hf0 : wr.frozen? ⟨g, o + 7, none⟩ = false := by rw [HW.out]; exact row_frozen HG.out
        go_wp2_with fail
        go_roundg (8 - (7 + 1))
        case measure => decide
        case rel =>
          refine ⟨7 + 1, by decide, rfl, rfl, ?_⟩
          rw [HW.out]
          have h := row_step (o := o) (cs := bys ((len8 n).take 7)) HG.out (by have := HL.out; simp [len8]; omega) (.int .u8 ((n : Int) % 256))
          refine h.trans ?_
          simp [len8, bys]
    · have hi' : ¬ (i : Int) < 8 := by omega
      obtain rfl : i = 8 := by omega
      clear hil hi
      go_wp2_with fail
      refine bodyPost_end (results_none rfl _ _ _) rfl ?_
      exact ⟨rfl, HW.out⟩
end Go.Proofs.YtkeppcpplkdkaaaDoor
