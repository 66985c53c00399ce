/- The last blocks, laid over noughts. -/
import Derived.Test.YtkeppcpplkdkaaaDoorStat
namespace Go.Proofs.YtkeppcpplkdkaaaDoor
open Go.RowKit

theorem splice_map {α β : Type} (f : α → β) (L : List α) (o : Nat) (c : List α) : splice (L.map f) o (c.map f) = (splice L o c).map f := by
  simp [splice, List.map_take, List.map_drop]
theorem len8_len (m : Nat) : (len8 m).length = 8 := rfl
theorem last_one (tl : Bs) (m : Nat) (h : tl.length < 56) : splice (splice (noughts 128) 0 (tl ++ [128])) 56 (len8 m) = tl ++ 128 :: (List.replicate (55 - tl.length) 0 ++ len8 m) ++ noughts 64 := by
  have e1 : splice (noughts 128) 0 (tl ++ [128]) = (tl ++ 128 :: List.replicate (55 - tl.length) 0) ++ List.replicate 72 0 := by
    simp only [splice, noughts, List.take_zero, List.nil_append, List.drop_replicate, List.append_assoc, List.cons_append, List.replicate_append_replicate, List.length_append, List.length_cons, List.length_nil]
    congr 3; omega
  have e2 : (tl ++ 128 :: List.replicate (55 - tl.length) 0).length = 56 := by simp; omega
  rw [e1, splice, List.take_append_of_le_length (by omega), List.take_of_length_le (by omega), List.drop_append, List.drop_eq_nil_of_le (by rw [len8_len]; omega), e2, len8_len]
  simp [noughts]
theorem last_two (tl : Bs) (m : Nat) (h : ¬ tl.length < 56) (h2 : tl.length < 64) : splice (splice (noughts 128) 0 (tl ++ [128])) 120 (len8 m) = tl ++ 128 :: (List.replicate (119 - tl.length) 0 ++ len8 m) := by
  have e1 : splice (noughts 128) 0 (tl ++ [128]) = (tl ++ 128 :: List.replicate (119 - tl.length) 0) ++ List.replicate 8 0 := by
    simp only [splice, noughts, List.take_zero, List.nil_append, List.drop_replicate, List.append_assoc, List.cons_append, List.replicate_append_replicate, List.length_append, List.length_cons, List.length_nil]
    congr 3; omega
  have e2 : (tl ++ 128 :: List.replicate (119 - tl.length) 0).length = 120 := by simp; omega
  rw [e1, splice, List.take_append_of_le_length (by omega), List.take_of_length_le (by omega), List.drop_append, List.drop_eq_nil_of_le (by rw [len8_len]; omega), e2, len8_len]
  simp
theorem last_row1 (b : Bs) (r : Nat) (hr : r = b.length % 64) (h : r < 56) : splice (splice (bys (noughts 128)) 0 (bys (b.drop (64 * (b.length / 64))) ++ [.int .u8 128])) 56 (bys (len8 (8 * b.length))) = bys (lastb b ++ noughts 64) := by
  have hd : (b.drop (64 * (b.length / 64))).length = r := by rw [List.length_drop]; omega
  have e := last_one (b.drop (64 * (b.length / 64))) (8 * b.length) (by omega)
  have e0 : bys (b.drop (64 * (b.length / 64))) ++ [.int .u8 128] = bys (b.drop (64 * (b.length / 64)) ++ [128]) := by simp [bys]
  rw [e0, bys, bys, splice_map, bys, splice_map, e, hd, lastb, beh, gap, ← hr, show (119 - r) % 64 = 55 - r by omega]
theorem last_row2 (b : Bs) (r : Nat) (hr : r = b.length % 64) (h : ¬ r < 56) : splice (splice (bys (noughts 128)) 0 (bys (b.drop (64 * (b.length / 64))) ++ [.int .u8 128])) 120 (bys (len8 (8 * b.length))) = bys (lastb b) := by
  have hd : (b.drop (64 * (b.length / 64))).length = r := by rw [List.length_drop]; omega
  have e := last_two (b.drop (64 * (b.length / 64))) (8 * b.length) (by omega) (by omega)
  have e0 : bys (b.drop (64 * (b.length / 64))) ++ [.int .u8 128] = bys (b.drop (64 * (b.length / 64)) ++ [128]) := by simp [bys]
  rw [e0, bys, bys, splice_map, bys, splice_map, e, hd, lastb, beh, gap, ← hr, show (119 - r) % 64 = 119 - r by omega]

/-- the words that a state begins with -/
theorem begun_any (w : World) (p : Nat) (b : Bs) (s : S8) (t : Bs) (h : Stt w p b s t) (_hl : b.length < 1000000) : Calls Tryd.prog 19 #[.pointer (some ⟨p, 0, none⟩)] w fun en w' => en = .returned (.agg (v8 (mid b))) ∧ Below w.heap.size w w' := by
  by_cases hn : b.length < 64
  · have e : mid b = iv := by rw [mid, show b.length / 64 = 0 by omega]; rfl
    rw [e]
    exact begun_no w p b.length h.lt h.count hn
  · rw [← h.mid (by omega)]
    exact begun_yes w p b.length s h.count hn h.eight
/-- a piece of bytes that lie there -/
theorem At.sub {w : World} {g o : Nat} {b : Bs} (h : At w g o b) (i : Nat) (n : Nat) : At w g (o + i) ((b.drop i).take n) := by
  refine ⟨h.1, fun k hk => ?_⟩
  have hk' : k < n ∧ i + k < b.length := by simp at hk; omega
  have e := h.2 (i + k) hk'.2
  rw [← Nat.add_assoc] at e
  rw [e]
  simp [byt, List.getD, hk'.1]
theorem at_of_heap {w : World} {g : Nat} {t : TypeId} {b c : Bs} (h : w.heap[g]? = some (.cells (bys (b ++ c)).toArray t (0, 0))) : At w g 0 b := by
  refine ⟨lt_of_block h, fun i hi => ?_⟩
  rw [cell_of_heap h, List.getElem?_toArray, Nat.zero_add, bys_get (by simp; omega)]
  simp [byt, List.getD, List.getElem?_append_left hi]
end Go.Proofs.YtkeppcpplkdkaaaDoor
