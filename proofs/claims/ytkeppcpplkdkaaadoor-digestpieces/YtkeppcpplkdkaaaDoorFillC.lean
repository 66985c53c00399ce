/- What a state becomes by bytes that are written to it: plain mathematics. -/
import Derived.Test.YtkeppcpplkdkaaaDoorSSum
namespace Go.Proofs.YtkeppcpplkdkaaaDoor
open Go.RowKit

/-- all but block p is as it was -/
structure Oth (w : World) (p : Nat) (w' : World) : Prop where
  os : w'.os = w.os
  tape : w'.tape = w.tape
  output : w'.output = w.output
  size : w.heap.size ≤ w'.heap.size
  block : ∀ k, k < w.heap.size → k ≠ p → w'.heap[k]? = w.heap[k]?
theorem Oth.refl (w : World) (p : Nat) : Oth w p w := ⟨rfl, rfl, rfl, Nat.le_refl _, fun _ _ _ => rfl⟩
theorem Oth.below {w w1 w2 : World} {p : Nat} (h : Oth w p w1) (hb : Below w1.heap.size w1 w2) : Oth w p w2 :=
  ⟨hb.os.trans h.os, hb.tape.trans h.tape, hb.output.trans h.output, Nat.le_trans h.size hb.size, fun k hk hp => (hb.block k (Nat.lt_of_lt_of_le hk h.size)).trans (h.block k hk hp)⟩
theorem Oth.drew {w w1 : World} {p : Nat} (h : Oth w p w1) : Oth w p w1.drew := ⟨h.os, h.tape, h.output, h.size, h.block⟩
theorem Oth.drewN {w w1 : World} {p : Nat} (h : Oth w p w1) (n : Nat) : Oth w p (w1.drewN n) := ⟨h.os, h.tape, h.output, h.size, h.block⟩
theorem Oth.setCell {w w1 : World} {p : Nat} (h : Oth w p w1) (o : Nat) (v : Value) : Oth w p (w1.setCell ⟨p, o, none⟩ v) :=
  ⟨h.os, h.tape, h.output, by simpa [World.setCell] using h.size, fun k hk hp => by rw [Below.heap_setCell _ _ _ _ (by show k ≠ p; exact hp)]; exact h.block k hk hp⟩
theorem Oth.setRow {w w1 : World} {p : Nat} (h : Oth w p w1) (cs : Array Value) : Oth w p (w1.setRow p cs) :=
  ⟨h.os, h.tape, h.output, by simpa [World.setRow] using h.size, fun k hk hp => by rw [setRow_ne hp]; exact h.block k hk hp⟩
theorem Oth.setRow' {w w1 : World} {p g : Nat} (h : Oth w p w1) (cs : Array Value) (hg : w.heap.size ≤ g) : Oth w p (w1.setRow g cs) :=
  ⟨h.os, h.tape, h.output, by simpa [World.setRow] using h.size, fun k hk hp => by rw [setRow_ne (by omega)]; exact h.block k hk hp⟩
theorem Oth.at {w w' : World} {p g o : Nat} {b : Bs} (h : Oth w p w') (ha : At w g o b) (hg : g ≠ p) : At w' g o b := ha.other (h.block g ha.1 hg)
theorem Oth.kc {w w' : World} {p : Nat} (h : Oth w p w') (hk : KC w) (hp : p ≠ 0) : KC w' := by
  have e := h.block 0 hk.1 (fun e => hp e.symm)
  refine ⟨Nat.lt_of_lt_of_le hk.1 h.size, fun i hi => ?_⟩
  rw [← hk.2 i hi]
  simp [World.cell?, e]

theorem stc_count (s : S8) (t : Bs) (n m : Nat) (h : t.length = 64) : (stc s t n).toArray.setIfInBounds 72 (.int .u64 (m : Int)) = (stc s t m).toArray := by
  apply Array.ext'
  simp only [Array.toList_setIfInBounds, stc]
  rw [List.set_append_right (h := by simp), List.set_append_right (h := by simp [h])]
  simp [h]
theorem stc_copy (s : S8) (t : Bs) (n r : Nat) (cs : Bs) (h : r + cs.length ≤ t.length) : splice (stc s t n) (8 + r) (bys cs) = stc s (splice t r cs) n := by
  have e8 : (v8 s).toList.length = 8 := rfl
  have e1 : (bys t).length = t.length := by simp
  have e2 : (bys cs).length = cs.length := by simp
  unfold stc
  rw [splice, List.take_append, List.drop_append, e8, show (8 + r - 8) = r by omega, List.take_of_length_le (by rw [e8]; omega), List.drop_eq_nil_of_le (by rw [e8]; omega), List.nil_append, e2, show 8 + r + cs.length - 8 = r + cs.length by omega, List.take_append_of_le_length (by omega), List.drop_append_of_le_length (by omega), splice]
  simp [bys, List.map_take, List.map_drop]
theorem stc_words (s Y : S8) (t : Bs) (n : Nat) : ((((((((stc s t n).toArray.setIfInBounds 0 (.int .u32 Y.a)).setIfInBounds 1 (.int .u32 Y.b)).setIfInBounds 2 (.int .u32 Y.c)).setIfInBounds 3 (.int .u32 Y.d)).setIfInBounds 4 (.int .u32 Y.e)).setIfInBounds 5 (.int .u32 Y.f)).setIfInBounds 6 (.int .u32 Y.g)).setIfInBounds 7 (.int .u32 Y.h) = (stc Y t n).toArray := by
  apply Array.ext'
  simp [stc]

/-- what is left to be taken in -/
structure Goes (b c : Bs) (M : S8) (e : Bs) : Prop where
  mid : mid (b ++ c) = blks M e (e.length / 64)
  tl : (b ++ c).drop (64 * ((b ++ c).length / 64)) = e.drop (64 * (e.length / 64))
  rm : (b ++ c).length % 64 = e.length % 64
theorem goes_none (b c : Bs) (h : b.length % 64 = 0) : Goes b c (mid b) c := by
  have hd : b.drop (64 * (b.length / 64)) = [] := List.drop_eq_nil_of_le (by omega)
  refine ⟨?_, ?_, ?_⟩
  · rw [mid_append b c (c.length / 64) (by omega), hd, List.nil_append]
  · rw [List.drop_append, List.drop_eq_nil_of_le (by simp; omega), List.nil_append]
    congr 1
    simp; omega
  · simp; omega
theorem goes_some (b c : Bs) (r : Nat) (hr : r = b.length % 64) (h : 64 ≤ r + c.length) : Goes b c (tk (mid b) (b.drop (64 * (b.length / 64)) ++ c.take (64 - r))) (c.drop (64 - r)) := by
  have hd : (b.drop (64 * (b.length / 64))).length = r := by rw [List.length_drop]; omega
  have hr64 : r < 64 := by omega
  refine ⟨?_, ?_, ?_⟩
  · have e1 : (b.drop (64 * (b.length / 64)) ++ c).take 64 = b.drop (64 * (b.length / 64)) ++ c.take (64 - r) := by
      rw [List.take_append, hd, List.take_of_length_le (by omega)]
    have e2 : (b.drop (64 * (b.length / 64)) ++ c).drop 64 = c.drop (64 - r) := by
      rw [List.drop_append, hd, List.drop_eq_nil_of_le (by omega), List.nil_append]
    rw [mid_append b c (1 + (c.drop (64 - r)).length / 64) (by simp; omega), blks_add]
    show blks (tk (mid b) ((List.drop (64 * 0) _).take 64)) (List.drop (64 * 1) _) _ = _
    rw [Nat.mul_zero, List.drop_zero, Nat.mul_one, e1, e2]
  · rw [List.drop_append, List.drop_eq_nil_of_le (by simp; omega), List.nil_append, List.drop_drop]
    congr 1
    simp; omega
  · simp; omega
/-- bytes that do not fill a block -/
theorem goes_few (b c : Bs) (r : Nat) (hr : r = b.length % 64) (h : r + c.length < 64) : mid (b ++ c) = mid b ∧ (b ++ c).drop (64 * ((b ++ c).length / 64)) = b.drop (64 * (b.length / 64)) ++ c ∧ (b ++ c).length % 64 = r + c.length := by
  refine ⟨?_, ?_, ?_⟩
  · rw [mid_append b c 0 (by omega)]; rfl
  · rw [List.drop_append_of_le_length (by simp; omega)]
    congr 2
    simp; omega
  · simp; omega
theorem splice_take (t : Bs) (r : Nat) (c : Bs) (h : r + c.length ≤ t.length) : (splice t r c).take (r + c.length) = t.take r ++ c := by
  rw [splice, ← List.append_assoc, List.take_append_of_le_length (by simp; omega), List.take_of_length_le (by simp; omega)]
end Go.Proofs.YtkeppcpplkdkaaaDoor
