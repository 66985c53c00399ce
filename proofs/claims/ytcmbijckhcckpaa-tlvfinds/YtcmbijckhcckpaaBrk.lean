/- slices.nextPowerOfTwo and xorshift of numbers. -/
import Derived.Test.YtcmbijckhcckpaaLen
import Derived.Test.YtcmbijckhcckpaaMed
namespace Go.Proofs.Ytcmbijckhcckpaa
open Go.RowKit Go.Sort

theorem len_le : ∀ x, x ≤ 100 → bitsLen x ≤ 7 := by decide +kernel
theorem cell_again {w w1 : World} {z : Nat} {u v : Value} (hc : w.cell? ⟨z, 0, none⟩ = some u) (hf : w.frozen? ⟨z, 0, none⟩ = false) (hw : (w.setCell ⟨z, 0, none⟩ v).drew = w1) : w1.cell? ⟨z, 0, none⟩ = some v ∧ w1.frozen? ⟨z, 0, none⟩ = false := by
  subst hw
  obtain ⟨c, e, fr, hb, h0⟩ := cells_of_cell? hc
  have hl : 0 < c.size := by
    apply Classical.byContradiction
    intro h
    rw [Array.getElem?_eq_none (by omega)] at h0
    cases h0
  have e1 : ((w.setCell ⟨z, 0, none⟩ v).drew).heap[z]? = some (.cells (c.setIfInBounds 0 v) e fr) := by
    show (w.heap.modify z _)[z]? = _
    rw [Array.getElem?_modify, if_pos rfl, hb]
    rfl
  refine ⟨?_, ?_⟩
  · unfold World.cell?
    rw [e1]
    simp [hl]
  · unfold World.frozen? at hf ⊢
    rw [hb] at hf
    rw [e1]
    simpa using hf
set_option maxRecDepth 100000 in
set_option maxHeartbeats 4000000 in
theorem pow_any (x : Nat) (hx : x ≤ 100) (w : World) : Calls Try.prog 55 #[.int .i64 (x : Int)] w fun e w' => e = .returned (.int .u64 ((2 ^ bitsLen x : Nat) : Int)) ∧ w' = w := by
  have H1 := hid (len_any x hx w)
  have hl := len_le x hx
  generalize bitsLen x = k at *
  go_enter Try.func55, Try.ntmps55
  go_wp2_with fail
  refine H1.out.mono ?_
  rintro e w1 ⟨rfl, rfl⟩
  go_wp2_with fail
  go_ret
  refine ⟨congrArg (fun v => Ending.returned (Value.int .u64 v)) (?_ : IntKind.u64.wrap (2 ^ k) = _), rfl⟩
  rcases (by omega : k = 0 ∨ k = 1 ∨ k = 2 ∨ k = 3 ∨ k = 4 ∨ k = 5 ∨ k = 6 ∨ k = 7) with rfl | rfl | rfl | rfl | rfl | rfl | rfl | rfl <;> rfl
set_option maxRecDepth 100000 in
set_option maxHeartbeats 4000000 in
theorem xor_any (z : Nat) (r : Int) (w : World) (hc : w.cell? ⟨z, 0, none⟩ = some (.int .u64 r)) (hf : w.frozen? ⟨z, 0, none⟩ = false) : Calls Try.prog 56 #[.pointer (some ⟨z, 0, none⟩)] w fun e w' => ∃ r' : Int, e = .returned (.int .u64 r') ∧ ∃ n, w' = (Sort.ahead w n).setCell ⟨z, 0, none⟩ (.int .u64 r') := by
  go_enter Try.func56, Try.ntmps56
  go_wp2_with fail
  go_region
  all_goals go_wp2_with fail
  generalize bits BinOp.xor IntKind.u64 r _ = r1
  generalize hw1 : World.drew _ = w1
  obtain ⟨hc1, hf1⟩ := cell_again hc hf hw1
  have HW1 := hid hw1
  clear hw1 hc hf
  go_region
  all_goals go_wp2_with fail
  generalize bits BinOp.xor IntKind.u64 r1 _ = r2
  generalize hw2 : World.drew _ = w2
  obtain ⟨hc2, hf2⟩ := cell_again hc1 hf1 hw2
  have HW2 := hid hw2
  clear hw2 hc1 hf1
  go_region
  all_goals go_wp2_with fail
  generalize bits BinOp.xor IntKind.u64 r2 _ = r3
  go_ret
  refine ⟨r3, rfl, 1 + 1 + 1, ?_⟩
  rw [← HW2.out, ← HW1.out]
  show (Sort.ahead ((Sort.ahead ((Sort.ahead w 1).setCell ⟨z, 0, none⟩ _) 1).setCell ⟨z, 0, none⟩ _) 1).setCell ⟨z, 0, none⟩ _ = _
  rw [set_set, set_set]
end Go.Proofs.Ytcmbijckhcckpaa
