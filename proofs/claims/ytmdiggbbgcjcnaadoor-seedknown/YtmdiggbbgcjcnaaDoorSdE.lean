/- How many bits are 0, from the lowest one on. -/
import Derived.Test.YtmdiggbbgcjcnaaDoorSdD
import Derived.Shelf.Spec.TrailingZeros
namespace Go.Proofs.YtmdiggbbgcjcnaaDoor
open Go.RowKit

/-- the table lies there -/
def Tz (w : World) : Prop := TabAt 0 Lib.deBruijn64tab w
theorem Tz.below {w w' : World} (h : Tz w) (hb : Below w.heap.size w w') : Tz w' := by
  intro j hj
  have h1 := h j hj
  have hlt : 0 < w.heap.size := by
    apply Classical.byContradiction
    intro hn
    have : w.heap[0]? = none := Array.getElem?_eq_none (by omega)
    simp [World.cell?, this] at h1
  exact (hb.cell (p := ⟨0, j, none⟩) hlt).trans h1

set_option maxHeartbeats 1000000 in
theorem tz_core (x k idx : Nat) (w : World) (hx0 : ((x : Int) == 0) = false)
    (key : IntKind.u64.wrap (bits BinOp.and IntKind.u64 (x : Int) (IntKind.u64.wrap (-(x : Int))) * 285870213051353865) / 288230376151711744 = (idx : Int))
    (hi : idx < 64) (hk : k < 64) (hcell : w.cell? ⟨0, idx, none⟩ = some (.int .u8 k)) :
    Calls Tryd.prog 37 #[.int .u64 x] w fun e w' => e = .returned (.int .i64 k) ∧ w' = w := by
  go_enter Tryd.func37, Tryd.ntmps37
  go_wp2_with (simp only [key])
  go_ret
  exact ⟨rfl, rfl⟩
set_option maxHeartbeats 1000000 in
theorem tz_zero (w : World) : Calls Tryd.prog 37 #[.int .u64 0] w fun e w' => e = .returned (.int .i64 64) ∧ w' = w := by
  go_enter Tryd.func37, Tryd.ntmps37
  go_wp2
  go_ret
  exact ⟨rfl, rfl⟩
theorem tz_any (x : Nat) (hx : x < 18446744073709551616) (w : World) (hT : Tz w) :
    Calls Tryd.prog 37 #[.int .u64 x] w fun e w' => e = .returned (.int .i64 (Lib.ctz 64 x)) ∧ w' = w := by
  by_cases hx0 : x = 0
  · subst hx0
    exact tz_zero w
  · obtain ⟨hlow, hk⟩ := Lib.lowest_bit 64 x hx0 hx
    obtain ⟨hi, htab⟩ := Lib.deBruijn64_at _ hk
    have hcell := hT _ hi
    rw [htab] at hcell
    exact tz_core x _ _ w (by simp; omega) (tz64_key x _ hx hx0 hlow) hi hk hcell

theorem low_ctz {i : Nat} (hi : i < 2 ^ 20) : min (Lib.ctz 64 i) 20 = Sd.low i := by
  obtain ⟨h1, h2, h3⟩ := Sd.low_is i
  by_cases h0 : i = 0
  · subst h0
    have : Sd.low 0 = 20 := by
      apply Classical.byContradiction
      intro hn
      have := h3 (by omega)
      simp at this
    rw [this]; decide
  · have hc : Lib.ctz 64 i = Lib.ctzFrom 64 i := by unfold Lib.ctz; rw [if_neg h0]
    obtain ⟨m, hm, _⟩ := Lib.ctzFrom_spec 64 i (by omega) (by omega)
    rw [hc]
    generalize Lib.ctzFrom 64 i = z at hm
    have hz : i.testBit z = true := by
      rw [hm, Nat.testBit_two_pow_mul]; simp [Nat.testBit_zero]
    have hzl : ∀ b, b < z → i.testBit b = false := fun b hb => by
      rw [hm, Nat.testBit_two_pow_mul]; simp [show ¬ z ≤ b by omega]
    have hz20 : z < 20 := by
      apply Classical.byContradiction
      intro hn
      have h4 : 2 ^ 20 ≤ 2 ^ z := Nat.pow_le_pow_right (by omega) (by omega)
      have h5 : 2 ^ z ≤ 2 ^ z * (2 * m + 1) := Nat.le_mul_of_pos_right _ (by omega)
      omega
    have hlz : Sd.low i ≤ z := by
      apply Classical.byContradiction
      intro hn
      have := h2 z (by omega)
      rw [hz] at this; cases this
    have hzl2 : z ≤ Sd.low i := by
      apply Classical.byContradiction
      intro hn
      have h6 := h3 (by omega)
      rw [hzl _ (by omega)] at h6; cases h6
    omega
end Go.Proofs.YtmdiggbbgcjcnaaDoor
