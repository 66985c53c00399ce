/- Whether a lock fits its kind. -/
import Derived.Test.YtdllpklecdmghaaGreatDoorLkA
namespace Go.Proofs.YtdllpklecdmghaaGreatDoor
open Go.RowKit
open Lk (Lt)

def fitV (kd : Nat) (t : Bs) (n : Int) (m : Nat) : Bool :=
  if kd = 1 then decide (n = 0) && decide (m = 0) && Lk.isKey t
  else if kd = 2 then decide (n = 0) && decide (m = 0) && Lk.isOp t 72
  else if kd = 3 ∨ kd = 4 then decide (t.length = 0) && decide (m = 0) && decide (0 ≤ n) && decide (n ≤ 1073741823)
  else if kd = 5 ∨ kd = 6 then decide (t.length = 0) && decide (n = 0) && decide (m ≠ 0) && decide (m ≤ 8)
  else false
theorem fit_is (l : Lt) : Lk.fit l = fitV l.kind l.term l.n l.kids.length := rfl
theorem below_al (w : World) (o : Obj) : Below w.heap.size w (w.alloc o) := (Below.refl w.heap.size w).alloc (Nat.le_refl _) o
theorem below_ad (w : World) (o : Obj) (n : Nat) : Below w.heap.size w ((w.alloc o).drewN n) :=
  ⟨rfl, rfl, rfl, (below_al w o).size, fun j hj => (below_al w o).block j hj⟩
set_option maxHeartbeats 4000000 in
theorem fits_any (kd : Nat) (t : Bs) (n : Int) (ao : Option Addr) (m cap : Nat) (w : World) : Calls Tryz.prog 59 #[.agg #[.int .u8 (kd : Int), St t, .int .i64 n, .slice ao m cap]] w fun e w' => e = .returned (.bool (fitV kd t n m)) ∧ Below w.heap.size w w' := by
  obtain ⟨R, hR⟩ : ∃ R, R = fitV kd t n m := ⟨_, rfl⟩
  rw [← hR]
  unfold fitV at hR
  have HK : Hid (∀ W, Below w.heap.size w W → Calls Tryz.prog 79 #[St t] W fun e w' => e = .returned (.bool (Lk.isKey t)) ∧ Below w.heap.size w w') := hid (fun W hW => (key_is t W).mono (fun e w' ⟨h1, h2⟩ => ⟨h1, hW.trans (h2.mono hW.size)⟩))
  have HO : Hid (∀ W, Below w.heap.size w W → Calls Tryz.prog 80 #[St t] W fun e w' => e = .returned (.int .u8 (opF t : Int)) ∧ Below w.heap.size w w') := hid (fun W hW => (op_any t W).mono (fun e w' ⟨h1, h2⟩ => ⟨h1, hW.trans (h2.mono hW.size)⟩))
  have HOH := hid (opF_hash t)
  generalize opF t = ot at *
  generalize Lk.isOp t 72 = oh at *
  by_cases k1 : kd = 1
  · subst k1
    rw [if_pos rfl] at hR
    have HR := hid hR
    clear hR
    go_enter Tryz.func59, Tryz.ntmps59
    go_wp2_with fail
    go_quiet (fail)
    go_wp2_with fail
    all_goals first
      | (refine (HK.out _ (below_ad _ _ _)).mono ?_
         rintro e w1 ⟨rfl, hb⟩
         have HB := hid hb
         clear hb
         go_wp2_with fail
         go_ret
         exact ⟨by rw [HR.out]; simp [*], HB.out⟩)
      | (go_ret
         exact ⟨by rw [HR.out]; simp [*], below_ad _ _ _⟩)
  · by_cases k2 : kd = 2
    · subst k2
      rw [if_neg (by omega), if_pos rfl] at hR
      have HR := hid hR
      clear hR
      go_enter Tryz.func59, Tryz.ntmps59
      go_wp2_with fail
      go_quiet (fail)
      go_wp2_with fail
      all_goals first
        | (refine (HO.out _ (below_ad _ _ _)).mono ?_
           rintro e w1 ⟨rfl, hb⟩
           have HB := hid hb
           clear hb
           go_wp2_with fail
           go_ret
           refine ⟨?_, HB.out⟩
           rw [HR.out, ← HOH.out]
           simp [*]
           rfl)
        | (go_ret
           exact ⟨by rw [HR.out]; simp [*], below_ad _ _ _⟩)
    · by_cases k3 : kd = 3 ∨ kd = 4
      · rw [if_neg k1, if_neg k2, if_pos k3] at hR
        have HR := hid hR
        clear hR
        rcases k3 with rfl | rfl
        all_goals
          go_enter Tryz.func59, Tryz.ntmps59
          go_wp2_with fail
          go_quiet (fail)
          go_wp2_with fail
          all_goals
            go_ret
            exact ⟨by rw [HR.out]; first | (simp [*]; done) | (simp [*]; omega), below_ad _ _ _⟩
      · by_cases k5 : kd = 5 ∨ kd = 6
        · rw [if_neg k1, if_neg k2, if_neg k3, if_pos k5] at hR
          have HR := hid hR
          clear hR
          rcases k5 with rfl | rfl
          all_goals
            go_enter Tryz.func59, Tryz.ntmps59
            go_wp2_with fail
            go_quiet (fail)
            go_wp2_with fail
            all_goals
              go_ret
              exact ⟨by rw [HR.out]; first | (simp [*]; done) | (simp [*]; rw [Bool.eq_iff_iff]; simp; omega), below_ad _ _ _⟩
        · rw [if_neg k1, if_neg k2, if_neg k3, if_neg k5] at hR
          have HR := hid hR
          clear hR
          have i1 : ¬ (kd : Int) = 1 := by omega
          have i2 : ¬ (kd : Int) = 2 := by omega
          have i3 : ¬ (kd : Int) = 3 := by omega
          have i4 : ¬ (kd : Int) = 4 := by omega
          have i5 : ¬ (kd : Int) = 5 := by omega
          have i6 : ¬ (kd : Int) = 6 := by omega
          clear k1 k2 k3 k5
          go_enter Tryz.func59, Tryz.ntmps59
          go_wp2_with fail
          go_quiet (fail)
          go_wp2_with fail
          go_ret
          exact ⟨by rw [HR.out]; rfl, below_ad _ _ _⟩
end Go.Proofs.YtdllpklecdmghaaGreatDoor
