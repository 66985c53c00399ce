/- term.Joint, term.Bound, term.Agree. -/
import Derived.Test.YtfnnhekjeobicaaGreatDoorAskAll
import Derived.Test.YtfnnhekjeobicaaGreatDoorSmAll
namespace Go.Proofs.YtfnnhekjeobicaaGreatDoor
open Go.RowKit
set_option maxHeartbeats 1000000 in
theorem isKey_any (k : Bs) (w : World) : Calls Tryz.prog 59 #[St k] w fun en w' => en = .returned (.bool (Tm.isPk k.head?)) ∧ w' = w := by
  match k with
  | [] =>
    go_enter Tryz.func59, Tryz.ntmps59
    go_wp2_with fail
    go_ret
    exact ⟨rfl, rfl⟩
  | c :: t =>
    have hs : (⟨(c :: t).toArray⟩ : ByteArray).size = t.length + 1 := st_size _
    have hpos : 0 < (⟨(c :: t).toArray⟩ : ByteArray).size := by omega
    generalize hX : (⟨(c :: t).toArray⟩ : ByteArray) = X at *
    have hx0 : X[0] = c := by subst hX; rfl
    go_enter Tryz.func59, Tryz.ntmps59
    go_wp2_with fail
    refine (opens_any c _).mono ?_
    rintro e w1 ⟨rfl, rfl⟩
    go_wp2_with fail
    go_ret
    exact ⟨rfl, rfl⟩

set_option maxHeartbeats 1000000 in
theorem joints_any (a b : Bs) (w : World) : Calls Tryz.prog 37 #[St a, St b] w fun en w' => en = made (jointRes a b) ∧ Below w.heap.size w w' := by
  cases ha : Tm.isPk a.head?
  · have HR : Hid (jointRes a b = ([], 10)) := by apply hid; unfold jointRes; rw [ha]; rfl
    have HA := hid ha
    clear ha
    go_enter Tryz.func37, Tryz.ntmps37
    go_wp2_with fail
    refine (isKey_any a _).mono ?_
    rintro e w1 ⟨rfl, rfl⟩
    rw [HA.out]
    go_wp2_with fail
    go_ret2
    exact ⟨by rw [HR.out]; rfl, Below.refl _ _⟩
  · cases hb : Tm.isPk b.head?
    · have HR : Hid (jointRes a b = ([], 10)) := by apply hid; unfold jointRes; rw [ha, hb]; rfl
      have HA := hid ha
      have HB := hid hb
      clear ha hb
      go_enter Tryz.func37, Tryz.ntmps37
      go_wp2_with fail
      refine (isKey_any a _).mono ?_
      rintro e w1 ⟨rfl, rfl⟩
      rw [HA.out]
      go_wp2_with fail
      refine (isKey_any b _).mono ?_
      rintro e w1 ⟨rfl, rfl⟩
      rw [HB.out]
      go_wp2_with fail
      go_ret2
      exact ⟨by rw [HR.out]; rfl, Below.refl _ _⟩
    · have HR : Hid (jointRes a b = bRes 87 [] [a, b]) := by apply hid; unfold jointRes; rw [ha, hb]; rfl
      have HA := hid ha
      have HB := hid hb
      clear ha hb
      go_enter Tryz.func37, Tryz.ntmps37
      go_wp2_with fail
      refine (isKey_any a _).mono ?_
      rintro e w1 ⟨rfl, rfl⟩
      rw [HA.out]
      go_wp2_with fail
      refine (isKey_any b _).mono ?_
      rintro e w1 ⟨rfl, rfl⟩
      rw [HB.out]
      go_wp2_with fail
      refine (build_any 87 [] [a, b] _ _ (texts_two _ a b) (by simp) (by simp)).mono ?_
      rintro e w2 ⟨rfl, hb⟩
      have HB2 := hid (((Below.refl _ _).alloc (Nat.le_refl _) (.cells #[St a, St b] 29)).trans (hb.mono (by simp)))
      clear hb
      go_wp2_with fail
      go_ret2
      exact ⟨by rw [HR.out]; rfl, HB2.out⟩

set_option maxHeartbeats 1000000 in
theorem bounds_any (a b : Bs) (w : World) : Calls Tryz.prog 38 #[St a, St b] w fun en w' => en = made (boundRes a b) ∧ Below w.heap.size w w' := by
  cases ha : Tm.isPk a.head?
  · have HR : Hid (boundRes a b = ([], 10)) := by apply hid; unfold boundRes; rw [ha]; rfl
    have HA := hid ha
    clear ha
    go_enter Tryz.func38, Tryz.ntmps38
    go_wp2_with fail
    refine (isKey_any a _).mono ?_
    rintro e w1 ⟨rfl, rfl⟩
    rw [HA.out]
    go_wp2_with fail
    go_ret2
    exact ⟨by rw [HR.out]; rfl, Below.refl _ _⟩
  · have HR : Hid (boundRes a b = bRes 76 [] [a, b]) := by apply hid; unfold boundRes; rw [ha]; rfl
    have HA := hid ha
    clear ha
    go_enter Tryz.func38, Tryz.ntmps38
    go_wp2_with fail
    refine (isKey_any a _).mono ?_
    rintro e w1 ⟨rfl, rfl⟩
    rw [HA.out]
    go_wp2_with fail
    refine (build_any 76 [] [a, b] _ _ (texts_two _ a b) (by simp) (by simp)).mono ?_
    rintro e w2 ⟨rfl, hb⟩
    have HB2 := hid (((Below.refl _ _).alloc (Nat.le_refl _) (.cells #[St a, St b] 29)).trans (hb.mono (by simp)))
    clear hb
    go_wp2_with fail
    go_ret2
    exact ⟨by rw [HR.out]; rfl, HB2.out⟩

set_option maxHeartbeats 1000000 in
theorem tagree_pub (k t : Bs) (X : ByteArray) (hX : X = ⟨((80 : UInt8) :: t).toArray⟩) (w : World) (hd : Tm.deep (80 :: t) ≠ 0) : Calls Tryz.prog 39 #[St k, .string X] w fun en w' => en = made (agreeRes k (80 :: t)) ∧ Below w.heap.size w w' := by
  have hpos : 0 < X.size := by rw [hX, st_size]; simp
  have h1 : 1 ≤ X.size := hpos
  have hx0 : ((X[0].toNat : Int) != 80) = false := by subst hX; rfl
  have hT : X.extract 1 X.size = ⟨t.toArray⟩ := by rw [hX]; exact st_tail 80 t
  have HP : Hid ((Tm.deep X.data.toList != 0) = true) := by apply hid; rw [hX]; simpa using hd
  have HR : Hid (agreeRes k (80 :: t) = if Tm.leB k t then bRes 88 [] [k, t] else bRes 88 [] [t, k]) := by apply hid; unfold agreeRes; rw [if_neg (by simp [hd])]; rfl
  clear hX hd
  go_enter Tryz.func39, Tryz.ntmps39
  go_wp2_with fail
  refine (right_any X _).mono ?_
  rintro e w1 ⟨rfl, hb⟩
  have HB := hid hb
  clear hb
  rw [HP.out]
  go_wp2_with fail
  go_quiet (fail)
  go_wp2_with fail
  · have HL := hid (agree_ways (k := k) (t := t) (by assumption))
    refine (build_any 88 [] [t, k] _ _ (texts_two _ t k) (by simp) (by simp)).mono ?_
    rintro e w2 ⟨rfl, hb⟩
    have HB2 := hid (((below_drewN HB.out _).alloc (by have := HB.out.size; simpa using this) (.cells #[St t, St k] 29)).trans (hb.mono (by have := HB.out.size; simp; omega)))
    clear hb
    go_wp2_with fail
    go_ret2
    exact ⟨by rw [HR.out, HL.out]; rfl, HB2.out⟩
  · have HL := hid (agree_ways' (k := k) (t := t) (by assumption))
    refine (build_any 88 [] [k, t] _ _ (texts_two _ k t) (by simp) (by simp)).mono ?_
    rintro e w2 ⟨rfl, hb⟩
    have HB2 := hid (((below_drewN HB.out _).alloc (by have := HB.out.size; simpa using this) (.cells #[St k, St t] 29)).trans (hb.mono (by have := HB.out.size; simp; omega)))
    clear hb
    go_wp2_with fail
    go_ret2
    exact ⟨by rw [HR.out, HL.out]; rfl, HB2.out⟩

set_option maxHeartbeats 1000000 in
theorem tagree_not (k t : Bs) (c : UInt8) (X : ByteArray) (hX : X = ⟨(c :: t).toArray⟩) (w : World) (hd : Tm.deep (c :: t) ≠ 0) (hc : c ≠ 80) : Calls Tryz.prog 39 #[St k, .string X] w fun en w' => en = made (agreeRes k (c :: t)) ∧ Below w.heap.size w w' := by
  have hpos : 0 < X.size := by rw [hX, st_size]; simp
  have h1 : 1 ≤ X.size := hpos
  have hx0 : ((X[0].toNat : Int) != 80) = true := by subst hX; show ((c.toNat : Int) != 80) = true; simp; intro h; exact hc (UInt8.toNat_inj.1 (by simp; omega))
  have HP : Hid ((Tm.deep X.data.toList != 0) = true) := by apply hid; rw [hX]; simpa using hd
  have HR : Hid (agreeRes k (c :: t) = ([], 10)) := by apply hid; unfold agreeRes; rw [if_pos (Or.inr (by simp [hc]))]
  clear hX hd hc
  go_enter Tryz.func39, Tryz.ntmps39
  go_wp2_with fail
  refine (right_any X _).mono ?_
  rintro e w1 ⟨rfl, hb⟩
  have HB := hid hb
  clear hb
  rw [HP.out]
  go_wp2_with fail
  go_ret2
  exact ⟨by rw [HR.out]; rfl, HB.out⟩

set_option maxHeartbeats 1000000 in
theorem tagree_any (k p : Bs) (w : World) : Calls Tryz.prog 39 #[St k, St p] w fun en w' => en = made (agreeRes k p) ∧ Below w.heap.size w w' := by
  by_cases hp : Tm.deep p = 0
  · have HR : Hid (agreeRes k p = ([], 10)) := by apply hid; unfold agreeRes; rw [if_pos (Or.inl hp)]
    have HP : Hid ((Tm.deep p != 0) = false) := by apply hid; simpa using hp
    clear hp
    go_enter Tryz.func39, Tryz.ntmps39
    go_wp2_with fail
    refine (right_list p _).mono ?_
    rintro e w1 ⟨rfl, hb⟩
    have HB := hid hb
    clear hb
    rw [HP.out]
    go_wp2_with fail
    go_ret2
    exact ⟨by rw [HR.out]; rfl, HB.out⟩
  · match p with
    | [] => exact absurd rfl hp
    | c :: t =>
      by_cases hc : c = 80
      · subst hc; exact tagree_pub k t _ rfl w hp
      · exact tagree_not k t c _ rfl w hp hc
end Go.Proofs.YtfnnhekjeobicaaGreatDoor
