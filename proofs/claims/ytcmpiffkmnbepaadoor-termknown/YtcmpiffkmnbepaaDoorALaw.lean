/- What TermAgrees answers. -/
import Derived.Test.YtcmpiffkmnbepaaDoorWorks
import Derived.Test.YtcmpiffkmnbepaaDoorLaws
namespace Go.Proofs.YtcmpiffkmnbepaaDoor
open Go.RowKit

theorem pk_head {a : Bs} (ha : Tm.deep a ≠ 0) : ∃ c t, Tm.pk a = c :: t ∧ (c = 80 → t = a) := by
  obtain ⟨hi, _⟩ := Tm.deep_is ha
  have hd := Tm.deep_le a
  match a, hi with
  | [], hi => exact absurd rfl hi.2.1
  | x :: l, hi =>
    by_cases c1 : x = 86
    · subst c1
      obtain ⟨a1, a2, p, q, hp, hq, rfl, hm⟩ := Tm.is_inv_two hi (by decide)
      exact ⟨87, _, Tm.pk_join hp hq (by omega) (by omega), fun e => absurd e (by decide)⟩
    · by_cases c2 : x = 75
      · subst c2
        obtain ⟨a1, a2, p, q, hp, hq, rfl, hm⟩ := Tm.is_inv_two hi (by decide)
        exact ⟨76, _, Tm.pk_bind hp hq (by omega) (by omega), fun e => absurd e (by decide)⟩
      · exact ⟨80, _, Tm.pk_else hi hd (by simp [c1]) (by simp [c2]), fun _ => rfl⟩

theorem agree_of {k t : Bs} (h : Tm.deep (80 :: t) ≠ 0) : agreeRes k (80 :: t) = if Tm.leB k t then bRes 88 [] [k, t] else bRes 88 [] [t, k] := by
  unfold agreeRes; rw [if_neg (by simp [h])]; rfl
theorem agree_no {k t : Bs} {c : UInt8} (h : c ≠ 80) : agreeRes k (c :: t) = ([], 10) := by
  unfold agreeRes; rw [if_pos (Or.inr (by simp [h]))]

theorem agree_sym {a b : Bs} (ha : Tm.deep (80 :: a) ≠ 0) (hb : Tm.deep (80 :: b) ≠ 0) : agreeRes a (80 :: b) = agreeRes b (80 :: a) := by
  rw [agree_of hb, agree_of ha]
  cases h1 : Tm.leB a b
  · rw [Tm.leB_total h1]; rfl
  · cases h2 : Tm.leB b a
    · rfl
    · rw [Tm.leB_anti h1 h2]

theorem agree_ok {k t : Bs} (h : Tm.deep (80 :: t) ≠ 0) (ok : (agreeRes k (80 :: t)).2 = 0) : ∃ p q, agreeRes k (80 :: t) = (88 :: (p ++ q), 0) ∧ Tm.deep p ≠ 0 ∧ Tm.deep q ≠ 0 ∧ (p = k ∧ q = t ∨ p = t ∧ q = k) := by
  rw [agree_of h] at ok ⊢
  split at ok
  · rename_i hl
    obtain ⟨r, h1, h2, _⟩ := bRes_two_ok ok
    rw [if_pos hl]
    exact ⟨k, t, r, h1, h2, Or.inl ⟨rfl, rfl⟩⟩
  · rename_i hl
    obtain ⟨r, h1, h2, _⟩ := bRes_two_ok ok
    rw [if_neg hl]
    exact ⟨t, k, r, h1, h2, Or.inr ⟨rfl, rfl⟩⟩

/-- a third agrees on the same only if it is the first -/
theorem agree_third {a b c : Bs} (hb : Tm.deep (80 :: b) ≠ 0) (o1 : (agreeRes a (80 :: b)).2 = 0) (o2 : (agreeRes c (80 :: b)).2 = 0) : ((agreeRes c (80 :: b)).1 == (agreeRes a (80 :: b)).1) = (c == a) := by
  rw [Bool.eq_iff_iff]
  simp only [beq_iff_eq]
  constructor
  · intro h
    obtain ⟨p, q, r1, hp, hq, w1⟩ := agree_ok hb o1
    obtain ⟨p', q', r2, hp', hq', w2⟩ := agree_ok hb o2
    rw [r1, r2] at h
    have h' : p' ++ q' = p ++ q := (List.cons.inj h).2
    obtain ⟨e1, e2, _⟩ := Tm.is_uniq (Tm.deep_is hp').1 (Tm.deep_is hp).1 h'
    rcases w1 with ⟨w1, w3⟩ | ⟨w1, w3⟩ <;> rcases w2 with ⟨w2, w4⟩ | ⟨w2, w4⟩
    · rw [← w2, ← w1, e1]
    · rw [← w4, e2, w3, ← w2, e1, w1]
    · rw [← w2, e1, w1, ← w4, e2, w3]
    · rw [← w4, ← w3, e2]
  · intro h; rw [h]

set_option maxHeartbeats 2000000 in
theorem agr_big (a b c : Bs) (w : World) (h1 : a.length ≤ 140737488355328) (h2 : b.length ≤ 140737488355328) (h3 : c.length ≤ 140737488355328) (hs : 5000 < a.length + b.length + c.length) :
    Calls Tryd.prog 8 #[St a, St b, St c] w fun en w' => en = .returned (.bool true) ∧ Below w.heap.size w w' := by
  have e1 : (⟨a.toArray⟩ : ByteArray).size = a.length := st_size a
  have e2 : (⟨b.toArray⟩ : ByteArray).size = b.length := st_size b
  have e3 : (⟨c.toArray⟩ : ByteArray).size = c.length := st_size c
  have hs' : (5000 : Int) < (a.length : Int) + (b.length : Int) + (c.length : Int) := by omega
  go_enter Tryd.func8, Tryd.ntmps8
  go_wp2_with fail
  go_ret
  exact ⟨rfl, Below.refl _ _⟩

set_option maxHeartbeats 2000000 in
theorem agr_err (a b c : Bs) (w : World) (hs : a.length + b.length + c.length ≤ 5000) (ok : ¬ ((pubRes a).2 = 0 ∧ (pubRes b).2 = 0)) :
    Calls Tryd.prog 8 #[St a, St b, St c] w fun en w' => en = .returned (.bool true) ∧ Below w.heap.size w w' := by
  have e1 : (⟨a.toArray⟩ : ByteArray).size = a.length := st_size a
  have e2 : (⟨b.toArray⟩ : ByteArray).size = b.length := st_size b
  have e3 : (⟨c.toArray⟩ : ByteArray).size = c.length := st_size c
  have hs' : ¬ (5000 : Int) < (a.length : Int) + (b.length : Int) + (c.length : Int) := by omega
  have hl1 : a.length ≤ 5000 := by omega
  have hl2 : b.length ≤ 5000 := by omega
  have hl3 : c.length ≤ 5000 := by omega
  obtain ⟨r1, hr1⟩ : ∃ r, pubRes a = r := ⟨_, rfl⟩
  obtain ⟨r2, hr2⟩ : ∃ r, pubRes b = r := ⟨_, rfl⟩
  rw [hr1, hr2] at ok
  have R1 := hid hr1
  have R2 := hid hr2
  clear hr1 hr2
  obtain ⟨t1, n1⟩ := r1
  obtain ⟨t2, n2⟩ := r2
  simp only at ok
  by_cases o1 : n1 = 0
  · have b1 : ((n1 : Int) != 0) = false := by simp [o1]
    have o2 : n2 ≠ 0 := fun e => ok ⟨o1, e⟩
    have b2 : ((n2 : Int) != 0) = true := by simp [o2]
    clear ok o1 o2
    go_enter Tryd.func8, Tryd.ntmps8
    go_wp2_with fail
    refine (pubs_any a _).mono ?_
    rintro e w3 ⟨rfl, hb⟩
    have HB3 := hid hb
    clear hb
    rw [R1.out]
    go_wp2_with fail
    refine (pubs_any b _).mono ?_
    rintro e w4 ⟨rfl, hb⟩
    have HB4 := hid (HB3.out.trans (hb.mono HB3.out.size))
    clear hb HB3
    rw [R2.out]
    go_wp2_with fail
    refine (works_any _).mono ?_
    rintro e w5 ⟨rfl, hb⟩
    have HB5 := hid (HB4.out.trans (hb.mono HB4.out.size))
    clear hb HB4
    go_wp2_with fail
    go_ret
    exact ⟨rfl, HB5.out⟩
  · have b1 : ((n1 : Int) != 0) = true := by simp [o1]
    clear ok o1
    go_enter Tryd.func8, Tryd.ntmps8
    go_wp2_with fail
    refine (pubs_any a _).mono ?_
    rintro e w3 ⟨rfl, hb⟩
    have HB3 := hid hb
    clear hb
    rw [R1.out]
    go_wp2_with fail
    refine (pubs_any b _).mono ?_
    rintro e w4 ⟨rfl, hb⟩
    have HB4 := hid (HB3.out.trans (hb.mono HB3.out.size))
    clear hb HB3
    rw [R2.out]
    go_wp2_with fail
    refine (works_any _).mono ?_
    rintro e w5 ⟨rfl, hb⟩
    have HB5 := hid (HB4.out.trans (hb.mono HB4.out.size))
    clear hb HB4
    go_wp2_with fail
    go_ret
    exact ⟨rfl, HB5.out⟩

set_option maxHeartbeats 4000000 in
theorem agr_nn (a b c : Bs) (ca : UInt8) (cb : UInt8) (ta tb : Bs) (w : World) (hs : a.length + b.length + c.length ≤ 5000) (na : ca ≠ 80) (nb : cb ≠ 80) (r1 : pubRes a = (ca :: ta, 0)) (r2 : pubRes b = (cb :: tb, 0)) :
    Calls Tryd.prog 8 #[St a, St b, St c] w fun en w' => en = .returned (.bool true) ∧ Below w.heap.size w w' := by
  have e1 : (⟨a.toArray⟩ : ByteArray).size = a.length := st_size a
  have e2 : (⟨b.toArray⟩ : ByteArray).size = b.length := st_size b
  have e3 : (⟨c.toArray⟩ : ByteArray).size = c.length := st_size c
  have hs' : ¬ (5000 : Int) < (a.length : Int) + (b.length : Int) + (c.length : Int) := by omega
  have hl1 : a.length ≤ 5000 := by omega
  have hl2 : b.length ≤ 5000 := by omega
  have hl3 : c.length ≤ 5000 := by omega
  have xa : 0 < (⟨(ca :: ta).toArray⟩ : ByteArray).size := by rw [st_size]; simp
  have ya : ∀ h, ((((⟨(ca :: ta).toArray⟩ : ByteArray)[0]'h).toNat : Int) != 80) = true := fun h => (by show ((ca.toNat : Int) != 80) = true; simp; intro h; exact na (UInt8.toNat_inj.1 (by simp; omega)))
  have za : ∀ h, ((((⟨(ca :: ta).toArray⟩ : ByteArray)[0]'h).toNat : Int) == 80) = false := fun h => (by show ((ca.toNat : Int) == 80) = false; simp; intro h; exact na (UInt8.toNat_inj.1 (by simp; omega)))
  have xb : 0 < (⟨(cb :: tb).toArray⟩ : ByteArray).size := by rw [st_size]; simp
  have yb : ∀ h, ((((⟨(cb :: tb).toArray⟩ : ByteArray)[0]'h).toNat : Int) != 80) = true := fun h => (by show ((cb.toNat : Int) != 80) = true; simp; intro h; exact nb (UInt8.toNat_inj.1 (by simp; omega)))
  have zb : ∀ h, ((((⟨(cb :: tb).toArray⟩ : ByteArray)[0]'h).toNat : Int) == 80) = false := fun h => (by show ((cb.toNat : Int) == 80) = false; simp; intro h; exact nb (UInt8.toNat_inj.1 (by simp; omega)))
  have R1 := hid r1
  have R2 := hid r2
  have G : Hid (agreeRes a (cb :: tb) = ([], 10)) := agree_no nb
  have G2 : Hid (agreeRes b (ca :: ta) = ([], 10)) := agree_no na
  clear r1 r2 na nb
  go_enter Tryd.func8, Tryd.ntmps8
  go_wp2_with fail
  refine (pubs_any a _).mono ?_
  rintro e w1 ⟨rfl, hb⟩
  have HB1 := hid hb
  clear hb
  rw [R1.out]
  go_wp2_with fail
  refine (pubs_any b _).mono ?_
  rintro e w2 ⟨rfl, hb⟩
  have HB2 := hid (HB1.out.trans (hb.mono HB1.out.size))
  clear hb HB1
  rw [R2.out]
  go_wp2_with fail
  refine (agrees_any a (cb :: tb) _).mono ?_
  rintro e w3 ⟨rfl, hb⟩
  have HB3 := hid (HB2.out.trans (hb.mono HB2.out.size))
  clear hb HB2
  rw [G.out]
  go_wp2_with fail
  refine (agrees_any b (ca :: ta) _).mono ?_
  rintro e w4 ⟨rfl, hb⟩
  have HB4 := hid (HB3.out.trans (hb.mono HB3.out.size))
  clear hb HB3
  rw [G2.out]
  go_wp2_with fail
  refine (works_any _).mono ?_
  rintro e w5 ⟨rfl, hb⟩
  have HB5 := hid (HB4.out.trans (hb.mono HB4.out.size))
  clear hb HB4
  go_wp2_with fail
  go_ret
  exact ⟨rfl, HB5.out⟩

set_option maxHeartbeats 4000000 in
theorem agr_ny (a b c : Bs) (ca : UInt8) (ta tb : Bs) (w : World) (hs : a.length + b.length + c.length ≤ 5000) (na : ca ≠ 80) (r1 : pubRes a = (ca :: ta, 0)) (r2 : pubRes b = ((80 : UInt8) :: tb, 0)) :
    Calls Tryd.prog 8 #[St a, St b, St c] w fun en w' => en = .returned (.bool true) ∧ Below w.heap.size w w' := by
  have e1 : (⟨a.toArray⟩ : ByteArray).size = a.length := st_size a
  have e2 : (⟨b.toArray⟩ : ByteArray).size = b.length := st_size b
  have e3 : (⟨c.toArray⟩ : ByteArray).size = c.length := st_size c
  have hs' : ¬ (5000 : Int) < (a.length : Int) + (b.length : Int) + (c.length : Int) := by omega
  have hl1 : a.length ≤ 5000 := by omega
  have hl2 : b.length ≤ 5000 := by omega
  have hl3 : c.length ≤ 5000 := by omega
  have xa : 0 < (⟨(ca :: ta).toArray⟩ : ByteArray).size := by rw [st_size]; simp
  have ya : ∀ h, ((((⟨(ca :: ta).toArray⟩ : ByteArray)[0]'h).toNat : Int) != 80) = true := fun h => (by show ((ca.toNat : Int) != 80) = true; simp; intro h; exact na (UInt8.toNat_inj.1 (by simp; omega)))
  have za : ∀ h, ((((⟨(ca :: ta).toArray⟩ : ByteArray)[0]'h).toNat : Int) == 80) = false := fun h => (by show ((ca.toNat : Int) == 80) = false; simp; intro h; exact na (UInt8.toNat_inj.1 (by simp; omega)))
  have xb : 0 < (⟨((80 : UInt8) :: tb).toArray⟩ : ByteArray).size := by rw [st_size]; simp
  have yb : ∀ h, ((((⟨((80 : UInt8) :: tb).toArray⟩ : ByteArray)[0]'h).toNat : Int) != 80) = false := fun h => rfl
  have zb : ∀ h, ((((⟨((80 : UInt8) :: tb).toArray⟩ : ByteArray)[0]'h).toNat : Int) == 80) = true := fun h => rfl
  have R1 := hid r1
  have R2 := hid r2
  have G2 : Hid (agreeRes b (ca :: ta) = ([], 10)) := agree_no na
  clear r1 r2 na
  go_enter Tryd.func8, Tryd.ntmps8
  go_wp2_with fail
  refine (pubs_any a _).mono ?_
  rintro e w1 ⟨rfl, hb⟩
  have HB1 := hid hb
  clear hb
  rw [R1.out]
  go_wp2_with fail
  refine (pubs_any b _).mono ?_
  rintro e w2 ⟨rfl, hb⟩
  have HB2 := hid (HB1.out.trans (hb.mono HB1.out.size))
  clear hb HB1
  rw [R2.out]
  obtain ⟨⟨x1, g1⟩, hX⟩ : ∃ r, agreeRes a ((80 : UInt8) :: tb) = r := ⟨_, rfl⟩
  have HX := hid hX
  clear hX
  go_wp2_with fail
  refine (agrees_any a ((80 : UInt8) :: tb) _).mono ?_
  rintro e w3 ⟨rfl, hb⟩
  have HB3 := hid (HB2.out.trans (hb.mono HB2.out.size))
  clear hb HB2
  rw [HX.out]
  go_wp2_with fail
  refine (agrees_any b (ca :: ta) _).mono ?_
  rintro e w4 ⟨rfl, hb⟩
  have HB4 := hid (HB3.out.trans (hb.mono HB3.out.size))
  clear hb HB3
  rw [G2.out]
  go_wp2_with fail
  refine (works_any _).mono ?_
  rintro e w5 ⟨rfl, hb⟩
  have HB5 := hid (HB4.out.trans (hb.mono HB4.out.size))
  clear hb HB4
  go_wp2_with fail
  go_ret
  exact ⟨rfl, HB5.out⟩

set_option maxHeartbeats 4000000 in
theorem agr_yn (a b c : Bs) (cb : UInt8) (ta tb : Bs) (w : World) (hs : a.length + b.length + c.length ≤ 5000) (nb : cb ≠ 80) (r1 : pubRes a = ((80 : UInt8) :: ta, 0)) (r2 : pubRes b = (cb :: tb, 0)) :
    Calls Tryd.prog 8 #[St a, St b, St c] w fun en w' => en = .returned (.bool true) ∧ Below w.heap.size w w' := by
  have e1 : (⟨a.toArray⟩ : ByteArray).size = a.length := st_size a
  have e2 : (⟨b.toArray⟩ : ByteArray).size = b.length := st_size b
  have e3 : (⟨c.toArray⟩ : ByteArray).size = c.length := st_size c
  have hs' : ¬ (5000 : Int) < (a.length : Int) + (b.length : Int) + (c.length : Int) := by omega
  have hl1 : a.length ≤ 5000 := by omega
  have hl2 : b.length ≤ 5000 := by omega
  have hl3 : c.length ≤ 5000 := by omega
  have xa : 0 < (⟨((80 : UInt8) :: ta).toArray⟩ : ByteArray).size := by rw [st_size]; simp
  have ya : ∀ h, ((((⟨((80 : UInt8) :: ta).toArray⟩ : ByteArray)[0]'h).toNat : Int) != 80) = false := fun h => rfl
  have za : ∀ h, ((((⟨((80 : UInt8) :: ta).toArray⟩ : ByteArray)[0]'h).toNat : Int) == 80) = true := fun h => rfl
  have xb : 0 < (⟨(cb :: tb).toArray⟩ : ByteArray).size := by rw [st_size]; simp
  have yb : ∀ h, ((((⟨(cb :: tb).toArray⟩ : ByteArray)[0]'h).toNat : Int) != 80) = true := fun h => (by show ((cb.toNat : Int) != 80) = true; simp; intro h; exact nb (UInt8.toNat_inj.1 (by simp; omega)))
  have zb : ∀ h, ((((⟨(cb :: tb).toArray⟩ : ByteArray)[0]'h).toNat : Int) == 80) = false := fun h => (by show ((cb.toNat : Int) == 80) = false; simp; intro h; exact nb (UInt8.toNat_inj.1 (by simp; omega)))
  have R1 := hid r1
  have R2 := hid r2
  have G : Hid (agreeRes a (cb :: tb) = ([], 10)) := agree_no nb
  clear r1 r2 nb
  go_enter Tryd.func8, Tryd.ntmps8
  go_wp2_with fail
  refine (pubs_any a _).mono ?_
  rintro e w1 ⟨rfl, hb⟩
  have HB1 := hid hb
  clear hb
  rw [R1.out]
  go_wp2_with fail
  refine (pubs_any b _).mono ?_
  rintro e w2 ⟨rfl, hb⟩
  have HB2 := hid (HB1.out.trans (hb.mono HB1.out.size))
  clear hb HB1
  rw [R2.out]
  go_wp2_with fail
  refine (agrees_any a (cb :: tb) _).mono ?_
  rintro e w3 ⟨rfl, hb⟩
  have HB3 := hid (HB2.out.trans (hb.mono HB2.out.size))
  clear hb HB2
  rw [G.out]
  obtain ⟨⟨y1, h1⟩, hY⟩ : ∃ r, agreeRes b ((80 : UInt8) :: ta) = r := ⟨_, rfl⟩
  have HY := hid hY
  clear hY
  go_wp2_with fail
  refine (agrees_any b ((80 : UInt8) :: ta) _).mono ?_
  rintro e w4 ⟨rfl, hb⟩
  have HB4 := hid (HB3.out.trans (hb.mono HB3.out.size))
  clear hb HB3
  rw [HY.out]
  go_wp2_with fail
  refine (works_any _).mono ?_
  rintro e w5 ⟨rfl, hb⟩
  have HB5 := hid (HB4.out.trans (hb.mono HB4.out.size))
  clear hb HB4
  go_wp2_with fail
  go_ret
  exact ⟨rfl, HB5.out⟩

set_option maxHeartbeats 4000000 in
theorem agr_yy (a b c : Bs) (ta tb : Bs) (w : World) (hs : a.length + b.length + c.length ≤ 5000) (r1 : pubRes a = ((80 : UInt8) :: ta, 0)) (r2 : pubRes b = ((80 : UInt8) :: tb, 0)) (E1 : agreeRes a (80 :: tb) = agreeRes b (80 :: ta)) (E2 : (agreeRes a (80 :: tb)).2 = 0 → (agreeRes c (80 :: tb)).2 = 0 → ((agreeRes c (80 :: tb)).1 == (agreeRes a (80 :: tb)).1) = (c == a)) :
    Calls Tryd.prog 8 #[St a, St b, St c] w fun en w' => en = .returned (.bool true) ∧ Below w.heap.size w w' := by
  have e1 : (⟨a.toArray⟩ : ByteArray).size = a.length := st_size a
  have e2 : (⟨b.toArray⟩ : ByteArray).size = b.length := st_size b
  have e3 : (⟨c.toArray⟩ : ByteArray).size = c.length := st_size c
  have hs' : ¬ (5000 : Int) < (a.length : Int) + (b.length : Int) + (c.length : Int) := by omega
  have hl1 : a.length ≤ 5000 := by omega
  have hl2 : b.length ≤ 5000 := by omega
  have hl3 : c.length ≤ 5000 := by omega
  have xa : 0 < (⟨((80 : UInt8) :: ta).toArray⟩ : ByteArray).size := by rw [st_size]; simp
  have ya : ∀ h, ((((⟨((80 : UInt8) :: ta).toArray⟩ : ByteArray)[0]'h).toNat : Int) != 80) = false := fun h => rfl
  have za : ∀ h, ((((⟨((80 : UInt8) :: ta).toArray⟩ : ByteArray)[0]'h).toNat : Int) == 80) = true := fun h => rfl
  have xb : 0 < (⟨((80 : UInt8) :: tb).toArray⟩ : ByteArray).size := by rw [st_size]; simp
  have yb : ∀ h, ((((⟨((80 : UInt8) :: tb).toArray⟩ : ByteArray)[0]'h).toNat : Int) != 80) = false := fun h => rfl
  have zb : ∀ h, ((((⟨((80 : UInt8) :: tb).toArray⟩ : ByteArray)[0]'h).toNat : Int) == 80) = true := fun h => rfl
  have R1 := hid r1
  have R2 := hid r2
  clear r1 r2
  obtain ⟨⟨x1, g1⟩, hX⟩ : ∃ r, agreeRes a (80 :: tb) = r := ⟨_, rfl⟩
  obtain ⟨⟨z1, i1⟩, hZ⟩ : ∃ r, agreeRes c (80 :: tb) = r := ⟨_, rfl⟩
  rw [hX] at E1 E2
  rw [hZ] at E2
  have HX := hid hX
  have HY := hid E1.symm
  have HZ := hid hZ
  clear hX hZ E1
  simp only at E2
  by_cases o1 : i1 = 0
  · have b1 : ((i1 : Int) != 0) = false := by simp [o1]
    by_cases o2 : g1 = 0
    · have b2 : ((g1 : Int) != 0) = false := by simp [o2]
      have b3 := E2 o2 o1
      clear E2 o1 o2
      go_enter Tryd.func8, Tryd.ntmps8
      go_wp2_with fail
      refine (pubs_any a _).mono ?_
      rintro e w1 ⟨rfl, hb⟩
      have HB1 := hid hb
      clear hb
      rw [R1.out]
      go_wp2_with fail
      refine (pubs_any b _).mono ?_
      rintro e w2 ⟨rfl, hb⟩
      have HB2 := hid (HB1.out.trans (hb.mono HB1.out.size))
      clear hb HB1
      rw [R2.out]
      go_wp2_with fail
      refine (agrees_any a ((80 : UInt8) :: tb) _).mono ?_
      rintro e w3 ⟨rfl, hb⟩
      have HB3 := hid (HB2.out.trans (hb.mono HB2.out.size))
      clear hb HB2
      rw [HX.out]
      go_wp2_with fail
      refine (agrees_any b ((80 : UInt8) :: ta) _).mono ?_
      rintro e w4 ⟨rfl, hb⟩
      have HB4 := hid (HB3.out.trans (hb.mono HB3.out.size))
      clear hb HB3
      rw [HY.out]
      go_wp2_with fail
      refine (agrees_any c ((80 : UInt8) :: tb) _).mono ?_
      rintro e w5 ⟨rfl, hb⟩
      have HB5 := hid (HB4.out.trans (hb.mono HB4.out.size))
      clear hb HB4
      rw [HZ.out]
      go_wp2_with fail
      refine (works_any _).mono ?_
      rintro e w6 ⟨rfl, hb⟩
      have HB6 := hid (HB5.out.trans (hb.mono HB5.out.size))
      clear hb HB5
      go_wp2_with fail
      go_ret
      exact ⟨rfl, HB6.out⟩
    · have b2 : ((g1 : Int) != 0) = true := by simp [o2]
      clear E2 o1 o2
      go_enter Tryd.func8, Tryd.ntmps8
      go_wp2_with fail
      refine (pubs_any a _).mono ?_
      rintro e w1 ⟨rfl, hb⟩
      have HB1 := hid hb
      clear hb
      rw [R1.out]
      go_wp2_with fail
      refine (pubs_any b _).mono ?_
      rintro e w2 ⟨rfl, hb⟩
      have HB2 := hid (HB1.out.trans (hb.mono HB1.out.size))
      clear hb HB1
      rw [R2.out]
      go_wp2_with fail
      refine (agrees_any a ((80 : UInt8) :: tb) _).mono ?_
      rintro e w3 ⟨rfl, hb⟩
      have HB3 := hid (HB2.out.trans (hb.mono HB2.out.size))
      clear hb HB2
      rw [HX.out]
      go_wp2_with fail
      refine (agrees_any b ((80 : UInt8) :: ta) _).mono ?_
      rintro e w4 ⟨rfl, hb⟩
      have HB4 := hid (HB3.out.trans (hb.mono HB3.out.size))
      clear hb HB3
      rw [HY.out]
      go_wp2_with fail
      refine (agrees_any c ((80 : UInt8) :: tb) _).mono ?_
      rintro e w5 ⟨rfl, hb⟩
      have HB5 := hid (HB4.out.trans (hb.mono HB4.out.size))
      clear hb HB4
      rw [HZ.out]
      go_wp2_with fail
      refine (works_any _).mono ?_
      rintro e w6 ⟨rfl, hb⟩
      have HB6 := hid (HB5.out.trans (hb.mono HB5.out.size))
      clear hb HB5
      go_wp2_with fail
      go_ret
      exact ⟨rfl, HB6.out⟩
  · have b1 : ((i1 : Int) != 0) = true := by simp [o1]
    clear E2 o1
    go_enter Tryd.func8, Tryd.ntmps8
    go_wp2_with fail
    refine (pubs_any a _).mono ?_
    rintro e w1 ⟨rfl, hb⟩
    have HB1 := hid hb
    clear hb
    rw [R1.out]
    go_wp2_with fail
    refine (pubs_any b _).mono ?_
    rintro e w2 ⟨rfl, hb⟩
    have HB2 := hid (HB1.out.trans (hb.mono HB1.out.size))
    clear hb HB1
    rw [R2.out]
    go_wp2_with fail
    refine (agrees_any a ((80 : UInt8) :: tb) _).mono ?_
    rintro e w3 ⟨rfl, hb⟩
    have HB3 := hid (HB2.out.trans (hb.mono HB2.out.size))
    clear hb HB2
    rw [HX.out]
    go_wp2_with fail
    refine (agrees_any b ((80 : UInt8) :: ta) _).mono ?_
    rintro e w4 ⟨rfl, hb⟩
    have HB4 := hid (HB3.out.trans (hb.mono HB3.out.size))
    clear hb HB3
    rw [HY.out]
    go_wp2_with fail
    refine (agrees_any c ((80 : UInt8) :: tb) _).mono ?_
    rintro e w5 ⟨rfl, hb⟩
    have HB5 := hid (HB4.out.trans (hb.mono HB4.out.size))
    clear hb HB4
    rw [HZ.out]
    go_wp2_with fail
    refine (works_any _).mono ?_
    rintro e w6 ⟨rfl, hb⟩
    have HB6 := hid (HB5.out.trans (hb.mono HB5.out.size))
    clear hb HB5
    go_wp2_with fail
    go_ret
    exact ⟨rfl, HB6.out⟩

theorem agr_any (a b c : Bs) (w : World) (h1 : a.length ≤ 140737488355328) (h2 : b.length ≤ 140737488355328) (h3 : c.length ≤ 140737488355328) :
    Calls Tryd.prog 8 #[St a, St b, St c] w fun en w' => en = .returned (.bool true) ∧ Below w.heap.size w w' := by
  by_cases hs : 5000 < a.length + b.length + c.length
  · exact agr_big a b c w h1 h2 h3 hs
  · by_cases ok : (pubRes a).2 = 0 ∧ (pubRes b).2 = 0
    · obtain ⟨r1, ha, pa⟩ := pub_ok ok.1
      obtain ⟨r2, hb, pb⟩ := pub_ok ok.2
      obtain ⟨ca, ta, ea, wa⟩ := pk_head ha
      obtain ⟨cb, tb, eb, wb⟩ := pk_head hb
      rw [ea] at r1 pa
      rw [eb] at r2 pb
      by_cases na : ca = 80
      · subst na
        by_cases nb : cb = 80
        · subst nb
          obtain rfl := wa rfl
          obtain rfl := wb rfl
          exact agr_yy _ _ c _ _ w (by omega) r1 r2 (agree_sym pa pb) (fun o1 o2 => agree_third pb o1 o2)
        · exact agr_yn a b c cb ta tb w (by omega) nb r1 r2
      · by_cases nb : cb = 80
        · subst nb
          exact agr_ny a b c ca ta tb w (by omega) na r1 r2
        · exact agr_nn a b c ca cb ta tb w (by omega) na nb r1 r2
    · exact agr_err a b c w (by omega) ok
end Go.Proofs.YtcmpiffkmnbepaaDoor
