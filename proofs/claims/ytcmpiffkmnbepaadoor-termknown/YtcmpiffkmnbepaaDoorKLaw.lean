/- What TermKeys answers. -/
import Derived.Test.YtcmpiffkmnbepaaDoorWorks
import Derived.Test.YtcmpiffkmnbepaaDoorLaws
namespace Go.Proofs.YtcmpiffkmnbepaaDoor
open Go.RowKit

/-- public keys of short terms are right -/
theorem pk_right {a : Bs} (ha : Tm.deep a ≠ 0) (h60 : Tm.deep a ≤ 62) (hl : a.length ≤ 5001) : Tm.deep (Tm.pk a) ≠ 0 ∧ Tm.deep (Tm.pk a) ≤ Tm.deep a + 1 ∧ (Tm.pk a).length ≤ 2 * a.length ∧ Tm.isPk (Tm.pk a).head? = true := by
  obtain ⟨_, ⟨d', hi, hd⟩, hlen, hpk⟩ := Tm.pk_of (Tm.deep_is ha).1 (by omega)
  have e := Tm.is_deep hi (by omega) (by omega)
  exact ⟨is_right hi (by omega) (by omega), by omega, hlen, hpk⟩

set_option maxHeartbeats 2000000 in
theorem keys_big (a b : Bs) (w : World) (h1 : a.length ≤ 140737488355328) (h2 : b.length ≤ 140737488355328) (hs : 5000 < a.length + b.length) :
    Calls Tryd.prog 9 #[St a, St b] w fun en w' => en = .returned (.bool true) ∧ Below w.heap.size w w' := by
  have e1 : (⟨a.toArray⟩ : ByteArray).size = a.length := st_size a
  have e2 : (⟨b.toArray⟩ : ByteArray).size = b.length := st_size b
  have hs' : (5000 : Int) < (a.length : Int) + (b.length : Int) := by omega
  go_enter Tryd.func9, Tryd.ntmps9
  go_wp2_with fail
  go_ret
  exact ⟨rfl, Below.refl _ _⟩

set_option maxHeartbeats 2000000 in
theorem keys_deep1 (a b : Bs) (w : World) (hs : a.length + b.length ≤ 5000) (hd : 60 < Tm.deep a) :
    Calls Tryd.prog 9 #[St a, St b] w fun en w' => en = .returned (.bool true) ∧ Below w.heap.size w w' := by
  have e1 : (⟨a.toArray⟩ : ByteArray).size = a.length := st_size a
  have e2 : (⟨b.toArray⟩ : ByteArray).size = b.length := st_size b
  have hs' : ¬ (5000 : Int) < (a.length : Int) + (b.length : Int) := by omega
  have hd' : (60 : Int) < (Tm.deep a : Int) := by omega
  have hl1 : a.length ≤ 5000 := by omega
  have hl2 : b.length ≤ 5000 := by omega
  go_enter Tryd.func9, Tryd.ntmps9
  go_wp2_with fail
  refine (deep_list a _).mono ?_
  rintro e w1 ⟨rfl, hb⟩
  have HB1 := hid hb
  clear hb
  go_wp2_with fail
  go_ret
  exact ⟨rfl, HB1.out⟩

set_option maxHeartbeats 2000000 in
theorem keys_deep2 (a b : Bs) (w : World) (hs : a.length + b.length ≤ 5000) (hd1 : Tm.deep a ≤ 60) (hd : 60 < Tm.deep b) :
    Calls Tryd.prog 9 #[St a, St b] w fun en w' => en = .returned (.bool true) ∧ Below w.heap.size w w' := by
  have e1 : (⟨a.toArray⟩ : ByteArray).size = a.length := st_size a
  have e2 : (⟨b.toArray⟩ : ByteArray).size = b.length := st_size b
  have hs' : ¬ (5000 : Int) < (a.length : Int) + (b.length : Int) := by omega
  have hd1' : ¬ (60 : Int) < (Tm.deep a : Int) := by omega
  have hd' : (60 : Int) < (Tm.deep b : Int) := by omega
  have hl1 : a.length ≤ 5000 := by omega
  have hl2 : b.length ≤ 5000 := by omega
  go_enter Tryd.func9, Tryd.ntmps9
  go_wp2_with fail
  refine (deep_list a _).mono ?_
  rintro e w1 ⟨rfl, hb⟩
  have HB1 := hid hb
  clear hb
  go_wp2_with fail
  refine (deep_list b _).mono ?_
  rintro e w2 ⟨rfl, hb⟩
  have HB2 := hid (HB1.out.trans (hb.mono HB1.out.size))
  clear hb HB1
  go_wp2_with fail
  go_ret
  exact ⟨rfl, HB2.out⟩

set_option maxHeartbeats 2000000 in
theorem keys_err (a b : Bs) (w : World) (hs : a.length + b.length ≤ 5000) (hd1 : Tm.deep a ≤ 60) (hd2 : Tm.deep b ≤ 60) (ok : ¬ ((pubRes a).2 = 0 ∧ (pubRes b).2 = 0)) :
    Calls Tryd.prog 9 #[St a, St b] w fun en w' => en = .returned (.bool true) ∧ Below w.heap.size w w' := by
  have e1 : (⟨a.toArray⟩ : ByteArray).size = a.length := st_size a
  have e2 : (⟨b.toArray⟩ : ByteArray).size = b.length := st_size b
  have hs' : ¬ (5000 : Int) < (a.length : Int) + (b.length : Int) := by omega
  have hd1' : ¬ (60 : Int) < (Tm.deep a : Int) := by omega
  have hd2' : ¬ (60 : Int) < (Tm.deep b : Int) := by omega
  have hl1 : a.length ≤ 5000 := by omega
  have hl2 : b.length ≤ 5000 := by omega
  obtain ⟨r1, hr1⟩ : ∃ r, pubRes a = r := ⟨_, rfl⟩
  obtain ⟨r2, hr2⟩ : ∃ r, pubRes b = r := ⟨_, rfl⟩
  rw [hr1, hr2] at ok
  have R1 := hid hr1
  have R2 := hid hr2
  clear hr1 hr2
  obtain ⟨t1, n1⟩ := r1
  obtain ⟨t2, n2⟩ := r2
  simp only at ok
  by_cases o1 : n1 = 0
  · have b1 : ((n1 : Int) != 0) = false := by simp [o1]
    have o2 : n2 ≠ 0 := fun e => ok ⟨o1, e⟩
    have b2 : ((n2 : Int) != 0) = true := by simp [o2]
    clear ok o1 o2
    go_enter Tryd.func9, Tryd.ntmps9
    go_wp2_with fail
    refine (deep_list a _).mono ?_
    rintro e w1 ⟨rfl, hb⟩
    have HB1 := hid hb
    clear hb
    go_wp2_with fail
    refine (deep_list b _).mono ?_
    rintro e w2 ⟨rfl, hb⟩
    have HB2 := hid (HB1.out.trans (hb.mono HB1.out.size))
    clear hb HB1
    go_wp2_with fail
    refine (pubs_any a _).mono ?_
    rintro e w3 ⟨rfl, hb⟩
    have HB3 := hid (HB2.out.trans (hb.mono HB2.out.size))
    clear hb HB2
    rw [R1.out]
    go_wp2_with fail
    refine (pubs_any b _).mono ?_
    rintro e w4 ⟨rfl, hb⟩
    have HB4 := hid (HB3.out.trans (hb.mono HB3.out.size))
    clear hb HB3
    rw [R2.out]
    go_wp2_with fail
    refine (works_any _).mono ?_
    rintro e w5 ⟨rfl, hb⟩
    have HB5 := hid (HB4.out.trans (hb.mono HB4.out.size))
    clear hb HB4
    go_wp2_with fail
    go_ret
    exact ⟨rfl, HB5.out⟩
  · have b1 : ((n1 : Int) != 0) = true := by simp [o1]
    clear ok o1
    go_enter Tryd.func9, Tryd.ntmps9
    go_wp2_with fail
    refine (deep_list a _).mono ?_
    rintro e w1 ⟨rfl, hb⟩
    have HB1 := hid hb
    clear hb
    go_wp2_with fail
    refine (deep_list b _).mono ?_
    rintro e w2 ⟨rfl, hb⟩
    have HB2 := hid (HB1.out.trans (hb.mono HB1.out.size))
    clear hb HB1
    go_wp2_with fail
    refine (pubs_any a _).mono ?_
    rintro e w3 ⟨rfl, hb⟩
    have HB3 := hid (HB2.out.trans (hb.mono HB2.out.size))
    clear hb HB2
    rw [R1.out]
    go_wp2_with fail
    refine (pubs_any b _).mono ?_
    rintro e w4 ⟨rfl, hb⟩
    have HB4 := hid (HB3.out.trans (hb.mono HB3.out.size))
    clear hb HB3
    rw [R2.out]
    go_wp2_with fail
    refine (works_any _).mono ?_
    rintro e w5 ⟨rfl, hb⟩
    have HB5 := hid (HB4.out.trans (hb.mono HB4.out.size))
    clear hb HB4
    go_wp2_with fail
    go_ret
    exact ⟨rfl, HB5.out⟩

set_option maxHeartbeats 4000000 in
theorem keys_ok (a b : Bs) (w : World) (hs : a.length + b.length ≤ 5000) (hd1 : Tm.deep a ≤ 60) (hd2 : Tm.deep b ≤ 60) (o1 : (pubRes a).2 = 0) (o2 : (pubRes b).2 = 0) :
    Calls Tryd.prog 9 #[St a, St b] w fun en w' => en = .returned (.bool true) ∧ Below w.heap.size w w' := by
  have e1 : (⟨a.toArray⟩ : ByteArray).size = a.length := st_size a
  have e2 : (⟨b.toArray⟩ : ByteArray).size = b.length := st_size b
  have hs' : ¬ (5000 : Int) < (a.length : Int) + (b.length : Int) := by omega
  have hd1' : ¬ (60 : Int) < (Tm.deep a : Int) := by omega
  have hd2' : ¬ (60 : Int) < (Tm.deep b : Int) := by omega
  have hl1 : a.length ≤ 5000 := by omega
  have hl2 : b.length ≤ 5000 := by omega
  obtain ⟨r1, ha, _⟩ := pub_ok o1
  obtain ⟨r2, hb, _⟩ := pub_ok o2
  obtain ⟨pa1, pa2, pa3, pa4⟩ := pk_right ha (by omega) (by omega)
  obtain ⟨pb1, pb2, pb3, pb4⟩ := pk_right hb (by omega) (by omega)
  have ia := (Tm.deep_is ha).1
  have ib := (Tm.deep_is hb).1
  have J1 : Hid (bRes 86 [] [a, b] = (86 :: (a ++ b), 0)) := by apply hid; rw [bRes_two, if_neg (by omega), if_neg (by omega)]
  have J2 : Hid (bRes 75 [] [a, b] = (75 :: (a ++ b), 0)) := by apply hid; rw [bRes_two, if_neg (by omega), if_neg (by omega)]
  obtain ⟨dj, _⟩ := made_two (op := 86) (by decide) ha hb (by omega) (by omega)
  obtain ⟨dk, _⟩ := made_two (op := 75) (by decide) ha hb (by omega) (by omega)
  obtain ⟨pj, _⟩ := pk_right (a := 86 :: (a ++ b)) (by rw [dj]; omega) (by rw [dj]; omega) (by simp; omega)
  obtain ⟨pkk, _⟩ := pk_right (a := 75 :: (a ++ b)) (by rw [dk]; omega) (by rw [dk]; omega) (by simp; omega)
  have ej := Tm.pk_join ia ib (by omega) (by omega)
  have ek := Tm.pk_bind ia ib (by omega) (by omega)
  have K1 : Hid (pubRes (86 :: (a ++ b)) = (87 :: (Tm.pk a ++ Tm.pk b), 0)) := by
    apply hid; unfold pubRes; rw [if_neg (by rw [dj]; omega), if_neg pj, ej]
  have K2 : Hid (pubRes (75 :: (a ++ b)) = (76 :: (Tm.pk a ++ b), 0)) := by
    apply hid; unfold pubRes; rw [if_neg (by rw [dk]; omega), if_neg pkk, ek]
  have L1 : Hid (jointRes (Tm.pk a) (Tm.pk b) = (87 :: (Tm.pk a ++ Tm.pk b), 0)) := by
    apply hid; unfold jointRes; rw [pa4, pb4]; show bRes 87 [] _ = _; rw [bRes_two, if_neg (by omega), if_neg (by omega)]
  have L2 : Hid (boundRes (Tm.pk a) b = (76 :: (Tm.pk a ++ b), 0)) := by
    apply hid; unfold boundRes; rw [pa4]; show bRes 76 [] _ = _; rw [bRes_two, if_neg (by omega), if_neg (by omega)]
  have EQ : Hid ((Tm.pk a == Tm.pk b) = (a == b)) := by apply hid; rw [Bool.eq_iff_iff]; simp only [beq_iff_eq]; exact pk_eq ha hb
  have R1 := hid r1
  have R2 := hid r2
  have heq : (Tm.pk a == Tm.pk b) = (a == b) := EQ.out
  clear o1 o2 r1 r2 ha hb pa1 pa2 pa3 pa4 pb1 pb2 pb3 pb4 ia ib dj dk pj pkk ej ek EQ
  go_enter Tryd.func9, Tryd.ntmps9
  go_wp2_with fail
  refine (deep_list a _).mono ?_
  rintro e w1 ⟨rfl, hb⟩
  have HB1 := hid hb
  clear hb
  go_wp2_with fail
  refine (deep_list b _).mono ?_
  rintro e w2 ⟨rfl, hb⟩
  have HB2 := hid (HB1.out.trans (hb.mono HB1.out.size))
  clear hb HB1
  go_wp2_with fail
  refine (pubs_any a _).mono ?_
  rintro e w3 ⟨rfl, hb⟩
  have HB3 := hid (HB2.out.trans (hb.mono HB2.out.size))
  clear hb HB2
  rw [R1.out]
  go_wp2_with fail
  refine (pubs_any b _).mono ?_
  rintro e w4 ⟨rfl, hb⟩
  have HB4 := hid (HB3.out.trans (hb.mono HB3.out.size))
  clear hb HB3
  rw [R2.out]
  go_wp2_with fail
  refine (join_any a b _).mono ?_
  rintro e w5 ⟨rfl, hb⟩
  have HB5 := hid (HB4.out.trans (hb.mono HB4.out.size))
  clear hb HB4
  rw [J1.out]
  go_wp2_with fail
  refine (bind_any a b _).mono ?_
  rintro e w6 ⟨rfl, hb⟩
  have HB6 := hid (HB5.out.trans (hb.mono HB5.out.size))
  clear hb HB5
  rw [J2.out]
  go_wp2_with fail
  refine (pubs_any (86 :: (a ++ b)) _).mono ?_
  rintro e w7 ⟨rfl, hb⟩
  have HB7 := hid (HB6.out.trans (hb.mono HB6.out.size))
  clear hb HB6
  rw [K1.out]
  go_wp2_with fail
  refine (pubs_any (75 :: (a ++ b)) _).mono ?_
  rintro e w8 ⟨rfl, hb⟩
  have HB8 := hid (HB7.out.trans (hb.mono HB7.out.size))
  clear hb HB7
  rw [K2.out]
  go_wp2_with fail
  refine (joints_any (Tm.pk a) (Tm.pk b) _).mono ?_
  rintro e w9 ⟨rfl, hb⟩
  have HB9 := hid (HB8.out.trans (hb.mono HB8.out.size))
  clear hb HB8
  rw [L1.out]
  go_wp2_with fail
  refine (bounds_any (Tm.pk a) b _).mono ?_
  rintro e w10 ⟨rfl, hb⟩
  have HB10 := hid (HB9.out.trans (hb.mono HB9.out.size))
  clear hb HB9
  rw [L2.out]
  go_wp2_with fail
  refine (works_any _).mono ?_
  rintro e w11 ⟨rfl, hb⟩
  have HB11 := hid (HB10.out.trans (hb.mono HB10.out.size))
  clear hb HB10
  go_wp2_with fail
  go_ret
  exact ⟨rfl, HB11.out⟩

theorem keys_any (a b : Bs) (w : World) (h1 : a.length ≤ 140737488355328) (h2 : b.length ≤ 140737488355328) :
    Calls Tryd.prog 9 #[St a, St b] w fun en w' => en = .returned (.bool true) ∧ Below w.heap.size w w' := by
  by_cases hs : 5000 < a.length + b.length
  · exact keys_big a b w h1 h2 hs
  · by_cases d1 : 60 < Tm.deep a
    · exact keys_deep1 a b w (by omega) d1
    · by_cases d2 : 60 < Tm.deep b
      · exact keys_deep2 a b w (by omega) (by omega) d2
      · by_cases ok : (pubRes a).2 = 0 ∧ (pubRes b).2 = 0
        · exact keys_ok a b w (by omega) (by omega) (by omega) ok.1 ok.2
        · exact keys_err a b w (by omega) (by omega) (by omega) ok
end Go.Proofs.YtcmpiffkmnbepaaDoor
