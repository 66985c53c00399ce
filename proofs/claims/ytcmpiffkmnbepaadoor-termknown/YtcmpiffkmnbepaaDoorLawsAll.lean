import Derived.Test.YtcmpiffkmnbepaaDoorWorks
import Derived.Test.YtcmpiffkmnbepaaDoorLaws
/- What TermSigns answers. -/
namespace Go.Proofs.YtcmpiffkmnbepaaDoor
open Go.RowKit

set_option maxHeartbeats 2000000 in
theorem signs_big (k j m n : Bs) (w : World) (h1 : k.length ≤ 140737488355328) (h2 : j.length ≤ 140737488355328) (h3 : m.length ≤ 140737488355328) (h4 : n.length ≤ 140737488355328) (hs : 5000 < k.length + j.length + m.length + n.length) :
    Calls Tryd.prog 10 #[St k, St j, St m, St n] w fun en w' => en = .returned (.bool true) ∧ Below w.heap.size w w' := by
  have e1 : (⟨k.toArray⟩ : ByteArray).size = k.length := st_size k
  have e2 : (⟨j.toArray⟩ : ByteArray).size = j.length := st_size j
  have e3 : (⟨m.toArray⟩ : ByteArray).size = m.length := st_size m
  have e4 : (⟨n.toArray⟩ : ByteArray).size = n.length := st_size n
  have hs' : (5000 : Int) < (k.length : Int) + (j.length : Int) + (m.length : Int) + (n.length : Int) := by omega
  go_enter Tryd.func10, Tryd.ntmps10
  go_wp2_with fail
  go_ret
  exact ⟨rfl, Below.refl _ _⟩

set_option maxHeartbeats 4000000 in
theorem signs_ok (k j m n : Bs) (w : World) (hs : k.length + j.length + m.length + n.length ≤ 5000) (o1 : (bRes 83 [] [k, m]).2 = 0) (o2 : (pubRes k).2 = 0) (o3 : (pubRes j).2 = 0) :
    Calls Tryd.prog 10 #[St k, St j, St m, St n] w fun en w' => en = .returned (.bool true) ∧ Below w.heap.size w w' := by
  have e1 : (⟨k.toArray⟩ : ByteArray).size = k.length := st_size k
  have e2 : (⟨j.toArray⟩ : ByteArray).size = j.length := st_size j
  have e3 : (⟨m.toArray⟩ : ByteArray).size = m.length := st_size m
  have e4 : (⟨n.toArray⟩ : ByteArray).size = n.length := st_size n
  have hs' : ¬ (5000 : Int) < (k.length : Int) + (j.length : Int) + (m.length : Int) + (n.length : Int) := by omega
  have hl1 : k.length ≤ 5000 := by omega
  have hl2 : j.length ≤ 5000 := by omega
  have hl3 : m.length ≤ 5000 := by omega
  have hl4 : n.length ≤ 5000 := by omega
  have o1' : (bRes 66 [] [k, m]).2 = 0 := by rw [bRes_same 66 83]; exact o1
  obtain ⟨r1, hk, hm, hd, hl⟩ := bRes_two_ok o1
  obtain ⟨r2, _⟩ := bRes_two_ok o1'
  obtain ⟨r3, _, _⟩ := pub_ok o2
  obtain ⟨r4, hj, _⟩ := pub_ok o3
  have U1 : Hid (unboxRes k (66 :: (k ++ m)) = (m, true)) := by apply hid; rw [unbox_made hk hm hd hl, if_pos rfl]
  have u2 : unboxRes j (66 :: (k ++ m)) = if k = j then (m, true) else ([], false) := unbox_made hk hm hd hl
  have V1 : Hid (verifyRes (Tm.pk k) m (83 :: (k ++ m)) = true) := by apply hid; rw [verify_made hk hm hd hl]; simp
  have V2 : Hid (verifyRes (Tm.pk j) m (83 :: (k ++ m)) = (j == k)) := by
    apply hid
    rw [verify_made hk hm hd hl, Bool.eq_iff_iff]
    simp only [beq_self_eq_true, Bool.true_and, beq_iff_eq, pk_eq hk hj]
    exact eq_comm
  have V3 : Hid (verifyRes (Tm.pk k) n (83 :: (k ++ m)) = (n == m)) := by
    apply hid
    rw [verify_made hk hm hd hl, Bool.eq_iff_iff]
    simp only [beq_self_eq_true, Bool.and_true, beq_iff_eq]
    exact eq_comm
  have V4 := hid (verify_box (Tm.pk k) m (k ++ m))
  have R1 := hid r1
  have R2 := hid r2
  have R3 := hid r3
  have R4 := hid r4
  have U2 : Hid (unboxRes j (66 :: (k ++ m)) = (if j = k then m else [], j == k)) := by
    apply hid
    rw [u2]
    by_cases h : k = j
    · rw [if_pos h, if_pos h.symm]; simp [h]
    · rw [if_neg h, if_neg (fun e => h e.symm)]; simp; exact fun e => h e.symm
  clear o1 o2 o3 o1' r1 r2 r3 r4 u2 hk hm hd hl hj
  cases hjk : j == k
  · have HX : Hid ((if j = k then m else []) = []) := by apply hid; rw [if_neg (by simpa using hjk)]
    have HJK := hid hjk
    go_enter Tryd.func10, Tryd.ntmps10
    go_wp2_with fail
    refine (sign_any k m _).mono ?_
    rintro e w1 ⟨rfl, hb⟩
    have HB1 := hid hb
    clear hb
    rw [R1.out]
    go_wp2_with fail
    refine (box_any k m _).mono ?_
    rintro e w2 ⟨rfl, hb⟩
    have HB2 := hid (HB1.out.trans (hb.mono HB1.out.size))
    clear hb HB1
    rw [R2.out]
    go_wp2_with fail
    refine (pubs_any k _).mono ?_
    rintro e w3 ⟨rfl, hb⟩
    have HB3 := hid (HB2.out.trans (hb.mono HB2.out.size))
    clear hb HB2
    rw [R3.out]
    go_wp2_with fail
    refine (pubs_any j _).mono ?_
    rintro e w4 ⟨rfl, hb⟩
    have HB4 := hid (HB3.out.trans (hb.mono HB3.out.size))
    clear hb HB3
    rw [R4.out]
    go_wp2_with fail
    refine (unbox_any k (66 :: (k ++ m)) _).mono ?_
    rintro e w5 ⟨rfl, hb⟩
    have HB5 := hid (HB4.out.trans (hb.mono HB4.out.size))
    clear hb HB4
    rw [U1.out]
    go_wp2_with fail
    refine (unbox_any j (66 :: (k ++ m)) _).mono ?_
    rintro e w6 ⟨rfl, hb⟩
    have HB6 := hid (HB5.out.trans (hb.mono HB5.out.size))
    clear hb HB5
    rw [U2.out, HX.out, HJK.out]

    go_wp2_with fail
    refine (verify_any (Tm.pk k) m (83 :: (k ++ m)) _).mono ?_
    rintro e w7 ⟨rfl, hb⟩
    have HB7 := hid (HB6.out.trans (hb.mono HB6.out.size))
    clear hb HB6
    rw [V1.out]
    go_wp2_with fail
    refine (verify_any (Tm.pk j) m (83 :: (k ++ m)) _).mono ?_
    rintro e w8 ⟨rfl, hb⟩
    have HB8 := hid (HB7.out.trans (hb.mono HB7.out.size))
    clear hb HB7
    rw [V2.out, HJK.out]
    go_wp2_with fail
    refine (verify_any (Tm.pk k) n (83 :: (k ++ m)) _).mono ?_
    rintro e w9 ⟨rfl, hb⟩
    have HB9 := hid (HB8.out.trans (hb.mono HB8.out.size))
    clear hb HB8
    rw [V3.out]
    go_wp2_with fail
    refine (verify_any (Tm.pk k) m (66 :: (k ++ m)) _).mono ?_
    rintro e w10 ⟨rfl, hb⟩
    have HB10 := hid (HB9.out.trans (hb.mono HB9.out.size))
    clear hb HB9
    rw [V4.out]
    go_wp2_with fail
    refine (works_any _).mono ?_
    rintro e w11 ⟨rfl, hb⟩
    have HB11 := hid (HB10.out.trans (hb.mono HB10.out.size))
    clear hb HB10
    go_wp2_with fail
    go_ret
    exact ⟨rfl, HB11.out⟩
  · have HX : Hid ((if j = k then m else []) = m) := by apply hid; rw [if_pos (by simpa using hjk)]
    have HJK := hid hjk
    go_enter Tryd.func10, Tryd.ntmps10
    go_wp2_with fail
    refine (sign_any k m _).mono ?_
    rintro e w1 ⟨rfl, hb⟩
    have HB1 := hid hb
    clear hb
    rw [R1.out]
    go_wp2_with fail
    refine (box_any k m _).mono ?_
    rintro e w2 ⟨rfl, hb⟩
    have HB2 := hid (HB1.out.trans (hb.mono HB1.out.size))
    clear hb HB1
    rw [R2.out]
    go_wp2_with fail
    refine (pubs_any k _).mono ?_
    rintro e w3 ⟨rfl, hb⟩
    have HB3 := hid (HB2.out.trans (hb.mono HB2.out.size))
    clear hb HB2
    rw [R3.out]
    go_wp2_with fail
    refine (pubs_any j _).mono ?_
    rintro e w4 ⟨rfl, hb⟩
    have HB4 := hid (HB3.out.trans (hb.mono HB3.out.size))
    clear hb HB3
    rw [R4.out]
    go_wp2_with fail
    refine (unbox_any k (66 :: (k ++ m)) _).mono ?_
    rintro e w5 ⟨rfl, hb⟩
    have HB5 := hid (HB4.out.trans (hb.mono HB4.out.size))
    clear hb HB4
    rw [U1.out]
    go_wp2_with fail
    refine (unbox_any j (66 :: (k ++ m)) _).mono ?_
    rintro e w6 ⟨rfl, hb⟩
    have HB6 := hid (HB5.out.trans (hb.mono HB5.out.size))
    clear hb HB5
    rw [U2.out, HX.out, HJK.out]

    go_wp2_with fail
    refine (verify_any (Tm.pk k) m (83 :: (k ++ m)) _).mono ?_
    rintro e w7 ⟨rfl, hb⟩
    have HB7 := hid (HB6.out.trans (hb.mono HB6.out.size))
    clear hb HB6
    rw [V1.out]
    go_wp2_with fail
    refine (verify_any (Tm.pk j) m (83 :: (k ++ m)) _).mono ?_
    rintro e w8 ⟨rfl, hb⟩
    have HB8 := hid (HB7.out.trans (hb.mono HB7.out.size))
    clear hb HB7
    rw [V2.out, HJK.out]
    go_wp2_with fail
    refine (verify_any (Tm.pk k) n (83 :: (k ++ m)) _).mono ?_
    rintro e w9 ⟨rfl, hb⟩
    have HB9 := hid (HB8.out.trans (hb.mono HB8.out.size))
    clear hb HB8
    rw [V3.out]
    go_wp2_with fail
    refine (verify_any (Tm.pk k) m (66 :: (k ++ m)) _).mono ?_
    rintro e w10 ⟨rfl, hb⟩
    have HB10 := hid (HB9.out.trans (hb.mono HB9.out.size))
    clear hb HB9
    rw [V4.out]
    go_wp2_with fail
    refine (works_any _).mono ?_
    rintro e w11 ⟨rfl, hb⟩
    have HB11 := hid (HB10.out.trans (hb.mono HB10.out.size))
    clear hb HB10
    go_wp2_with fail
    go_ret
    exact ⟨rfl, HB11.out⟩

set_option maxHeartbeats 4000000 in
theorem signs_err (k j m n : Bs) (w : World) (hs : k.length + j.length + m.length + n.length ≤ 5000) (ok : ¬ ((bRes 83 [] [k, m]).2 = 0 ∧ (pubRes k).2 = 0 ∧ (pubRes j).2 = 0)) :
    Calls Tryd.prog 10 #[St k, St j, St m, St n] w fun en w' => en = .returned (.bool true) ∧ Below w.heap.size w w' := by
  have e1 : (⟨k.toArray⟩ : ByteArray).size = k.length := st_size k
  have e2 : (⟨j.toArray⟩ : ByteArray).size = j.length := st_size j
  have e3 : (⟨m.toArray⟩ : ByteArray).size = m.length := st_size m
  have e4 : (⟨n.toArray⟩ : ByteArray).size = n.length := st_size n
  have hs' : ¬ (5000 : Int) < (k.length : Int) + (j.length : Int) + (m.length : Int) + (n.length : Int) := by omega
  have hl1 : k.length ≤ 5000 := by omega
  have hl2 : j.length ≤ 5000 := by omega
  have hl3 : m.length ≤ 5000 := by omega
  have hl4 : n.length ≤ 5000 := by omega
  have hE := bRes_same 66 83 k m
  obtain ⟨r1, hr1⟩ : ∃ r, bRes 83 [] [k, m] = r := ⟨_, rfl⟩
  obtain ⟨r2, hr2⟩ : ∃ r, bRes 66 [] [k, m] = r := ⟨_, rfl⟩
  obtain ⟨r3, hr3⟩ : ∃ r, pubRes k = r := ⟨_, rfl⟩
  obtain ⟨r4, hr4⟩ : ∃ r, pubRes j = r := ⟨_, rfl⟩
  rw [hr1, hr2] at hE
  rw [hr1, hr3, hr4] at ok
  have R1 := hid hr1
  have R2 := hid hr2
  have R3 := hid hr3
  have R4 := hid hr4
  clear hr1 hr2 hr3 hr4
  obtain ⟨t1, n1⟩ := r1
  obtain ⟨t2, n2⟩ := r2
  obtain ⟨t3, n3⟩ := r3
  obtain ⟨t4, n4⟩ := r4
  simp only at ok hE
  subst hE
  by_cases o1 : n2 = 0
  · have b1 : ((n2 : Int) != 0) = false := by simp [o1]
    by_cases o3 : n3 = 0
    · have b3 : ((n3 : Int) != 0) = false := by simp [o3]
      have o4 : n4 ≠ 0 := fun e => ok ⟨o1, o3, e⟩
      have b4 : ((n4 : Int) != 0) = true := by simp [o4]
      clear ok o1 o3 o4
      go_enter Tryd.func10, Tryd.ntmps10
      go_wp2_with fail
      refine (sign_any k m _).mono ?_
      rintro e w1 ⟨rfl, hb⟩
      have HB1 := hid hb
      clear hb
      rw [R1.out]
      go_wp2_with fail
      refine (box_any k m _).mono ?_
      rintro e w2 ⟨rfl, hb⟩
      have HB2 := hid (HB1.out.trans (hb.mono HB1.out.size))
      clear hb HB1
      rw [R2.out]
      go_wp2_with fail
      refine (pubs_any k _).mono ?_
      rintro e w3 ⟨rfl, hb⟩
      have HB3 := hid (HB2.out.trans (hb.mono HB2.out.size))
      clear hb HB2
      rw [R3.out]
      go_wp2_with fail
      refine (pubs_any j _).mono ?_
      rintro e w4 ⟨rfl, hb⟩
      have HB4 := hid (HB3.out.trans (hb.mono HB3.out.size))
      clear hb HB3
      rw [R4.out]
      go_wp2_with fail
      refine (works_any _).mono ?_
      rintro e w5 ⟨rfl, hb⟩
      have HB5 := hid (HB4.out.trans (hb.mono HB4.out.size))
      clear hb HB4
      go_wp2_with fail
      go_ret
      exact ⟨rfl, HB5.out⟩
    · have b3 : ((n3 : Int) != 0) = true := by simp [o3]
      clear ok o1 o3
      go_enter Tryd.func10, Tryd.ntmps10
      go_wp2_with fail
      refine (sign_any k m _).mono ?_
      rintro e w1 ⟨rfl, hb⟩
      have HB1 := hid hb
      clear hb
      rw [R1.out]
      go_wp2_with fail
      refine (box_any k m _).mono ?_
      rintro e w2 ⟨rfl, hb⟩
      have HB2 := hid (HB1.out.trans (hb.mono HB1.out.size))
      clear hb HB1
      rw [R2.out]
      go_wp2_with fail
      refine (pubs_any k _).mono ?_
      rintro e w3 ⟨rfl, hb⟩
      have HB3 := hid (HB2.out.trans (hb.mono HB2.out.size))
      clear hb HB2
      rw [R3.out]
      go_wp2_with fail
      refine (pubs_any j _).mono ?_
      rintro e w4 ⟨rfl, hb⟩
      have HB4 := hid (HB3.out.trans (hb.mono HB3.out.size))
      clear hb HB3
      rw [R4.out]
      go_wp2_with fail
      refine (works_any _).mono ?_
      rintro e w5 ⟨rfl, hb⟩
      have HB5 := hid (HB4.out.trans (hb.mono HB4.out.size))
      clear hb HB4
      go_wp2_with fail
      go_ret
      exact ⟨rfl, HB5.out⟩
  · have b1 : ((n2 : Int) != 0) = true := by simp [o1]
    clear ok o1
    go_enter Tryd.func10, Tryd.ntmps10
    go_wp2_with fail
    refine (sign_any k m _).mono ?_
    rintro e w1 ⟨rfl, hb⟩
    have HB1 := hid hb
    clear hb
    rw [R1.out]
    go_wp2_with fail
    refine (box_any k m _).mono ?_
    rintro e w2 ⟨rfl, hb⟩
    have HB2 := hid (HB1.out.trans (hb.mono HB1.out.size))
    clear hb HB1
    rw [R2.out]
    go_wp2_with fail
    refine (pubs_any k _).mono ?_
    rintro e w3 ⟨rfl, hb⟩
    have HB3 := hid (HB2.out.trans (hb.mono HB2.out.size))
    clear hb HB2
    rw [R3.out]
    go_wp2_with fail
    refine (pubs_any j _).mono ?_
    rintro e w4 ⟨rfl, hb⟩
    have HB4 := hid (HB3.out.trans (hb.mono HB3.out.size))
    clear hb HB3
    rw [R4.out]
    go_wp2_with fail
    refine (works_any _).mono ?_
    rintro e w5 ⟨rfl, hb⟩
    have HB5 := hid (HB4.out.trans (hb.mono HB4.out.size))
    clear hb HB4
    go_wp2_with fail
    go_ret
    exact ⟨rfl, HB5.out⟩

theorem signs_any (k j m n : Bs) (w : World) (h1 : k.length ≤ 140737488355328) (h2 : j.length ≤ 140737488355328) (h3 : m.length ≤ 140737488355328) (h4 : n.length ≤ 140737488355328) :
    Calls Tryd.prog 10 #[St k, St j, St m, St n] w fun en w' => en = .returned (.bool true) ∧ Below w.heap.size w w' := by
  by_cases hs : 5000 < k.length + j.length + m.length + n.length
  · exact signs_big k j m n w h1 h2 h3 h4 hs
  · by_cases ok : (bRes 83 [] [k, m]).2 = 0 ∧ (pubRes k).2 = 0 ∧ (pubRes j).2 = 0
    · exact signs_ok k j m n w (by omega) ok.1 ok.2.1 ok.2.2
    · exact signs_err k j m n w (by omega) ok
end Go.Proofs.YtcmpiffkmnbepaaDoor

/- What TermKeys answers. -/
namespace Go.Proofs.YtcmpiffkmnbepaaDoor
open Go.RowKit

/-- public keys of short terms are right -/
theorem pk_right {a : Bs} (ha : Tm.deep a ≠ 0) (h60 : Tm.deep a ≤ 62) (hl : a.length ≤ 5001) : Tm.deep (Tm.pk a) ≠ 0 ∧ Tm.deep (Tm.pk a) ≤ Tm.deep a + 1 ∧ (Tm.pk a).length ≤ 2 * a.length ∧ Tm.isPk (Tm.pk a).head? = true := by
  obtain ⟨_, ⟨d', hi, hd⟩, hlen, hpk⟩ := Tm.pk_of (Tm.deep_is ha).1 (by omega)
  have e := Tm.is_deep hi (by omega) (by omega)
  exact ⟨is_right hi (by omega) (by omega), by omega, hlen, hpk⟩

set_option maxHeartbeats 2000000 in
theorem keys_big (a b : Bs) (w : World) (h1 : a.length ≤ 140737488355328) (h2 : b.length ≤ 140737488355328) (hs : 5000 < a.length + b.length) :
    Calls Tryd.prog 9 #[St a, St b] w fun en w' => en = .returned (.bool true) ∧ Below w.heap.size w w' := by
  have e1 : (⟨a.toArray⟩ : ByteArray).size = a.length := st_size a
  have e2 : (⟨b.toArray⟩ : ByteArray).size = b.length := st_size b
  have hs' : (5000 : Int) < (a.length : Int) + (b.length : Int) := by omega
  go_enter Tryd.func9, Tryd.ntmps9
  go_wp2_with fail
  go_ret
  exact ⟨rfl, Below.refl _ _⟩

set_option maxHeartbeats 2000000 in
theorem keys_deep1 (a b : Bs) (w : World) (hs : a.length + b.length ≤ 5000) (hd : 60 < Tm.deep a) :
    Calls Tryd.prog 9 #[St a, St b] w fun en w' => en = .returned (.bool true) ∧ Below w.heap.size w w' := by
  have e1 : (⟨a.toArray⟩ : ByteArray).size = a.length := st_size a
  have e2 : (⟨b.toArray⟩ : ByteArray).size = b.length := st_size b
  have hs' : ¬ (5000 : Int) < (a.length : Int) + (b.length : Int) := by omega
  have hd' : (60 : Int) < (Tm.deep a : Int) := by omega
  have hl1 : a.length ≤ 5000 := by omega
  have hl2 : b.length ≤ 5000 := by omega
  go_enter Tryd.func9, Tryd.ntmps9
  go_wp2_with fail
  refine (deep_list a _).mono ?_
  rintro e w1 ⟨rfl, hb⟩
  have HB1 := hid hb
  clear hb
  go_wp2_with fail
  go_ret
  exact ⟨rfl, HB1.out⟩

set_option maxHeartbeats 2000000 in
theorem keys_deep2 (a b : Bs) (w : World) (hs : a.length + b.length ≤ 5000) (hd1 : Tm.deep a ≤ 60) (hd : 60 < Tm.deep b) :
    Calls Tryd.prog 9 #[St a, St b] w fun en w' => en = .returned (.bool true) ∧ Below w.heap.size w w' := by
  have e1 : (⟨a.toArray⟩ : ByteArray).size = a.length := st_size a
  have e2 : (⟨b.toArray⟩ : ByteArray).size = b.length := st_size b
  have hs' : ¬ (5000 : Int) < (a.length : Int) + (b.length : Int) := by omega
  have hd1' : ¬ (60 : Int) < (Tm.deep a : Int) := by omega
  have hd' : (60 : Int) < (Tm.deep b : Int) := by omega
  have hl1 : a.length ≤ 5000 := by omega
  have hl2 : b.length ≤ 5000 := by omega
  go_enter Tryd.func9, Tryd.ntmps9
  go_wp2_with fail
  refine (deep_list a _).mono ?_
  rintro e w1 ⟨rfl, hb⟩
  have HB1 := hid hb
  clear hb
  go_wp2_with fail
  refine (deep_list b _).mono ?_
  rintro e w2 ⟨rfl, hb⟩
  have HB2 := hid (HB1.out.trans (hb.mono HB1.out.size))
  clear hb HB1
  go_wp2_with fail
  go_ret
  exact ⟨rfl, HB2.out⟩

set_option maxHeartbeats 2000000 in
theorem keys_err (a b : Bs) (w : World) (hs : a.length + b.length ≤ 5000) (hd1 : Tm.deep a ≤ 60) (hd2 : Tm.deep b ≤ 60) (ok : ¬ ((pubRes a).2 = 0 ∧ (pubRes b).2 = 0)) :
    Calls Tryd.prog 9 #[St a, St b] w fun en w' => en = .returned (.bool true) ∧ Below w.heap.size w w' := by
  have e1 : (⟨a.toArray⟩ : ByteArray).size = a.length := st_size a
  have e2 : (⟨b.toArray⟩ : ByteArray).size = b.length := st_size b
  have hs' : ¬ (5000 : Int) < (a.length : Int) + (b.length : Int) := by omega
  have hd1' : ¬ (60 : Int) < (Tm.deep a : Int) := by omega
  have hd2' : ¬ (60 : Int) < (Tm.deep b : Int) := by omega
  have hl1 : a.length ≤ 5000 := by omega
  have hl2 : b.length ≤ 5000 := by omega
  obtain ⟨r1, hr1⟩ : ∃ r, pubRes a = r := ⟨_, rfl⟩
  obtain ⟨r2, hr2⟩ : ∃ r, pubRes b = r := ⟨_, rfl⟩
  rw [hr1, hr2] at ok
  have R1 := hid hr1
  have R2 := hid hr2
  clear hr1 hr2
  obtain ⟨t1, n1⟩ := r1
  obtain ⟨t2, n2⟩ := r2
  simp only at ok
  by_cases o1 : n1 = 0
  · have b1 : ((n1 : Int) != 0) = false := by simp [o1]
    have o2 : n2 ≠ 0 := fun e => ok ⟨o1, e⟩
    have b2 : ((n2 : Int) != 0) = true := by simp [o2]
    clear ok o1 o2
    go_enter Tryd.func9, Tryd.ntmps9
    go_wp2_with fail
    refine (deep_list a _).mono ?_
    rintro e w1 ⟨rfl, hb⟩
    have HB1 := hid hb
    clear hb
    go_wp2_with fail
    refine (deep_list b _).mono ?_
    rintro e w2 ⟨rfl, hb⟩
    have HB2 := hid (HB1.out.trans (hb.mono HB1.out.size))
    clear hb HB1
    go_wp2_with fail
    refine (pubs_any a _).mono ?_
    rintro e w3 ⟨rfl, hb⟩
    have HB3 := hid (HB2.out.trans (hb.mono HB2.out.size))
    clear hb HB2
    rw [R1.out]
    go_wp2_with fail
    refine (pubs_any b _).mono ?_
    rintro e w4 ⟨rfl, hb⟩
    have HB4 := hid (HB3.out.trans (hb.mono HB3.out.size))
    clear hb HB3
    rw [R2.out]
    go_wp2_with fail
    refine (works_any _).mono ?_
    rintro e w5 ⟨rfl, hb⟩
    have HB5 := hid (HB4.out.trans (hb.mono HB4.out.size))
    clear hb HB4
    go_wp2_with fail
    go_ret
    exact ⟨rfl, HB5.out⟩
  · have b1 : ((n1 : Int) != 0) = true := by simp [o1]
    clear ok o1
    go_enter Tryd.func9, Tryd.ntmps9
    go_wp2_with fail
    refine (deep_list a _).mono ?_
    rintro e w1 ⟨rfl, hb⟩
    have HB1 := hid hb
    clear hb
    go_wp2_with fail
    refine (deep_list b _).mono ?_
    rintro e w2 ⟨rfl, hb⟩
    have HB2 := hid (HB1.out.trans (hb.mono HB1.out.size))
    clear hb HB1
    go_wp2_with fail
    refine (pubs_any a _).mono ?_
    rintro e w3 ⟨rfl, hb⟩
    have HB3 := hid (HB2.out.trans (hb.mono HB2.out.size))
    clear hb HB2
    rw [R1.out]
    go_wp2_with fail
    refine (pubs_any b _).mono ?_
    rintro e w4 ⟨rfl, hb⟩
    have HB4 := hid (HB3.out.trans (hb.mono HB3.out.size))
    clear hb HB3
    rw [R2.out]
    go_wp2_with fail
    refine (works_any _).mono ?_
    rintro e w5 ⟨rfl, hb⟩
    have HB5 := hid (HB4.out.trans (hb.mono HB4.out.size))
    clear hb HB4
    go_wp2_with fail
    go_ret
    exact ⟨rfl, HB5.out⟩

set_option maxHeartbeats 4000000 in
theorem keys_ok (a b : Bs) (w : World) (hs : a.length + b.length ≤ 5000) (hd1 : Tm.deep a ≤ 60) (hd2 : Tm.deep b ≤ 60) (o1 : (pubRes a).2 = 0) (o2 : (pubRes b).2 = 0) :
    Calls Tryd.prog 9 #[St a, St b] w fun en w' => en = .returned (.bool true) ∧ Below w.heap.size w w' := by
  have e1 : (⟨a.toArray⟩ : ByteArray).size = a.length := st_size a
  have e2 : (⟨b.toArray⟩ : ByteArray).size = b.length := st_size b
  have hs' : ¬ (5000 : Int) < (a.length : Int) + (b.length : Int) := by omega
  have hd1' : ¬ (60 : Int) < (Tm.deep a : Int) := by omega
  have hd2' : ¬ (60 : Int) < (Tm.deep b : Int) := by omega
  have hl1 : a.length ≤ 5000 := by omega
  have hl2 : b.length ≤ 5000 := by omega
  obtain ⟨r1, ha, _⟩ := pub_ok o1
  obtain ⟨r2, hb, _⟩ := pub_ok o2
  obtain ⟨pa1, pa2, pa3, pa4⟩ := pk_right ha (by omega) (by omega)
  obtain ⟨pb1, pb2, pb3, pb4⟩ := pk_right hb (by omega) (by omega)
  have ia := (Tm.deep_is ha).1
  have ib := (Tm.deep_is hb).1
  have J1 : Hid (bRes 86 [] [a, b] = (86 :: (a ++ b), 0)) := by apply hid; rw [bRes_two, if_neg (by omega), if_neg (by omega)]
  have J2 : Hid (bRes 75 [] [a, b] = (75 :: (a ++ b), 0)) := by apply hid; rw [bRes_two, if_neg (by omega), if_neg (by omega)]
  obtain ⟨dj, _⟩ := made_two (op := 86) (by decide) ha hb (by omega) (by omega)
  obtain ⟨dk, _⟩ := made_two (op := 75) (by decide) ha hb (by omega) (by omega)
  obtain ⟨pj, _⟩ := pk_right (a := 86 :: (a ++ b)) (by rw [dj]; omega) (by rw [dj]; omega) (by simp; omega)
  obtain ⟨pkk, _⟩ := pk_right (a := 75 :: (a ++ b)) (by rw [dk]; omega) (by rw [dk]; omega) (by simp; omega)
  have ej := Tm.pk_join ia ib (by omega) (by omega)
  have ek := Tm.pk_bind ia ib (by omega) (by omega)
  have K1 : Hid (pubRes (86 :: (a ++ b)) = (87 :: (Tm.pk a ++ Tm.pk b), 0)) := by
    apply hid; unfold pubRes; rw [if_neg (by rw [dj]; omega), if_neg pj, ej]
  have K2 : Hid (pubRes (75 :: (a ++ b)) = (76 :: (Tm.pk a ++ b), 0)) := by
    apply hid; unfold pubRes; rw [if_neg (by rw [dk]; omega), if_neg pkk, ek]
  have L1 : Hid (jointRes (Tm.pk a) (Tm.pk b) = (87 :: (Tm.pk a ++ Tm.pk b), 0)) := by
    apply hid; unfold jointRes; rw [pa4, pb4]; show bRes 87 [] _ = _; rw [bRes_two, if_neg (by omega), if_neg (by omega)]
  have L2 : Hid (boundRes (Tm.pk a) b = (76 :: (Tm.pk a ++ b), 0)) := by
    apply hid; unfold boundRes; rw [pa4]; show bRes 76 [] _ = _; rw [bRes_two, if_neg (by omega), if_neg (by omega)]
  have EQ : Hid ((Tm.pk a == Tm.pk b) = (a == b)) := by apply hid; rw [Bool.eq_iff_iff]; simp only [beq_iff_eq]; exact pk_eq ha hb
  have R1 := hid r1
  have R2 := hid r2
  have heq : (Tm.pk a == Tm.pk b) = (a == b) := EQ.out
  clear o1 o2 r1 r2 ha hb pa1 pa2 pa3 pa4 pb1 pb2 pb3 pb4 ia ib dj dk pj pkk ej ek EQ
  go_enter Tryd.func9, Tryd.ntmps9
  go_wp2_with fail
  refine (deep_list a _).mono ?_
  rintro e w1 ⟨rfl, hb⟩
  have HB1 := hid hb
  clear hb
  go_wp2_with fail
  refine (deep_list b _).mono ?_
  rintro e w2 ⟨rfl, hb⟩
  have HB2 := hid (HB1.out.trans (hb.mono HB1.out.size))
  clear hb HB1
  go_wp2_with fail
  refine (pubs_any a _).mono ?_
  rintro e w3 ⟨rfl, hb⟩
  have HB3 := hid (HB2.out.trans (hb.mono HB2.out.size))
  clear hb HB2
  rw [R1.out]
  go_wp2_with fail
  refine (pubs_any b _).mono ?_
  rintro e w4 ⟨rfl, hb⟩
  have HB4 := hid (HB3.out.trans (hb.mono HB3.out.size))
  clear hb HB3
  rw [R2.out]
  go_wp2_with fail
  refine (join_any a b _).mono ?_
  rintro e w5 ⟨rfl, hb⟩
  have HB5 := hid (HB4.out.trans (hb.mono HB4.out.size))
  clear hb HB4
  rw [J1.out]
  go_wp2_with fail
  refine (bind_any a b _).mono ?_
  rintro e w6 ⟨rfl, hb⟩
  have HB6 := hid (HB5.out.trans (hb.mono HB5.out.size))
  clear hb HB5
  rw [J2.out]
  go_wp2_with fail
  refine (pubs_any (86 :: (a ++ b)) _).mono ?_
  rintro e w7 ⟨rfl, hb⟩
  have HB7 := hid (HB6.out.trans (hb.mono HB6.out.size))
  clear hb HB6
  rw [K1.out]
  go_wp2_with fail
  refine (pubs_any (75 :: (a ++ b)) _).mono ?_
  rintro e w8 ⟨rfl, hb⟩
  have HB8 := hid (HB7.out.trans (hb.mono HB7.out.size))
  clear hb HB7
  rw [K2.out]
  go_wp2_with fail
  refine (joints_any (Tm.pk a) (Tm.pk b) _).mono ?_
  rintro e w9 ⟨rfl, hb⟩
  have HB9 := hid (HB8.out.trans (hb.mono HB8.out.size))
  clear hb HB8
  rw [L1.out]
  go_wp2_with fail
  refine (bounds_any (Tm.pk a) b _).mono ?_
  rintro e w10 ⟨rfl, hb⟩
  have HB10 := hid (HB9.out.trans (hb.mono HB9.out.size))
  clear hb HB9
  rw [L2.out]
  go_wp2_with fail
  refine (works_any _).mono ?_
  rintro e w11 ⟨rfl, hb⟩
  have HB11 := hid (HB10.out.trans (hb.mono HB10.out.size))
  clear hb HB10
  go_wp2_with fail
  go_ret
  exact ⟨rfl, HB11.out⟩

theorem keys_any (a b : Bs) (w : World) (h1 : a.length ≤ 140737488355328) (h2 : b.length ≤ 140737488355328) :
    Calls Tryd.prog 9 #[St a, St b] w fun en w' => en = .returned (.bool true) ∧ Below w.heap.size w w' := by
  by_cases hs : 5000 < a.length + b.length
  · exact keys_big a b w h1 h2 hs
  · by_cases d1 : 60 < Tm.deep a
    · exact keys_deep1 a b w (by omega) d1
    · by_cases d2 : 60 < Tm.deep b
      · exact keys_deep2 a b w (by omega) (by omega) d2
      · by_cases ok : (pubRes a).2 = 0 ∧ (pubRes b).2 = 0
        · exact keys_ok a b w (by omega) (by omega) (by omega) ok.1 ok.2
        · exact keys_err a b w (by omega) (by omega) (by omega) ok
end Go.Proofs.YtcmpiffkmnbepaaDoor

/- What TermAgrees answers. -/
namespace Go.Proofs.YtcmpiffkmnbepaaDoor
open Go.RowKit

theorem pk_head {a : Bs} (ha : Tm.deep a ≠ 0) : ∃ c t, Tm.pk a = c :: t ∧ (c = 80 → t = a) := by
  obtain ⟨hi, _⟩ := Tm.deep_is ha
  have hd := Tm.deep_le a
  match a, hi with
  | [], hi => exact absurd rfl hi.2.1
  | x :: l, hi =>
    by_cases c1 : x = 86
    · subst c1
      obtain ⟨a1, a2, p, q, hp, hq, rfl, hm⟩ := Tm.is_inv_two hi (by decide)
      exact ⟨87, _, Tm.pk_join hp hq (by omega) (by omega), fun e => absurd e (by decide)⟩
    · by_cases c2 : x = 75
      · subst c2
        obtain ⟨a1, a2, p, q, hp, hq, rfl, hm⟩ := Tm.is_inv_two hi (by decide)
        exact ⟨76, _, Tm.pk_bind hp hq (by omega) (by omega), fun e => absurd e (by decide)⟩
      · exact ⟨80, _, Tm.pk_else hi hd (by simp [c1]) (by simp [c2]), fun _ => rfl⟩

theorem agree_of {k t : Bs} (h : Tm.deep (80 :: t) ≠ 0) : agreeRes k (80 :: t) = if Tm.leB k t then bRes 88 [] [k, t] else bRes 88 [] [t, k] := by
  unfold agreeRes; rw [if_neg (by simp [h])]; rfl
theorem agree_no {k t : Bs} {c : UInt8} (h : c ≠ 80) : agreeRes k (c :: t) = ([], 10) := by
  unfold agreeRes; rw [if_pos (Or.inr (by simp [h]))]

theorem agree_sym {a b : Bs} (ha : Tm.deep (80 :: a) ≠ 0) (hb : Tm.deep (80 :: b) ≠ 0) : agreeRes a (80 :: b) = agreeRes b (80 :: a) := by
  rw [agree_of hb, agree_of ha]
  cases h1 : Tm.leB a b
  · rw [Tm.leB_total h1]; rfl
  · cases h2 : Tm.leB b a
    · rfl
    · rw [Tm.leB_anti h1 h2]

theorem agree_ok {k t : Bs} (h : Tm.deep (80 :: t) ≠ 0) (ok : (agreeRes k (80 :: t)).2 = 0) : ∃ p q, agreeRes k (80 :: t) = (88 :: (p ++ q), 0) ∧ Tm.deep p ≠ 0 ∧ Tm.deep q ≠ 0 ∧ (p = k ∧ q = t ∨ p = t ∧ q = k) := by
  rw [agree_of h] at ok ⊢
  split at ok
  · rename_i hl
    obtain ⟨r, h1, h2, _⟩ := bRes_two_ok ok
    rw [if_pos hl]
    exact ⟨k, t, r, h1, h2, Or.inl ⟨rfl, rfl⟩⟩
  · rename_i hl
    obtain ⟨r, h1, h2, _⟩ := bRes_two_ok ok
    rw [if_neg hl]
    exact ⟨t, k, r, h1, h2, Or.inr ⟨rfl, rfl⟩⟩

/-- a third agrees on the same only if it is the first -/
theorem agree_third {a b c : Bs} (hb : Tm.deep (80 :: b) ≠ 0) (o1 : (agreeRes a (80 :: b)).2 = 0) (o2 : (agreeRes c (80 :: b)).2 = 0) : ((agreeRes c (80 :: b)).1 == (agreeRes a (80 :: b)).1) = (c == a) := by
  rw [Bool.eq_iff_iff]
  simp only [beq_iff_eq]
  constructor
  · intro h
    obtain ⟨p, q, r1, hp, hq, w1⟩ := agree_ok hb o1
    obtain ⟨p', q', r2, hp', hq', w2⟩ := agree_ok hb o2
    rw [r1, r2] at h
    have h' : p' ++ q' = p ++ q := (List.cons.inj h).2
    obtain ⟨e1, e2, _⟩ := Tm.is_uniq (Tm.deep_is hp').1 (Tm.deep_is hp).1 h'
    rcases w1 with ⟨w1, w3⟩ | ⟨w1, w3⟩ <;> rcases w2 with ⟨w2, w4⟩ | ⟨w2, w4⟩
    · rw [← w2, ← w1, e1]
    · rw [← w4, e2, w3, ← w2, e1, w1]
    · rw [← w2, e1, w1, ← w4, e2, w3]
    · rw [← w4, ← w3, e2]
  · intro h; rw [h]

set_option maxHeartbeats 2000000 in
theorem agr_big (a b c : Bs) (w : World) (h1 : a.length ≤ 140737488355328) (h2 : b.length ≤ 140737488355328) (h3 : c.length ≤ 140737488355328) (hs : 5000 < a.length + b.length + c.length) :
    Calls Tryd.prog 8 #[St a, St b, St c] w fun en w' => en = .returned (.bool true) ∧ Below w.heap.size w w' := by
  have e1 : (⟨a.toArray⟩ : ByteArray).size = a.length := st_size a
  have e2 : (⟨b.toArray⟩ : ByteArray).size = b.length := st_size b
  have e3 : (⟨c.toArray⟩ : ByteArray).size = c.length := st_size c
  have hs' : (5000 : Int) < (a.length : Int) + (b.length : Int) + (c.length : Int) := by omega
  go_enter Tryd.func8, Tryd.ntmps8
  go_wp2_with fail
  go_ret
  exact ⟨rfl, Below.refl _ _⟩

set_option maxHeartbeats 2000000 in
theorem agr_err (a b c : Bs) (w : World) (hs : a.length + b.length + c.length ≤ 5000) (ok : ¬ ((pubRes a).2 = 0 ∧ (pubRes b).2 = 0)) :
    Calls Tryd.prog 8 #[St a, St b, St c] w fun en w' => en = .returned (.bool true) ∧ Below w.heap.size w w' := by
  have e1 : (⟨a.toArray⟩ : ByteArray).size = a.length := st_size a
  have e2 : (⟨b.toArray⟩ : ByteArray).size = b.length := st_size b
  have e3 : (⟨c.toArray⟩ : ByteArray).size = c.length := st_size c
  have hs' : ¬ (5000 : Int) < (a.length : Int) + (b.length : Int) + (c.length : Int) := by omega
  have hl1 : a.length ≤ 5000 := by omega
  have hl2 : b.length ≤ 5000 := by omega
  have hl3 : c.length ≤ 5000 := by omega
  obtain ⟨r1, hr1⟩ : ∃ r, pubRes a = r := ⟨_, rfl⟩
  obtain ⟨r2, hr2⟩ : ∃ r, pubRes b = r := ⟨_, rfl⟩
  rw [hr1, hr2] at ok
  have R1 := hid hr1
  have R2 := hid hr2
  clear hr1 hr2
  obtain ⟨t1, n1⟩ := r1
  obtain ⟨t2, n2⟩ := r2
  simp only at ok
  by_cases o1 : n1 = 0
  · have b1 : ((n1 : Int) != 0) = false := by simp [o1]
    have o2 : n2 ≠ 0 := fun e => ok ⟨o1, e⟩
    have b2 : ((n2 : Int) != 0) = true := by simp [o2]
    clear ok o1 o2
    go_enter Tryd.func8, Tryd.ntmps8
    go_wp2_with fail
    refine (pubs_any a _).mono ?_
    rintro e w3 ⟨rfl, hb⟩
    have HB3 := hid hb
    clear hb
    rw [R1.out]
    go_wp2_with fail
    refine (pubs_any b _).mono ?_
    rintro e w4 ⟨rfl, hb⟩
    have HB4 := hid (HB3.out.trans (hb.mono HB3.out.size))
    clear hb HB3
    rw [R2.out]
    go_wp2_with fail
    refine (works_any _).mono ?_
    rintro e w5 ⟨rfl, hb⟩
    have HB5 := hid (HB4.out.trans (hb.mono HB4.out.size))
    clear hb HB4
    go_wp2_with fail
    go_ret
    exact ⟨rfl, HB5.out⟩
  · have b1 : ((n1 : Int) != 0) = true := by simp [o1]
    clear ok o1
    go_enter Tryd.func8, Tryd.ntmps8
    go_wp2_with fail
    refine (pubs_any a _).mono ?_
    rintro e w3 ⟨rfl, hb⟩
    have HB3 := hid hb
    clear hb
    rw [R1.out]
    go_wp2_with fail
    refine (pubs_any b _).mono ?_
    rintro e w4 ⟨rfl, hb⟩
    have HB4 := hid (HB3.out.trans (hb.mono HB3.out.size))
    clear hb HB3
    rw [R2.out]
    go_wp2_with fail
    refine (works_any _).mono ?_
    rintro e w5 ⟨rfl, hb⟩
    have HB5 := hid (HB4.out.trans (hb.mono HB4.out.size))
    clear hb HB4
    go_wp2_with fail
    go_ret
    exact ⟨rfl, HB5.out⟩

set_option maxHeartbeats 4000000 in
theorem agr_nn (a b c : Bs) (ca : UInt8) (cb : UInt8) (ta tb : Bs) (w : World) (hs : a.length + b.length + c.length ≤ 5000) (na : ca ≠ 80) (nb : cb ≠ 80) (r1 : pubRes a = (ca :: ta, 0)) (r2 : pubRes b = (cb :: tb, 0)) :
    Calls Tryd.prog 8 #[St a, St b, St c] w fun en w' => en = .returned (.bool true) ∧ Below w.heap.size w w' := by
  have e1 : (⟨a.toArray⟩ : ByteArray).size = a.length := st_size a
  have e2 : (⟨b.toArray⟩ : ByteArray).size = b.length := st_size b
  have e3 : (⟨c.toArray⟩ : ByteArray).size = c.length := st_size c
  have hs' : ¬ (5000 : Int) < (a.length : Int) + (b.length : Int) + (c.length : Int) := by omega
  have hl1 : a.length ≤ 5000 := by omega
  have hl2 : b.length ≤ 5000 := by omega
  have hl3 : c.length ≤ 5000 := by omega
  have xa : 0 < (⟨(ca :: ta).toArray⟩ : ByteArray).size := by rw [st_size]; simp
  have ya : ∀ h, ((((⟨(ca :: ta).toArray⟩ : ByteArray)[0]'h).toNat : Int) != 80) = true := fun h => (by show ((ca.toNat : Int) != 80) = true; simp; intro h; exact na (UInt8.toNat_inj.1 (by simp; omega)))
  have za : ∀ h, ((((⟨(ca :: ta).toArray⟩ : ByteArray)[0]'h).toNat : Int) == 80) = false := fun h => (by show ((ca.toNat : Int) == 80) = false; simp; intro h; exact na (UInt8.toNat_inj.1 (by simp; omega)))
  have xb : 0 < (⟨(cb :: tb).toArray⟩ : ByteArray).size := by rw [st_size]; simp
  have yb : ∀ h, ((((⟨(cb :: tb).toArray⟩ : ByteArray)[0]'h).toNat : Int) != 80) = true := fun h => (by show ((cb.toNat : Int) != 80) = true; simp; intro h; exact nb (UInt8.toNat_inj.1 (by simp; omega)))
  have zb : ∀ h, ((((⟨(cb :: tb).toArray⟩ : ByteArray)[0]'h).toNat : Int) == 80) = false := fun h => (by show ((cb.toNat : Int) == 80) = false; simp; intro h; exact nb (UInt8.toNat_inj.1 (by simp; omega)))
  have R1 := hid r1
  have R2 := hid r2
  have G : Hid (agreeRes a (cb :: tb) = ([], 10)) := agree_no nb
  have G2 : Hid (agreeRes b (ca :: ta) = ([], 10)) := agree_no na
  clear r1 r2 na nb
  go_enter Tryd.func8, Tryd.ntmps8
  go_wp2_with fail
  refine (pubs_any a _).mono ?_
  rintro e w1 ⟨rfl, hb⟩
  have HB1 := hid hb
  clear hb
  rw [R1.out]
  go_wp2_with fail
  refine (pubs_any b _).mono ?_
  rintro e w2 ⟨rfl, hb⟩
  have HB2 := hid (HB1.out.trans (hb.mono HB1.out.size))
  clear hb HB1
  rw [R2.out]
  go_wp2_with fail
  refine (agrees_any a (cb :: tb) _).mono ?_
  rintro e w3 ⟨rfl, hb⟩
  have HB3 := hid (HB2.out.trans (hb.mono HB2.out.size))
  clear hb HB2
  rw [G.out]
  go_wp2_with fail
  refine (agrees_any b (ca :: ta) _).mono ?_
  rintro e w4 ⟨rfl, hb⟩
  have HB4 := hid (HB3.out.trans (hb.mono HB3.out.size))
  clear hb HB3
  rw [G2.out]
  go_wp2_with fail
  refine (works_any _).mono ?_
  rintro e w5 ⟨rfl, hb⟩
  have HB5 := hid (HB4.out.trans (hb.mono HB4.out.size))
  clear hb HB4
  go_wp2_with fail
  go_ret
  exact ⟨rfl, HB5.out⟩

set_option maxHeartbeats 4000000 in
theorem agr_ny (a b c : Bs) (ca : UInt8) (ta tb : Bs) (w : World) (hs : a.length + b.length + c.length ≤ 5000) (na : ca ≠ 80) (r1 : pubRes a = (ca :: ta, 0)) (r2 : pubRes b = ((80 : UInt8) :: tb, 0)) :
    Calls Tryd.prog 8 #[St a, St b, St c] w fun en w' => en = .returned (.bool true) ∧ Below w.heap.size w w' := by
  have e1 : (⟨a.toArray⟩ : ByteArray).size = a.length := st_size a
  have e2 : (⟨b.toArray⟩ : ByteArray).size = b.length := st_size b
  have e3 : (⟨c.toArray⟩ : ByteArray).size = c.length := st_size c
  have hs' : ¬ (5000 : Int) < (a.length : Int) + (b.length : Int) + (c.length : Int) := by omega
  have hl1 : a.length ≤ 5000 := by omega
  have hl2 : b.length ≤ 5000 := by omega
  have hl3 : c.length ≤ 5000 := by omega
  have xa : 0 < (⟨(ca :: ta).toArray⟩ : ByteArray).size := by rw [st_size]; simp
  have ya : ∀ h, ((((⟨(ca :: ta).toArray⟩ : ByteArray)[0]'h).toNat : Int) != 80) = true := fun h => (by show ((ca.toNat : Int) != 80) = true; simp; intro h; exact na (UInt8.toNat_inj.1 (by simp; omega)))
  have za : ∀ h, ((((⟨(ca :: ta).toArray⟩ : ByteArray)[0]'h).toNat : Int) == 80) = false := fun h => (by show ((ca.toNat : Int) == 80) = false; simp; intro h; exact na (UInt8.toNat_inj.1 (by simp; omega)))
  have xb : 0 < (⟨((80 : UInt8) :: tb).toArray⟩ : ByteArray).size := by rw [st_size]; simp
  have yb : ∀ h, ((((⟨((80 : UInt8) :: tb).toArray⟩ : ByteArray)[0]'h).toNat : Int) != 80) = false := fun h => rfl
  have zb : ∀ h, ((((⟨((80 : UInt8) :: tb).toArray⟩ : ByteArray)[0]'h).toNat : Int) == 80) = true := fun h => rfl
  have R1 := hid r1
  have R2 := hid r2
  have G2 : Hid (agreeRes b (ca :: ta) = ([], 10)) := agree_no na
  clear r1 r2 na
  go_enter Tryd.func8, Tryd.ntmps8
  go_wp2_with fail
  refine (pubs_any a _).mono ?_
  rintro e w1 ⟨rfl, hb⟩
  have HB1 := hid hb
  clear hb
  rw [R1.out]
  go_wp2_with fail
  refine (pubs_any b _).mono ?_
  rintro e w2 ⟨rfl, hb⟩
  have HB2 := hid (HB1.out.trans (hb.mono HB1.out.size))
  clear hb HB1
  rw [R2.out]
  obtain ⟨⟨x1, g1⟩, hX⟩ : ∃ r, agreeRes a ((80 : UInt8) :: tb) = r := ⟨_, rfl⟩
  have HX := hid hX
  clear hX
  go_wp2_with fail
  refine (agrees_any a ((80 : UInt8) :: tb) _).mono ?_
  rintro e w3 ⟨rfl, hb⟩
  have HB3 := hid (HB2.out.trans (hb.mono HB2.out.size))
  clear hb HB2
  rw [HX.out]
  go_wp2_with fail
  refine (agrees_any b (ca :: ta) _).mono ?_
  rintro e w4 ⟨rfl, hb⟩
  have HB4 := hid (HB3.out.trans (hb.mono HB3.out.size))
  clear hb HB3
  rw [G2.out]
  go_wp2_with fail
  refine (works_any _).mono ?_
  rintro e w5 ⟨rfl, hb⟩
  have HB5 := hid (HB4.out.trans (hb.mono HB4.out.size))
  clear hb HB4
  go_wp2_with fail
  go_ret
  exact ⟨rfl, HB5.out⟩

set_option maxHeartbeats 4000000 in
theorem agr_yn (a b c : Bs) (cb : UInt8) (ta tb : Bs) (w : World) (hs : a.length + b.length + c.length ≤ 5000) (nb : cb ≠ 80) (r1 : pubRes a = ((80 : UInt8) :: ta, 0)) (r2 : pubRes b = (cb :: tb, 0)) :
    Calls Tryd.prog 8 #[St a, St b, St c] w fun en w' => en = .returned (.bool true) ∧ Below w.heap.size w w' := by
  have e1 : (⟨a.toArray⟩ : ByteArray).size = a.length := st_size a
  have e2 : (⟨b.toArray⟩ : ByteArray).size = b.length := st_size b
  have e3 : (⟨c.toArray⟩ : ByteArray).size = c.length := st_size c
  have hs' : ¬ (5000 : Int) < (a.length : Int) + (b.length : Int) + (c.length : Int) := by omega
  have hl1 : a.length ≤ 5000 := by omega
  have hl2 : b.length ≤ 5000 := by omega
  have hl3 : c.length ≤ 5000 := by omega
  have xa : 0 < (⟨((80 : UInt8) :: ta).toArray⟩ : ByteArray).size := by rw [st_size]; simp
  have ya : ∀ h, ((((⟨((80 : UInt8) :: ta).toArray⟩ : ByteArray)[0]'h).toNat : Int) != 80) = false := fun h => rfl
  have za : ∀ h, ((((⟨((80 : UInt8) :: ta).toArray⟩ : ByteArray)[0]'h).toNat : Int) == 80) = true := fun h => rfl
  have xb : 0 < (⟨(cb :: tb).toArray⟩ : ByteArray).size := by rw [st_size]; simp
  have yb : ∀ h, ((((⟨(cb :: tb).toArray⟩ : ByteArray)[0]'h).toNat : Int) != 80) = true := fun h => (by show ((cb.toNat : Int) != 80) = true; simp; intro h; exact nb (UInt8.toNat_inj.1 (by simp; omega)))
  have zb : ∀ h, ((((⟨(cb :: tb).toArray⟩ : ByteArray)[0]'h).toNat : Int) == 80) = false := fun h => (by show ((cb.toNat : Int) == 80) = false; simp; intro h; exact nb (UInt8.toNat_inj.1 (by simp; omega)))
  have R1 := hid r1
  have R2 := hid r2
  have G : Hid (agreeRes a (cb :: tb) = ([], 10)) := agree_no nb
  clear r1 r2 nb
  go_enter Tryd.func8, Tryd.ntmps8
  go_wp2_with fail
  refine (pubs_any a _).mono ?_
  rintro e w1 ⟨rfl, hb⟩
  have HB1 := hid hb
  clear hb
  rw [R1.out]
  go_wp2_with fail
  refine (pubs_any b _).mono ?_
  rintro e w2 ⟨rfl, hb⟩
  have HB2 := hid (HB1.out.trans (hb.mono HB1.out.size))
  clear hb HB1
  rw [R2.out]
  go_wp2_with fail
  refine (agrees_any a (cb :: tb) _).mono ?_
  rintro e w3 ⟨rfl, hb⟩
  have HB3 := hid (HB2.out.trans (hb.mono HB2.out.size))
  clear hb HB2
  rw [G.out]
  obtain ⟨⟨y1, h1⟩, hY⟩ : ∃ r, agreeRes b ((80 : UInt8) :: ta) = r := ⟨_, rfl⟩
  have HY := hid hY
  clear hY
  go_wp2_with fail
  refine (agrees_any b ((80 : UInt8) :: ta) _).mono ?_
  rintro e w4 ⟨rfl, hb⟩
  have HB4 := hid (HB3.out.trans (hb.mono HB3.out.size))
  clear hb HB3
  rw [HY.out]
  go_wp2_with fail
  refine (works_any _).mono ?_
  rintro e w5 ⟨rfl, hb⟩
  have HB5 := hid (HB4.out.trans (hb.mono HB4.out.size))
  clear hb HB4
  go_wp2_with fail
  go_ret
  exact ⟨rfl, HB5.out⟩

set_option maxHeartbeats 4000000 in
theorem agr_yy (a b c : Bs) (ta tb : Bs) (w : World) (hs : a.length + b.length + c.length ≤ 5000) (r1 : pubRes a = ((80 : UInt8) :: ta, 0)) (r2 : pubRes b = ((80 : UInt8) :: tb, 0)) (E1 : agreeRes a (80 :: tb) = agreeRes b (80 :: ta)) (E2 : (agreeRes a (80 :: tb)).2 = 0 → (agreeRes c (80 :: tb)).2 = 0 → ((agreeRes c (80 :: tb)).1 == (agreeRes a (80 :: tb)).1) = (c == a)) :
    Calls Tryd.prog 8 #[St a, St b, St c] w fun en w' => en = .returned (.bool true) ∧ Below w.heap.size w w' := by
  have e1 : (⟨a.toArray⟩ : ByteArray).size = a.length := st_size a
  have e2 : (⟨b.toArray⟩ : ByteArray).size = b.length := st_size b
  have e3 : (⟨c.toArray⟩ : ByteArray).size = c.length := st_size c
  have hs' : ¬ (5000 : Int) < (a.length : Int) + (b.length : Int) + (c.length : Int) := by omega
  have hl1 : a.length ≤ 5000 := by omega
  have hl2 : b.length ≤ 5000 := by omega
  have hl3 : c.length ≤ 5000 := by omega
  have xa : 0 < (⟨((80 : UInt8) :: ta).toArray⟩ : ByteArray).size := by rw [st_size]; simp
  have ya : ∀ h, ((((⟨((80 : UInt8) :: ta).toArray⟩ : ByteArray)[0]'h).toNat : Int) != 80) = false := fun h => rfl
  have za : ∀ h, ((((⟨((80 : UInt8) :: ta).toArray⟩ : ByteArray)[0]'h).toNat : Int) == 80) = true := fun h => rfl
  have xb : 0 < (⟨((80 : UInt8) :: tb).toArray⟩ : ByteArray).size := by rw [st_size]; simp
  have yb : ∀ h, ((((⟨((80 : UInt8) :: tb).toArray⟩ : ByteArray)[0]'h).toNat : Int) != 80) = false := fun h => rfl
  have zb : ∀ h, ((((⟨((80 : UInt8) :: tb).toArray⟩ : ByteArray)[0]'h).toNat : Int) == 80) = true := fun h => rfl
  have R1 := hid r1
  have R2 := hid r2
  clear r1 r2
  obtain ⟨⟨x1, g1⟩, hX⟩ : ∃ r, agreeRes a (80 :: tb) = r := ⟨_, rfl⟩
  obtain ⟨⟨z1, i1⟩, hZ⟩ : ∃ r, agreeRes c (80 :: tb) = r := ⟨_, rfl⟩
  rw [hX] at E1 E2
  rw [hZ] at E2
  have HX := hid hX
  have HY := hid E1.symm
  have HZ := hid hZ
  clear hX hZ E1
  simp only at E2
  by_cases o1 : i1 = 0
  · have b1 : ((i1 : Int) != 0) = false := by simp [o1]
    by_cases o2 : g1 = 0
    · have b2 : ((g1 : Int) != 0) = false := by simp [o2]
      have b3 := E2 o2 o1
      clear E2 o1 o2
      go_enter Tryd.func8, Tryd.ntmps8
      go_wp2_with fail
      refine (pubs_any a _).mono ?_
      rintro e w1 ⟨rfl, hb⟩
      have HB1 := hid hb
      clear hb
      rw [R1.out]
      go_wp2_with fail
      refine (pubs_any b _).mono ?_
      rintro e w2 ⟨rfl, hb⟩
      have HB2 := hid (HB1.out.trans (hb.mono HB1.out.size))
      clear hb HB1
      rw [R2.out]
      go_wp2_with fail
      refine (agrees_any a ((80 : UInt8) :: tb) _).mono ?_
      rintro e w3 ⟨rfl, hb⟩
      have HB3 := hid (HB2.out.trans (hb.mono HB2.out.size))
      clear hb HB2
      rw [HX.out]
      go_wp2_with fail
      refine (agrees_any b ((80 : UInt8) :: ta) _).mono ?_
      rintro e w4 ⟨rfl, hb⟩
      have HB4 := hid (HB3.out.trans (hb.mono HB3.out.size))
      clear hb HB3
      rw [HY.out]
      go_wp2_with fail
      refine (agrees_any c ((80 : UInt8) :: tb) _).mono ?_
      rintro e w5 ⟨rfl, hb⟩
      have HB5 := hid (HB4.out.trans (hb.mono HB4.out.size))
      clear hb HB4
      rw [HZ.out]
      go_wp2_with fail
      refine (works_any _).mono ?_
      rintro e w6 ⟨rfl, hb⟩
      have HB6 := hid (HB5.out.trans (hb.mono HB5.out.size))
      clear hb HB5
      go_wp2_with fail
      go_ret
      exact ⟨rfl, HB6.out⟩
    · have b2 : ((g1 : Int) != 0) = true := by simp [o2]
      clear E2 o1 o2
      go_enter Tryd.func8, Tryd.ntmps8
      go_wp2_with fail
      refine (pubs_any a _).mono ?_
      rintro e w1 ⟨rfl, hb⟩
      have HB1 := hid hb
      clear hb
      rw [R1.out]
      go_wp2_with fail
      refine (pubs_any b _).mono ?_
      rintro e w2 ⟨rfl, hb⟩
      have HB2 := hid (HB1.out.trans (hb.mono HB1.out.size))
      clear hb HB1
      rw [R2.out]
      go_wp2_with fail
      refine (agrees_any a ((80 : UInt8) :: tb) _).mono ?_
      rintro e w3 ⟨rfl, hb⟩
      have HB3 := hid (HB2.out.trans (hb.mono HB2.out.size))
      clear hb HB2
      rw [HX.out]
      go_wp2_with fail
      refine (agrees_any b ((80 : UInt8) :: ta) _).mono ?_
      rintro e w4 ⟨rfl, hb⟩
      have HB4 := hid (HB3.out.trans (hb.mono HB3.out.size))
      clear hb HB3
      rw [HY.out]
      go_wp2_with fail
      refine (agrees_any c ((80 : UInt8) :: tb) _).mono ?_
      rintro e w5 ⟨rfl, hb⟩
      have HB5 := hid (HB4.out.trans (hb.mono HB4.out.size))
      clear hb HB4
      rw [HZ.out]
      go_wp2_with fail
      refine (works_any _).mono ?_
      rintro e w6 ⟨rfl, hb⟩
      have HB6 := hid (HB5.out.trans (hb.mono HB5.out.size))
      clear hb HB5
      go_wp2_with fail
      go_ret
      exact ⟨rfl, HB6.out⟩
  · have b1 : ((i1 : Int) != 0) = true := by simp [o1]
    clear E2 o1
    go_enter Tryd.func8, Tryd.ntmps8
    go_wp2_with fail
    refine (pubs_any a _).mono ?_
    rintro e w1 ⟨rfl, hb⟩
    have HB1 := hid hb
    clear hb
    rw [R1.out]
    go_wp2_with fail
    refine (pubs_any b _).mono ?_
    rintro e w2 ⟨rfl, hb⟩
    have HB2 := hid (HB1.out.trans (hb.mono HB1.out.size))
    clear hb HB1
    rw [R2.out]
    go_wp2_with fail
    refine (agrees_any a ((80 : UInt8) :: tb) _).mono ?_
    rintro e w3 ⟨rfl, hb⟩
    have HB3 := hid (HB2.out.trans (hb.mono HB2.out.size))
    clear hb HB2
    rw [HX.out]
    go_wp2_with fail
    refine (agrees_any b ((80 : UInt8) :: ta) _).mono ?_
    rintro e w4 ⟨rfl, hb⟩
    have HB4 := hid (HB3.out.trans (hb.mono HB3.out.size))
    clear hb HB3
    rw [HY.out]
    go_wp2_with fail
    refine (agrees_any c ((80 : UInt8) :: tb) _).mono ?_
    rintro e w5 ⟨rfl, hb⟩
    have HB5 := hid (HB4.out.trans (hb.mono HB4.out.size))
    clear hb HB4
    rw [HZ.out]
    go_wp2_with fail
    refine (works_any _).mono ?_
    rintro e w6 ⟨rfl, hb⟩
    have HB6 := hid (HB5.out.trans (hb.mono HB5.out.size))
    clear hb HB5
    go_wp2_with fail
    go_ret
    exact ⟨rfl, HB6.out⟩

theorem agr_any (a b c : Bs) (w : World) (h1 : a.length ≤ 140737488355328) (h2 : b.length ≤ 140737488355328) (h3 : c.length ≤ 140737488355328) :
    Calls Tryd.prog 8 #[St a, St b, St c] w fun en w' => en = .returned (.bool true) ∧ Below w.heap.size w w' := by
  by_cases hs : 5000 < a.length + b.length + c.length
  · exact agr_big a b c w h1 h2 h3 hs
  · by_cases ok : (pubRes a).2 = 0 ∧ (pubRes b).2 = 0
    · obtain ⟨r1, ha, pa⟩ := pub_ok ok.1
      obtain ⟨r2, hb, pb⟩ := pub_ok ok.2
      obtain ⟨ca, ta, ea, wa⟩ := pk_head ha
      obtain ⟨cb, tb, eb, wb⟩ := pk_head hb
      rw [ea] at r1 pa
      rw [eb] at r2 pb
      by_cases na : ca = 80
      · subst na
        by_cases nb : cb = 80
        · subst nb
          obtain rfl := wa rfl
          obtain rfl := wb rfl
          exact agr_yy _ _ c _ _ w (by omega) r1 r2 (agree_sym pa pb) (fun o1 o2 => agree_third pb o1 o2)
        · exact agr_yn a b c cb ta tb w (by omega) nb r1 r2
      · by_cases nb : cb = 80
        · subst nb
          exact agr_ny a b c ca ta tb w (by omega) na r1 r2
        · exact agr_nn a b c ca cb ta tb w (by omega) na nb r1 r2
    · exact agr_err a b c w (by omega) ok
end Go.Proofs.YtcmpiffkmnbepaaDoor
