/- What TermSigns answers. -/
import Derived.Test.YtcmpiffkmnbepaaDoorWorks
import Derived.Test.YtcmpiffkmnbepaaDoorLaws
namespace Go.Proofs.YtcmpiffkmnbepaaDoor
open Go.RowKit

set_option maxHeartbeats 2000000 in
theorem signs_big (k j m n : Bs) (w : World) (h1 : k.length ≤ 140737488355328) (h2 : j.length ≤ 140737488355328) (h3 : m.length ≤ 140737488355328) (h4 : n.length ≤ 140737488355328) (hs : 5000 < k.length + j.length + m.length + n.length) :
    Calls Tryd.prog 10 #[St k, St j, St m, St n] w fun en w' => en = .returned (.bool true) ∧ Below w.heap.size w w' := by
  have e1 : (⟨k.toArray⟩ : ByteArray).size = k.length := st_size k
  have e2 : (⟨j.toArray⟩ : ByteArray).size = j.length := st_size j
  have e3 : (⟨m.toArray⟩ : ByteArray).size = m.length := st_size m
  have e4 : (⟨n.toArray⟩ : ByteArray).size = n.length := st_size n
  have hs' : (5000 : Int) < (k.length : Int) + (j.length : Int) + (m.length : Int) + (n.length : Int) := by omega
  go_enter Tryd.func10, Tryd.ntmps10
  go_wp2_with fail
  go_ret
  exact ⟨rfl, Below.refl _ _⟩

set_option maxHeartbeats 4000000 in
theorem signs_ok (k j m n : Bs) (w : World) (hs : k.length + j.length + m.length + n.length ≤ 5000) (o1 : (bRes 83 [] [k, m]).2 = 0) (o2 : (pubRes k).2 = 0) (o3 : (pubRes j).2 = 0) :
    Calls Tryd.prog 10 #[St k, St j, St m, St n] w fun en w' => en = .returned (.bool true) ∧ Below w.heap.size w w' := by
  have e1 : (⟨k.toArray⟩ : ByteArray).size = k.length := st_size k
  have e2 : (⟨j.toArray⟩ : ByteArray).size = j.length := st_size j
  have e3 : (⟨m.toArray⟩ : ByteArray).size = m.length := st_size m
  have e4 : (⟨n.toArray⟩ : ByteArray).size = n.length := st_size n
  have hs' : ¬ (5000 : Int) < (k.length : Int) + (j.length : Int) + (m.length : Int) + (n.length : Int) := by omega
  have hl1 : k.length ≤ 5000 := by omega
  have hl2 : j.length ≤ 5000 := by omega
  have hl3 : m.length ≤ 5000 := by omega
  have hl4 : n.length ≤ 5000 := by omega
  have o1' : (bRes 66 [] [k, m]).2 = 0 := by rw [bRes_same 66 83]; exact o1
  obtain ⟨r1, hk, hm, hd, hl⟩ := bRes_two_ok o1
  obtain ⟨r2, _⟩ := bRes_two_ok o1'
  obtain ⟨r3, _, _⟩ := pub_ok o2
  obtain ⟨r4, hj, _⟩ := pub_ok o3
  have U1 : Hid (unboxRes k (66 :: (k ++ m)) = (m, true)) := by apply hid; rw [unbox_made hk hm hd hl, if_pos rfl]
  have u2 : unboxRes j (66 :: (k ++ m)) = if k = j then (m, true) else ([], false) := unbox_made hk hm hd hl
  have V1 : Hid (verifyRes (Tm.pk k) m (83 :: (k ++ m)) = true) := by apply hid; rw [verify_made hk hm hd hl]; simp
  have V2 : Hid (verifyRes (Tm.pk j) m (83 :: (k ++ m)) = (j == k)) := by
    apply hid
    rw [verify_made hk hm hd hl, Bool.eq_iff_iff]
    simp only [beq_self_eq_true, Bool.true_and, beq_iff_eq, pk_eq hk hj]
    exact eq_comm
  have V3 : Hid (verifyRes (Tm.pk k) n (83 :: (k ++ m)) = (n == m)) := by
    apply hid
    rw [verify_made hk hm hd hl, Bool.eq_iff_iff]
    simp only [beq_self_eq_true, Bool.and_true, beq_iff_eq]
    exact eq_comm
  have V4 := hid (verify_box (Tm.pk k) m (k ++ m))
  have R1 := hid r1
  have R2 := hid r2
  have R3 := hid r3
  have R4 := hid r4
  have U2 : Hid (unboxRes j (66 :: (k ++ m)) = (if j = k then m else [], j == k)) := by
    apply hid
    rw [u2]
    by_cases h : k = j
    · rw [if_pos h, if_pos h.symm]; simp [h]
    · rw [if_neg h, if_neg (fun e => h e.symm)]; simp; exact fun e => h e.symm
  clear o1 o2 o3 o1' r1 r2 r3 r4 u2 hk hm hd hl hj
  cases hjk : j == k
  · have HX : Hid ((if j = k then m else []) = []) := by apply hid; rw [if_neg (by simpa using hjk)]
    have HJK := hid hjk
    go_enter Tryd.func10, Tryd.ntmps10
    go_wp2_with fail
    refine (sign_any k m _).mono ?_
    rintro e w1 ⟨rfl, hb⟩
    have HB1 := hid hb
    clear hb
    rw [R1.out]
    go_wp2_with fail
    refine (box_any k m _).mono ?_
    rintro e w2 ⟨rfl, hb⟩
    have HB2 := hid (HB1.out.trans (hb.mono HB1.out.size))
    clear hb HB1
    rw [R2.out]
    go_wp2_with fail
    refine (pubs_any k _).mono ?_
    rintro e w3 ⟨rfl, hb⟩
    have HB3 := hid (HB2.out.trans (hb.mono HB2.out.size))
    clear hb HB2
    rw [R3.out]
    go_wp2_with fail
    refine (pubs_any j _).mono ?_
    rintro e w4 ⟨rfl, hb⟩
    have HB4 := hid (HB3.out.trans (hb.mono HB3.out.size))
    clear hb HB3
    rw [R4.out]
    go_wp2_with fail
    refine (unbox_any k (66 :: (k ++ m)) _).mono ?_
    rintro e w5 ⟨rfl, hb⟩
    have HB5 := hid (HB4.out.trans (hb.mono HB4.out.size))
    clear hb HB4
    rw [U1.out]
    go_wp2_with fail
    refine (unbox_any j (66 :: (k ++ m)) _).mono ?_
    rintro e w6 ⟨rfl, hb⟩
    have HB6 := hid (HB5.out.trans (hb.mono HB5.out.size))
    clear hb HB5
    rw [U2.out, HX.out, HJK.out]

    go_wp2_with fail
    refine (verify_any (Tm.pk k) m (83 :: (k ++ m)) _).mono ?_
    rintro e w7 ⟨rfl, hb⟩
    have HB7 := hid (HB6.out.trans (hb.mono HB6.out.size))
    clear hb HB6
    rw [V1.out]
    go_wp2_with fail
    refine (verify_any (Tm.pk j) m (83 :: (k ++ m)) _).mono ?_
    rintro e w8 ⟨rfl, hb⟩
    have HB8 := hid (HB7.out.trans (hb.mono HB7.out.size))
    clear hb HB7
    rw [V2.out, HJK.out]
    go_wp2_with fail
    refine (verify_any (Tm.pk k) n (83 :: (k ++ m)) _).mono ?_
    rintro e w9 ⟨rfl, hb⟩
    have HB9 := hid (HB8.out.trans (hb.mono HB8.out.size))
    clear hb HB8
    rw [V3.out]
    go_wp2_with fail
    refine (verify_any (Tm.pk k) m (66 :: (k ++ m)) _).mono ?_
    rintro e w10 ⟨rfl, hb⟩
    have HB10 := hid (HB9.out.trans (hb.mono HB9.out.size))
    clear hb HB9
    rw [V4.out]
    go_wp2_with fail
    refine (works_any _).mono ?_
    rintro e w11 ⟨rfl, hb⟩
    have HB11 := hid (HB10.out.trans (hb.mono HB10.out.size))
    clear hb HB10
    go_wp2_with fail
    go_ret
    exact ⟨rfl, HB11.out⟩
  · have HX : Hid ((if j = k then m else []) = m) := by apply hid; rw [if_pos (by simpa using hjk)]
    have HJK := hid hjk
    go_enter Tryd.func10, Tryd.ntmps10
    go_wp2_with fail
    refine (sign_any k m _).mono ?_
    rintro e w1 ⟨rfl, hb⟩
    have HB1 := hid hb
    clear hb
    rw [R1.out]
    go_wp2_with fail
    refine (box_any k m _).mono ?_
    rintro e w2 ⟨rfl, hb⟩
    have HB2 := hid (HB1.out.trans (hb.mono HB1.out.size))
    clear hb HB1
    rw [R2.out]
    go_wp2_with fail
    refine (pubs_any k _).mono ?_
    rintro e w3 ⟨rfl, hb⟩
    have HB3 := hid (HB2.out.trans (hb.mono HB2.out.size))
    clear hb HB2
    rw [R3.out]
    go_wp2_with fail
    refine (pubs_any j _).mono ?_
    rintro e w4 ⟨rfl, hb⟩
    have HB4 := hid (HB3.out.trans (hb.mono HB3.out.size))
    clear hb HB3
    rw [R4.out]
    go_wp2_with fail
    refine (unbox_any k (66 :: (k ++ m)) _).mono ?_
    rintro e w5 ⟨rfl, hb⟩
    have HB5 := hid (HB4.out.trans (hb.mono HB4.out.size))
    clear hb HB4
    rw [U1.out]
    go_wp2_with fail
    refine (unbox_any j (66 :: (k ++ m)) _).mono ?_
    rintro e w6 ⟨rfl, hb⟩
    have HB6 := hid (HB5.out.trans (hb.mono HB5.out.size))
    clear hb HB5
    rw [U2.out, HX.out, HJK.out]

    go_wp2_with fail
    refine (verify_any (Tm.pk k) m (83 :: (k ++ m)) _).mono ?_
    rintro e w7 ⟨rfl, hb⟩
    have HB7 := hid (HB6.out.trans (hb.mono HB6.out.size))
    clear hb HB6
    rw [V1.out]
    go_wp2_with fail
    refine (verify_any (Tm.pk j) m (83 :: (k ++ m)) _).mono ?_
    rintro e w8 ⟨rfl, hb⟩
    have HB8 := hid (HB7.out.trans (hb.mono HB7.out.size))
    clear hb HB7
    rw [V2.out, HJK.out]
    go_wp2_with fail
    refine (verify_any (Tm.pk k) n (83 :: (k ++ m)) _).mono ?_
    rintro e w9 ⟨rfl, hb⟩
    have HB9 := hid (HB8.out.trans (hb.mono HB8.out.size))
    clear hb HB8
    rw [V3.out]
    go_wp2_with fail
    refine (verify_any (Tm.pk k) m (66 :: (k ++ m)) _).mono ?_
    rintro e w10 ⟨rfl, hb⟩
    have HB10 := hid (HB9.out.trans (hb.mono HB9.out.size))
    clear hb HB9
    rw [V4.out]
    go_wp2_with fail
    refine (works_any _).mono ?_
    rintro e w11 ⟨rfl, hb⟩
    have HB11 := hid (HB10.out.trans (hb.mono HB10.out.size))
    clear hb HB10
    go_wp2_with fail
    go_ret
    exact ⟨rfl, HB11.out⟩

set_option maxHeartbeats 4000000 in
theorem signs_err (k j m n : Bs) (w : World) (hs : k.length + j.length + m.length + n.length ≤ 5000) (ok : ¬ ((bRes 83 [] [k, m]).2 = 0 ∧ (pubRes k).2 = 0 ∧ (pubRes j).2 = 0)) :
    Calls Tryd.prog 10 #[St k, St j, St m, St n] w fun en w' => en = .returned (.bool true) ∧ Below w.heap.size w w' := by
  have e1 : (⟨k.toArray⟩ : ByteArray).size = k.length := st_size k
  have e2 : (⟨j.toArray⟩ : ByteArray).size = j.length := st_size j
  have e3 : (⟨m.toArray⟩ : ByteArray).size = m.length := st_size m
  have e4 : (⟨n.toArray⟩ : ByteArray).size = n.length := st_size n
  have hs' : ¬ (5000 : Int) < (k.length : Int) + (j.length : Int) + (m.length : Int) + (n.length : Int) := by omega
  have hl1 : k.length ≤ 5000 := by omega
  have hl2 : j.length ≤ 5000 := by omega
  have hl3 : m.length ≤ 5000 := by omega
  have hl4 : n.length ≤ 5000 := by omega
  have hE := bRes_same 66 83 k m
  obtain ⟨r1, hr1⟩ : ∃ r, bRes 83 [] [k, m] = r := ⟨_, rfl⟩
  obtain ⟨r2, hr2⟩ : ∃ r, bRes 66 [] [k, m] = r := ⟨_, rfl⟩
  obtain ⟨r3, hr3⟩ : ∃ r, pubRes k = r := ⟨_, rfl⟩
  obtain ⟨r4, hr4⟩ : ∃ r, pubRes j = r := ⟨_, rfl⟩
  rw [hr1, hr2] at hE
  rw [hr1, hr3, hr4] at ok
  have R1 := hid hr1
  have R2 := hid hr2
  have R3 := hid hr3
  have R4 := hid hr4
  clear hr1 hr2 hr3 hr4
  obtain ⟨t1, n1⟩ := r1
  obtain ⟨t2, n2⟩ := r2
  obtain ⟨t3, n3⟩ := r3
  obtain ⟨t4, n4⟩ := r4
  simp only at ok hE
  subst hE
  by_cases o1 : n2 = 0
  · have b1 : ((n2 : Int) != 0) = false := by simp [o1]
    by_cases o3 : n3 = 0
    · have b3 : ((n3 : Int) != 0) = false := by simp [o3]
      have o4 : n4 ≠ 0 := fun e => ok ⟨o1, o3, e⟩
      have b4 : ((n4 : Int) != 0) = true := by simp [o4]
      clear ok o1 o3 o4
      go_enter Tryd.func10, Tryd.ntmps10
      go_wp2_with fail
      refine (sign_any k m _).mono ?_
      rintro e w1 ⟨rfl, hb⟩
      have HB1 := hid hb
      clear hb
      rw [R1.out]
      go_wp2_with fail
      refine (box_any k m _).mono ?_
      rintro e w2 ⟨rfl, hb⟩
      have HB2 := hid (HB1.out.trans (hb.mono HB1.out.size))
      clear hb HB1
      rw [R2.out]
      go_wp2_with fail
      refine (pubs_any k _).mono ?_
      rintro e w3 ⟨rfl, hb⟩
      have HB3 := hid (HB2.out.trans (hb.mono HB2.out.size))
      clear hb HB2
      rw [R3.out]
      go_wp2_with fail
      refine (pubs_any j _).mono ?_
      rintro e w4 ⟨rfl, hb⟩
      have HB4 := hid (HB3.out.trans (hb.mono HB3.out.size))
      clear hb HB3
      rw [R4.out]
      go_wp2_with fail
      refine (works_any _).mono ?_
      rintro e w5 ⟨rfl, hb⟩
      have HB5 := hid (HB4.out.trans (hb.mono HB4.out.size))
      clear hb HB4
      go_wp2_with fail
      go_ret
      exact ⟨rfl, HB5.out⟩
    · have b3 : ((n3 : Int) != 0) = true := by simp [o3]
      clear ok o1 o3
      go_enter Tryd.func10, Tryd.ntmps10
      go_wp2_with fail
      refine (sign_any k m _).mono ?_
      rintro e w1 ⟨rfl, hb⟩
      have HB1 := hid hb
      clear hb
      rw [R1.out]
      go_wp2_with fail
      refine (box_any k m _).mono ?_
      rintro e w2 ⟨rfl, hb⟩
      have HB2 := hid (HB1.out.trans (hb.mono HB1.out.size))
      clear hb HB1
      rw [R2.out]
      go_wp2_with fail
      refine (pubs_any k _).mono ?_
      rintro e w3 ⟨rfl, hb⟩
      have HB3 := hid (HB2.out.trans (hb.mono HB2.out.size))
      clear hb HB2
      rw [R3.out]
      go_wp2_with fail
      refine (pubs_any j _).mono ?_
      rintro e w4 ⟨rfl, hb⟩
      have HB4 := hid (HB3.out.trans (hb.mono HB3.out.size))
      clear hb HB3
      rw [R4.out]
      go_wp2_with fail
      refine (works_any _).mono ?_
      rintro e w5 ⟨rfl, hb⟩
      have HB5 := hid (HB4.out.trans (hb.mono HB4.out.size))
      clear hb HB4
      go_wp2_with fail
      go_ret
      exact ⟨rfl, HB5.out⟩
  · have b1 : ((n2 : Int) != 0) = true := by simp [o1]
    clear ok o1
    go_enter Tryd.func10, Tryd.ntmps10
    go_wp2_with fail
    refine (sign_any k m _).mono ?_
    rintro e w1 ⟨rfl, hb⟩
    have HB1 := hid hb
    clear hb
    rw [R1.out]
    go_wp2_with fail
    refine (box_any k m _).mono ?_
    rintro e w2 ⟨rfl, hb⟩
    have HB2 := hid (HB1.out.trans (hb.mono HB1.out.size))
    clear hb HB1
    rw [R2.out]
    go_wp2_with fail
    refine (pubs_any k _).mono ?_
    rintro e w3 ⟨rfl, hb⟩
    have HB3 := hid (HB2.out.trans (hb.mono HB2.out.size))
    clear hb HB2
    rw [R3.out]
    go_wp2_with fail
    refine (pubs_any j _).mono ?_
    rintro e w4 ⟨rfl, hb⟩
    have HB4 := hid (HB3.out.trans (hb.mono HB3.out.size))
    clear hb HB3
    rw [R4.out]
    go_wp2_with fail
    refine (works_any _).mono ?_
    rintro e w5 ⟨rfl, hb⟩
    have HB5 := hid (HB4.out.trans (hb.mono HB4.out.size))
    clear hb HB4
    go_wp2_with fail
    go_ret
    exact ⟨rfl, HB5.out⟩

theorem signs_any (k j m n : Bs) (w : World) (h1 : k.length ≤ 140737488355328) (h2 : j.length ≤ 140737488355328) (h3 : m.length ≤ 140737488355328) (h4 : n.length ≤ 140737488355328) :
    Calls Tryd.prog 10 #[St k, St j, St m, St n] w fun en w' => en = .returned (.bool true) ∧ Below w.heap.size w w' := by
  by_cases hs : 5000 < k.length + j.length + m.length + n.length
  · exact signs_big k j m n w h1 h2 h3 h4 hs
  · by_cases ok : (bRes 83 [] [k, m]).2 = 0 ∧ (pubRes k).2 = 0 ∧ (pubRes j).2 = 0
    · exact signs_ok k j m n w (by omega) ok.1 ok.2.1 ok.2.2
    · exact signs_err k j m n w (by omega) ok
end Go.Proofs.YtcmpiffkmnbepaaDoor
