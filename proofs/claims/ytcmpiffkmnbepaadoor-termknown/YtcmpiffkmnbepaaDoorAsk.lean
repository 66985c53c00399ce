/- What the calls on keys, signatures and boxes do. -/
import Derived.Test.YtcmpiffkmnbepaaDoorKeys
namespace Go.Proofs.YtcmpiffkmnbepaaDoor
open Go.RowKit

theorem PS_new (w : World) (s : ByteArray) (hs : s.size ≤ 16384) :
    PS w w.heap.size s 0 (.slice none 0 0) [] (w.alloc (.cells (rcells s 0 0 false 0 0 ⟨#[]⟩ (.slice none 0 0)) 62)) :=
  ⟨(RS_new w s false hs).rebase, World.ownsRow_nil _ _ _ _, (Below.refl _ w).alloc (Nat.le_refl _) _⟩

set_option maxHeartbeats 1000000 in
theorem key_any (k : Bs) (w : World) (hk : Tm.deep k ≠ 0) : Calls Tryd.prog 60 #[St k] w fun en w' => en = .returned (St (Tm.pk k)) ∧ Below w.heap.size w w' := by
  obtain ⟨hi, hl⟩ := Tm.deep_is hk
  have hd := Tm.deep_le k
  have hpk := Tm.pk_of hi hd
  have HI := hid hi
  have HS : Hid ((⟨k.toArray⟩ : ByteArray).size ≤ 16384) := by apply hid; rw [st_size]; exact hl
  have HPK := hid hpk
  clear hi hpk hk
  go_enter Tryd.func60, Tryd.ntmps60
  go_wp2_with fail
  refine (public_all 64 (x := []) hd (PS_new w ⟨k.toArray⟩ HS.out) (by simp [rest]) HI.out hd (by simp; omega)).mono ?_
  rintro e w1 ⟨ov, rfl, hps⟩
  have hown := hps.own
  rw [List.nil_append] at hown
  obtain ⟨g, cp, rfl, hcv⟩ := own_string hown (by obtain ⟨d', h1, _⟩ := HPK.out.2.1; exact h1.2.1)
  have hcv1 := hcv 22 Tryd.underlying22
  have HB := hid hps.bel
  clear hown hps hcv
  go_wp2_with fail
  go_ret
  exact ⟨rfl, HB.out⟩

/-- what Pub answers -/
def pubRes (k : Bs) : Bs × Nat := if Tm.deep k = 0 then ([], 10) else if Tm.deep (Tm.pk k) = 0 then ([], 3) else (Tm.pk k, 0)

set_option maxHeartbeats 1000000 in
theorem pubs_any (k : Bs) (w : World) : Calls Tryd.prog 33 #[St k] w fun en w' => en = made (pubRes k) ∧ Below w.heap.size w w' := by
  by_cases hk : Tm.deep k = 0
  · have HR : Hid (pubRes k = ([], 10)) := by apply hid; unfold pubRes; rw [if_pos hk]
    have HK := hid hk
    clear hk
    go_enter Tryd.func33, Tryd.ntmps33
    go_wp2_with fail
    refine (right_list k _).mono ?_
    rintro e w1 ⟨rfl, hb⟩
    have HB := hid hb
    clear hb
    rw [HK.out]
    go_wp2_with fail
    go_ret2
    exact ⟨by rw [HR.out]; rfl, HB.out⟩
  · have HK := hid hk
    have HKB : Hid ((Tm.deep k != 0) = true) := by apply hid; simpa using hk
    clear hk
    by_cases hp : Tm.deep (Tm.pk k) = 0
    · have HR : Hid (pubRes k = ([], 3)) := by apply hid; unfold pubRes; rw [if_neg HK.out, if_pos hp]
      have HPB : Hid ((Tm.deep (Tm.pk k) != 0) = false) := by apply hid; simpa using hp
      clear hp
      go_enter Tryd.func33, Tryd.ntmps33
      go_wp2_with fail
      refine (right_list k _).mono ?_
      rintro e w1 ⟨rfl, hb⟩
      have HB := hid hb
      clear hb
      rw [HKB.out]
      go_wp2_with fail
      refine (key_any k _ HK.out).mono ?_
      rintro e w2 ⟨rfl, hb⟩
      have HB2 := hid (HB.out.trans (hb.mono HB.out.size))
      clear hb
      go_wp2_with fail
      refine (right_list (Tm.pk k) _).mono ?_
      rintro e w3 ⟨rfl, hb⟩
      have HB3 := hid (HB2.out.trans (hb.mono HB2.out.size))
      clear hb
      rw [HPB.out]
      go_wp2_with fail
      go_ret2
      exact ⟨by rw [HR.out]; rfl, HB3.out⟩
    · have HR : Hid (pubRes k = (Tm.pk k, 0)) := by apply hid; unfold pubRes; rw [if_neg HK.out, if_neg hp]
      have HPB : Hid ((Tm.deep (Tm.pk k) != 0) = true) := by apply hid; simpa using hp
      clear hp
      go_enter Tryd.func33, Tryd.ntmps33
      go_wp2_with fail
      refine (right_list k _).mono ?_
      rintro e w1 ⟨rfl, hb⟩
      have HB := hid hb
      clear hb
      rw [HKB.out]
      go_wp2_with fail
      refine (key_any k _ HK.out).mono ?_
      rintro e w2 ⟨rfl, hb⟩
      have HB2 := hid (HB.out.trans (hb.mono HB.out.size))
      clear hb
      go_wp2_with fail
      refine (right_list (Tm.pk k) _).mono ?_
      rintro e w3 ⟨rfl, hb⟩
      have HB3 := hid (HB2.out.trans (hb.mono HB2.out.size))
      clear hb
      rw [HPB.out]
      go_wp2_with fail
      go_ret2
      exact ⟨by rw [HR.out]; rfl, HB3.out⟩

theorem st_idx {l : Bs} {c : UInt8} {t : Bs} (h : l = c :: t) (h2 : 0 < (⟨l.toArray⟩ : ByteArray).size) : (⟨l.toArray⟩ : ByteArray)[0] = c := by
  subst h; rfl

set_option maxHeartbeats 1000000 in
theorem isKey_any (k : Bs) (w : World) : Calls Tryd.prog 61 #[St k] w fun en w' => en = .returned (.bool (Tm.isPk k.head?)) ∧ w' = w := by
  match k with
  | [] =>
    go_enter Tryd.func61, Tryd.ntmps61
    go_wp2_with fail
    go_ret
    exact ⟨rfl, rfl⟩
  | c :: t =>
    have hs : (⟨(c :: t).toArray⟩ : ByteArray).size = t.length + 1 := st_size _
    have hpos : 0 < (⟨(c :: t).toArray⟩ : ByteArray).size := by omega
    generalize hX : (⟨(c :: t).toArray⟩ : ByteArray) = X at *
    have hx0 : X[0] = c := by subst hX; rfl
    go_enter Tryd.func61, Tryd.ntmps61
    go_wp2_with fail
    refine (opens_any c _).mono ?_
    rintro e w1 ⟨rfl, rfl⟩
    go_wp2_with fail
    go_ret
    exact ⟨rfl, rfl⟩

/-- what Joint and Bound answer -/
def jointRes (a b : Bs) : Bs × Nat := if Tm.isPk a.head? && Tm.isPk b.head? then bRes 87 [] [a, b] else ([], 10)
def boundRes (a b : Bs) : Bs × Nat := if Tm.isPk a.head? then bRes 76 [] [a, b] else ([], 10)

set_option maxHeartbeats 1000000 in
theorem joints_any (a b : Bs) (w : World) : Calls Tryd.prog 34 #[St a, St b] w fun en w' => en = made (jointRes a b) ∧ Below w.heap.size w w' := by
  cases ha : Tm.isPk a.head?
  · have HR : Hid (jointRes a b = ([], 10)) := by apply hid; unfold jointRes; rw [ha]; rfl
    have HA := hid ha
    clear ha
    go_enter Tryd.func34, Tryd.ntmps34
    go_wp2_with fail
    refine (isKey_any a _).mono ?_
    rintro e w1 ⟨rfl, rfl⟩
    rw [HA.out]
    go_wp2_with fail
    go_ret2
    exact ⟨by rw [HR.out]; rfl, Below.refl _ _⟩
  · cases hb : Tm.isPk b.head?
    · have HR : Hid (jointRes a b = ([], 10)) := by apply hid; unfold jointRes; rw [ha, hb]; rfl
      have HA := hid ha
      have HB := hid hb
      clear ha hb
      go_enter Tryd.func34, Tryd.ntmps34
      go_wp2_with fail
      refine (isKey_any a _).mono ?_
      rintro e w1 ⟨rfl, rfl⟩
      rw [HA.out]
      go_wp2_with fail
      refine (isKey_any b _).mono ?_
      rintro e w1 ⟨rfl, rfl⟩
      rw [HB.out]
      go_wp2_with fail
      go_ret2
      exact ⟨by rw [HR.out]; rfl, Below.refl _ _⟩
    · have HR : Hid (jointRes a b = bRes 87 [] [a, b]) := by apply hid; unfold jointRes; rw [ha, hb]; rfl
      have HA := hid ha
      have HB := hid hb
      clear ha hb
      go_enter Tryd.func34, Tryd.ntmps34
      go_wp2_with fail
      refine (isKey_any a _).mono ?_
      rintro e w1 ⟨rfl, rfl⟩
      rw [HA.out]
      go_wp2_with fail
      refine (isKey_any b _).mono ?_
      rintro e w1 ⟨rfl, rfl⟩
      rw [HB.out]
      go_wp2_with fail
      refine (build_any 87 [] [a, b] _ _ (texts_two _ a b) (by simp) (by simp)).mono ?_
      rintro e w2 ⟨rfl, hb⟩
      have HB2 := hid (((Below.refl _ _).alloc (Nat.le_refl _) (.cells #[St a, St b] 22)).trans (hb.mono (by simp)))
      clear hb
      go_wp2_with fail
      go_ret2
      exact ⟨by rw [HR.out]; rfl, HB2.out⟩

set_option maxHeartbeats 1000000 in
theorem bounds_any (a b : Bs) (w : World) : Calls Tryd.prog 35 #[St a, St b] w fun en w' => en = made (boundRes a b) ∧ Below w.heap.size w w' := by
  cases ha : Tm.isPk a.head?
  · have HR : Hid (boundRes a b = ([], 10)) := by apply hid; unfold boundRes; rw [ha]; rfl
    have HA := hid ha
    clear ha
    go_enter Tryd.func35, Tryd.ntmps35
    go_wp2_with fail
    refine (isKey_any a _).mono ?_
    rintro e w1 ⟨rfl, rfl⟩
    rw [HA.out]
    go_wp2_with fail
    go_ret2
    exact ⟨by rw [HR.out]; rfl, Below.refl _ _⟩
  · have HR : Hid (boundRes a b = bRes 76 [] [a, b]) := by apply hid; unfold boundRes; rw [ha]; rfl
    have HA := hid ha
    clear ha
    go_enter Tryd.func35, Tryd.ntmps35
    go_wp2_with fail
    refine (isKey_any a _).mono ?_
    rintro e w1 ⟨rfl, rfl⟩
    rw [HA.out]
    go_wp2_with fail
    refine (build_any 76 [] [a, b] _ _ (texts_two _ a b) (by simp) (by simp)).mono ?_
    rintro e w2 ⟨rfl, hb⟩
    have HB2 := hid (((Below.refl _ _).alloc (Nat.le_refl _) (.cells #[St a, St b] 22)).trans (hb.mono (by simp)))
    clear hb
    go_wp2_with fail
    go_ret2
    exact ⟨by rw [HR.out]; rfl, HB2.out⟩

/-- what Agree answers -/
def agreeRes (k p : Bs) : Bs × Nat :=
  if Tm.deep p = 0 ∨ p.head? ≠ some 80 then ([], 10) else if Tm.leB k p.tail then bRes 88 [] [k, p.tail] else bRes 88 [] [p.tail, k]

theorem st_tail (c : UInt8) (t : Bs) : (⟨(c :: t).toArray⟩ : ByteArray).extract 1 (⟨(c :: t).toArray⟩ : ByteArray).size = ⟨t.toArray⟩ := by
  rw [extract_eq]
  apply congrArg ByteArray.mk
  apply congrArg
  show ((c :: t).drop 1).take _ = t
  rw [st_size]
  simp

theorem st_leB (a b : Bs) : (Op.bytesLess (⟨a.toArray⟩ : ByteArray).toList (⟨b.toArray⟩ : ByteArray).toList || (⟨a.toArray⟩ : ByteArray).toList == (⟨b.toArray⟩ : ByteArray).toList) = Tm.leB a b := by
  rw [Lib.toList_data, Lib.toList_data, bytesLess_blt]
  rfl

theorem agree_ways {k t : Bs} (h : (!Op.bytesLess k t) = true ∧ (!k == t) = true) : Tm.leB k t = false := by
  unfold Tm.leB; rw [← bytesLess_blt]
  simp only [Bool.not_eq_true'] at h
  rw [h.1, h.2]; rfl
theorem agree_ways' {k t : Bs} (h : (!Op.bytesLess k t) = false ∨ (!k == t) = false) : Tm.leB k t = true := by
  unfold Tm.leB; rw [← bytesLess_blt]
  simp only [Bool.not_eq_false'] at h
  rcases h with h | h
  · rw [h]; rfl
  · rw [h, Bool.or_true]

set_option maxHeartbeats 1000000 in
theorem agrees_pub (k t : Bs) (X : ByteArray) (hX : X = ⟨((80 : UInt8) :: t).toArray⟩) (w : World) (hd : Tm.deep (80 :: t) ≠ 0) : Calls Tryd.prog 36 #[St k, .string X] w fun en w' => en = made (agreeRes k (80 :: t)) ∧ Below w.heap.size w w' := by
  have hpos : 0 < X.size := by rw [hX, st_size]; simp
  have h1 : 1 ≤ X.size := hpos
  have hx0 : ((X[0].toNat : Int) != 80) = false := by subst hX; rfl
  have hT : X.extract 1 X.size = ⟨t.toArray⟩ := by rw [hX]; exact st_tail 80 t
  have HP : Hid ((Tm.deep X.data.toList != 0) = true) := by apply hid; rw [hX]; simpa using hd
  have HR : Hid (agreeRes k (80 :: t) = if Tm.leB k t then bRes 88 [] [k, t] else bRes 88 [] [t, k]) := by apply hid; unfold agreeRes; rw [if_neg (by simp [hd])]; rfl
  clear hX hd
  go_enter Tryd.func36, Tryd.ntmps36
  go_wp2_with fail
  refine (right_any X _).mono ?_
  rintro e w1 ⟨rfl, hb⟩
  have HB := hid hb
  clear hb
  rw [HP.out]
  go_wp2_with fail
  go_quiet (fail)
  go_wp2_with fail
  · have HL := hid (agree_ways (k := k) (t := t) (by assumption))
    refine (build_any 88 [] [t, k] _ _ (texts_two _ t k) (by simp) (by simp)).mono ?_
    rintro e w2 ⟨rfl, hb⟩
    have HB2 := hid (((below_drewN HB.out _).alloc (by have := HB.out.size; simpa using this) (.cells #[St t, St k] 22)).trans (hb.mono (by have := HB.out.size; simp; omega)))
    clear hb
    go_wp2_with fail
    go_ret2
    exact ⟨by rw [HR.out, HL.out]; rfl, HB2.out⟩
  · have HL := hid (agree_ways' (k := k) (t := t) (by assumption))
    refine (build_any 88 [] [k, t] _ _ (texts_two _ k t) (by simp) (by simp)).mono ?_
    rintro e w2 ⟨rfl, hb⟩
    have HB2 := hid (((below_drewN HB.out _).alloc (by have := HB.out.size; simpa using this) (.cells #[St k, St t] 22)).trans (hb.mono (by have := HB.out.size; simp; omega)))
    clear hb
    go_wp2_with fail
    go_ret2
    exact ⟨by rw [HR.out, HL.out]; rfl, HB2.out⟩

set_option maxHeartbeats 1000000 in
theorem agrees_not (k t : Bs) (c : UInt8) (X : ByteArray) (hX : X = ⟨(c :: t).toArray⟩) (w : World) (hd : Tm.deep (c :: t) ≠ 0) (hc : c ≠ 80) : Calls Tryd.prog 36 #[St k, .string X] w fun en w' => en = made (agreeRes k (c :: t)) ∧ Below w.heap.size w w' := by
  have hpos : 0 < X.size := by rw [hX, st_size]; simp
  have h1 : 1 ≤ X.size := hpos
  have hx0 : ((X[0].toNat : Int) != 80) = true := by subst hX; show ((c.toNat : Int) != 80) = true; simp; intro h; exact hc (UInt8.toNat_inj.1 (by simp; omega))
  have HP : Hid ((Tm.deep X.data.toList != 0) = true) := by apply hid; rw [hX]; simpa using hd
  have HR : Hid (agreeRes k (c :: t) = ([], 10)) := by apply hid; unfold agreeRes; rw [if_pos (Or.inr (by simp [hc]))]
  clear hX hd hc
  go_enter Tryd.func36, Tryd.ntmps36
  go_wp2_with fail
  refine (right_any X _).mono ?_
  rintro e w1 ⟨rfl, hb⟩
  have HB := hid hb
  clear hb
  rw [HP.out]
  go_wp2_with fail
  go_ret2
  exact ⟨by rw [HR.out]; rfl, HB.out⟩

set_option maxHeartbeats 1000000 in
theorem agrees_any (k p : Bs) (w : World) : Calls Tryd.prog 36 #[St k, St p] w fun en w' => en = made (agreeRes k p) ∧ Below w.heap.size w w' := by
  by_cases hp : Tm.deep p = 0
  · have HR : Hid (agreeRes k p = ([], 10)) := by apply hid; unfold agreeRes; rw [if_pos (Or.inl hp)]
    have HP : Hid ((Tm.deep p != 0) = false) := by apply hid; simpa using hp
    clear hp
    go_enter Tryd.func36, Tryd.ntmps36
    go_wp2_with fail
    refine (right_list p _).mono ?_
    rintro e w1 ⟨rfl, hb⟩
    have HB := hid hb
    clear hb
    rw [HP.out]
    go_wp2_with fail
    go_ret2
    exact ⟨by rw [HR.out]; rfl, HB.out⟩
  · match p with
    | [] => exact absurd rfl hp
    | c :: t =>
      by_cases hc : c = 80
      · subst hc; exact agrees_pub k t _ rfl w hp
      · exact agrees_not k t c _ rfl w hp hc
end Go.Proofs.YtcmpiffkmnbepaaDoor
