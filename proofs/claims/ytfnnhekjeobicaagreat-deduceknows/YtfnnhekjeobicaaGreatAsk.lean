/- What the calls on keys, signatures and boxes do. -/
import Derived.Test.YtfnnhekjeobicaaGreatKeys
namespace Go.Proofs.YtfnnhekjeobicaaGreat
open Go.RowKit

theorem PS_new (w : World) (s : ByteArray) (hs : s.size ≤ 16384) :
    PS w w.heap.size s 0 (.slice none 0 0) [] (w.alloc (.cells (rcells s 0 0 false 0 0 ⟨#[]⟩ (.slice none 0 0)) 91)) :=
  ⟨(RS_new w s false hs).rebase, World.ownsRow_nil _ _ _ _, (Below.refl _ w).alloc (Nat.le_refl _) _⟩

set_option maxHeartbeats 1000000 in
theorem key_any (k : Bs) (w : World) (hk : Tm.deep k ≠ 0) : Calls Tryz.prog 81 #[St k] w fun en w' => en = .returned (St (Tm.pk k)) ∧ Below w.heap.size w w' := by
  obtain ⟨hi, hl⟩ := Tm.deep_is hk
  have hd := Tm.deep_le k
  have hpk := Tm.pk_of hi hd
  have HI := hid hi
  have HS : Hid ((⟨k.toArray⟩ : ByteArray).size ≤ 16384) := by apply hid; rw [st_size]; exact hl
  have HPK := hid hpk
  clear hi hpk hk
  go_enter Tryz.func81, Tryz.ntmps81
  go_wp2_with fail
  refine (public_all 64 (x := []) hd (PS_new w ⟨k.toArray⟩ HS.out) (by simp [rest]) HI.out hd (by simp; omega)).mono ?_
  rintro e w1 ⟨ov, rfl, hps⟩
  have hown := hps.own
  rw [List.nil_append] at hown
  obtain ⟨g, cp, rfl, hcv⟩ := own_string hown (by obtain ⟨d', h1, _⟩ := HPK.out.2.1; exact h1.2.1)
  have hcv1 := hcv 28 Tryz.underlying28
  have HB := hid hps.bel
  clear hown hps hcv
  go_wp2_with fail
  go_ret
  exact ⟨rfl, HB.out⟩

/-- what Pub answers -/
def pubRes (k : Bs) : Bs × Nat := if Tm.deep k = 0 then ([], 10) else if Tm.deep (Tm.pk k) = 0 then ([], 3) else (Tm.pk k, 0)

set_option maxHeartbeats 1000000 in
theorem pubs_any (k : Bs) (w : World) : Calls Tryz.prog 69 #[St k] w fun en w' => en = made (pubRes k) ∧ Below w.heap.size w w' := by
  by_cases hk : Tm.deep k = 0
  · have HR : Hid (pubRes k = ([], 10)) := by apply hid; unfold pubRes; rw [if_pos hk]
    have HK := hid hk
    clear hk
    go_enter Tryz.func69, Tryz.ntmps69
    go_wp2_with fail
    refine (right_list k _).mono ?_
    rintro e w1 ⟨rfl, hb⟩
    have HB := hid hb
    clear hb
    rw [HK.out]
    go_wp2_with fail
    go_ret2
    exact ⟨by rw [HR.out]; rfl, HB.out⟩
  · have HK := hid hk
    have HKB : Hid ((Tm.deep k != 0) = true) := by apply hid; simpa using hk
    clear hk
    by_cases hp : Tm.deep (Tm.pk k) = 0
    · have HR : Hid (pubRes k = ([], 3)) := by apply hid; unfold pubRes; rw [if_neg HK.out, if_pos hp]
      have HPB : Hid ((Tm.deep (Tm.pk k) != 0) = false) := by apply hid; simpa using hp
      clear hp
      go_enter Tryz.func69, Tryz.ntmps69
      go_wp2_with fail
      refine (right_list k _).mono ?_
      rintro e w1 ⟨rfl, hb⟩
      have HB := hid hb
      clear hb
      rw [HKB.out]
      go_wp2_with fail
      refine (key_any k _ HK.out).mono ?_
      rintro e w2 ⟨rfl, hb⟩
      have HB2 := hid (HB.out.trans (hb.mono HB.out.size))
      clear hb
      go_wp2_with fail
      refine (right_list (Tm.pk k) _).mono ?_
      rintro e w3 ⟨rfl, hb⟩
      have HB3 := hid (HB2.out.trans (hb.mono HB2.out.size))
      clear hb
      rw [HPB.out]
      go_wp2_with fail
      go_ret2
      exact ⟨by rw [HR.out]; rfl, HB3.out⟩
    · have HR : Hid (pubRes k = (Tm.pk k, 0)) := by apply hid; unfold pubRes; rw [if_neg HK.out, if_neg hp]
      have HPB : Hid ((Tm.deep (Tm.pk k) != 0) = true) := by apply hid; simpa using hp
      clear hp
      go_enter Tryz.func69, Tryz.ntmps69
      go_wp2_with fail
      refine (right_list k _).mono ?_
      rintro e w1 ⟨rfl, hb⟩
      have HB := hid hb
      clear hb
      rw [HKB.out]
      go_wp2_with fail
      refine (key_any k _ HK.out).mono ?_
      rintro e w2 ⟨rfl, hb⟩
      have HB2 := hid (HB.out.trans (hb.mono HB.out.size))
      clear hb
      go_wp2_with fail
      refine (right_list (Tm.pk k) _).mono ?_
      rintro e w3 ⟨rfl, hb⟩
      have HB3 := hid (HB2.out.trans (hb.mono HB2.out.size))
      clear hb
      rw [HPB.out]
      go_wp2_with fail
      go_ret2
      exact ⟨by rw [HR.out]; rfl, HB3.out⟩

theorem st_idx {l : Bs} {c : UInt8} {t : Bs} (h : l = c :: t) (h2 : 0 < (⟨l.toArray⟩ : ByteArray).size) : (⟨l.toArray⟩ : ByteArray)[0] = c := by
  subst h; rfl

/-- what Joint and Bound answer -/
def jointRes (a b : Bs) : Bs × Nat := if Tm.isPk a.head? && Tm.isPk b.head? then bRes 87 [] [a, b] else ([], 10)
def boundRes (a b : Bs) : Bs × Nat := if Tm.isPk a.head? then bRes 76 [] [a, b] else ([], 10)

/-- what Agree answers -/
def agreeRes (k p : Bs) : Bs × Nat :=
  if Tm.deep p = 0 ∨ p.head? ≠ some 80 then ([], 10) else if Tm.leB k p.tail then bRes 88 [] [k, p.tail] else bRes 88 [] [p.tail, k]

theorem st_tail (c : UInt8) (t : Bs) : (⟨(c :: t).toArray⟩ : ByteArray).extract 1 (⟨(c :: t).toArray⟩ : ByteArray).size = ⟨t.toArray⟩ := by
  rw [extract_eq]
  apply congrArg ByteArray.mk
  apply congrArg
  show ((c :: t).drop 1).take _ = t
  rw [st_size]
  simp

theorem st_leB (a b : Bs) : (Op.bytesLess (⟨a.toArray⟩ : ByteArray).toList (⟨b.toArray⟩ : ByteArray).toList || (⟨a.toArray⟩ : ByteArray).toList == (⟨b.toArray⟩ : ByteArray).toList) = Tm.leB a b := by
  rw [Lib.toList_data, Lib.toList_data, bytesLess_blt]
  rfl

theorem agree_ways {k t : Bs} (h : (!Op.bytesLess k t) = true ∧ (!k == t) = true) : Tm.leB k t = false := by
  unfold Tm.leB; rw [← bytesLess_blt]
  simp only [Bool.not_eq_true'] at h
  rw [h.1, h.2]; rfl
theorem agree_ways' {k t : Bs} (h : (!Op.bytesLess k t) = false ∨ (!k == t) = false) : Tm.leB k t = true := by
  unfold Tm.leB; rw [← bytesLess_blt]
  simp only [Bool.not_eq_false'] at h
  rcases h with h | h
  · rw [h]; rfl
  · rw [h, Bool.or_true]

end Go.Proofs.YtfnnhekjeobicaaGreat
