/- What the document's calls on keys and signatures answer: the rest. -/
import Derived.Test.YtcmpiffkmnbepaaDoorRAsk
namespace Go.Proofs.YtcmpiffkmnbepaaDoor
open Go.RowKit

set_option maxHeartbeats 1000000 in
set_option maxRecDepth 100000 in
theorem rkey_bind (p q : Bs) (hd : Tm.deep (75 :: (p ++ q)) ≠ 0) (hk : Tm.kidsOf 63 (75 :: (p ++ q)) = [p, q]) (hr : Tm.pk (75 :: (p ++ q)) = 76 :: (Tm.pk p ++ q))
    (hlp : (Tm.pk p).length ≤ 40000) (hlq : q.length ≤ 40000) (kp : KeyY p) : KeyY (75 :: (p ++ q)) := by
  intro w
  have HR := hid hr
  have HO := hid (ropen_yes 75 (p ++ q) hd)
  have HK := hid hk
  have KP := hid kp
  unfold OpenY at HO
  unfold KeyY at KP
  clear hd hr hk kp
  have hxv : ∃ X : ByteArray, X = setX (75 :: (p ++ q)) ⟨#[]⟩ := ⟨_, rfl⟩
  have hnv : ∃ N : Int, N = setN (75 :: (p ++ q)) 0 := ⟨_, rfl⟩
  obtain ⟨X, hX⟩ := hxv
  obtain ⟨N, hN⟩ := hnv
  rw [← hX, ← hN, HK.out] at HO
  clear hX hN HK
  generalize 75 :: (p ++ q) = t at *
  go_enter Tryd.func62, Tryd.ntmps62
  go_wp2_with fail
  refine (HO.out _).mono ?_
  rintro e w1 ⟨kids, rfl, hown, hb⟩
  obtain ⟨g, cap, rfl, g0, g1, gs⟩ := own_two hown
  have HSS := hid (KK.new (cap := cap) (op := 75) (N := N) (X := X) hb g0 g1 gs)
  clear hb hown g0 g1
  have hln : ¬ 9223372036854775807 < 1 + (Tm.pk p).length := by omega
  have hln2 : ¬ 9223372036854775807 < 1 + (Tm.pk p).length + q.length := by omega
  go_wp2_with fail
  go_region_held3 (fun wx => wx.cell? ⟨w1.heap.size, 3, none⟩ = some (.slice (some ⟨g, 0, none⟩) 2 cap) ∧ wx.cell? ⟨g, 0, none⟩ = some (St p) ∧ wx.cell? ⟨g, 1, none⟩ = some (St q)) (exact ⟨HSS.out.x3, HSS.out.k0, HSS.out.k1⟩) (first | (go_at_call_of 62 (St p); refine (KP.out _).mono ?_; rintro e wN ⟨rfl, hb⟩; have hSN := (by first | exact HSS.out.below hb | exact HSS.out.below' hb : KK w w1.heap.size g (.slice (some ⟨g, 0, none⟩) 2 cap) p q wN); clear HSS hb; have HSS := hid hSN; clear hSN))
  all_goals
    go_wp2_with fail
    go_ret
    refine ⟨(congrArg (fun x => Ending.returned (Value.string x)) (st_two 76 (Tm.pk p) q)).trans (by rw [HR.out]), ?_⟩
    first | exact HSS.out.bel | exact (HSS.out.drewN _).bel

/-- the document's key of any right term -/
theorem rkey_all : ∀ (n : Nat) (k : Bs), k.length ≤ n → Tm.deep k ≠ 0 → KeyY k := by
  intro n
  induction n with
  | zero =>
    intro k hk hd
    have : k = [] := List.eq_nil_of_length_eq_zero (by omega)
    subst this
    exact absurd rfl hd
  | succ n ih =>
    intro k hk hd
    match k with
    | [] => exact absurd rfl hd
    | c :: l =>
      have hl := (Tm.deep_is hd).2
      by_cases h1 : c = 86
      · subst h1
        obtain ⟨p, q, a, b, hkk, rfl, hp, hq, ha, hb, _⟩ := kids_two hd (by decide)
        simp at hk hl
        have lp := (Tm.pk_of hp (by omega)).2.2.1
        have lq := (Tm.pk_of hq (by omega)).2.2.1
        exact rkey_join p q hd hkk (Tm.pk_join hp hq (by omega) (by omega)) (by omega) (by omega)
          (ih p (by omega) (is_right hp (by omega) (by omega))) (ih q (by omega) (is_right hq (by omega) (by omega)))
      · by_cases h2 : c = 75
        · subst h2
          obtain ⟨p, q, a, b, hkk, rfl, hp, hq, ha, hb, _⟩ := kids_two hd (by decide)
          simp at hk hl
          have lp := (Tm.pk_of hp (by omega)).2.2.1
          exact rkey_bind p q hd hkk (Tm.pk_bind hp hq (by omega) (by omega)) (by omega) (by omega)
            (ih p (by omega) (is_right hp (by omega) (by omega)))
        · exact rkey_else c l hd h1 h2

theorem rkey_any (k : Bs) (w : World) (hd : Tm.deep k ≠ 0) : Calls Tryd.prog 62 #[St k] w fun en w' => en = .returned (St (Tm.pk k)) ∧ Below w.heap.size w w' := rkey_all k.length k (Nat.le_refl _) hd w

set_option maxHeartbeats 1000000 in
set_option maxRecDepth 100000 in
theorem rpubs_any (k : Bs) (w : World) : Calls Tryd.prog 39 #[St k] w fun en w' => en = made (pubRes k) ∧ Below w.heap.size w w' := by
  by_cases hk : Tm.deep k = 0
  · have HR : Hid (pubRes k = ([], 10)) := by apply hid; unfold pubRes; rw [if_pos hk]
    have HK := hid hk
    clear hk
    go_enter Tryd.func39, Tryd.ntmps39
    go_wp2_with fail
    refine (rright_any k _).mono ?_
    rintro e w1 ⟨rfl, hb⟩
    have HB := hid hb
    clear hb
    rw [HK.out]
    go_wp2_with fail
    go_ret2
    exact ⟨by rw [HR.out]; rfl, HB.out⟩
  · have HR : Hid (pubRes k = madeRes (Tm.pk k)) := by apply hid; unfold pubRes madeRes; rw [if_neg hk]
    have HK := hid hk
    have HKB : Hid ((Tm.deep k != 0) = true) := by apply hid; simpa using hk
    clear hk
    go_enter Tryd.func39, Tryd.ntmps39
    go_wp2_with fail
    refine (rright_any k _).mono ?_
    rintro e w1 ⟨rfl, hb⟩
    have HB := hid hb
    clear hb
    rw [HKB.out]
    go_wp2_with fail
    refine (rkey_any k _ HK.out).mono ?_
    rintro e w2 ⟨rfl, hb⟩
    have HB2 := hid (HB.out.trans (hb.mono HB.out.size))
    clear hb
    go_wp2_with fail
    refine (rmade_any (Tm.pk k) _).mono ?_
    rintro e w3 ⟨rfl, hb⟩
    have HB3 := hid (HB2.out.trans (hb.mono HB2.out.size))
    clear hb
    go_wp2_with fail
    go_ret2
    exact ⟨by rw [HR.out]; rfl, HB3.out⟩

set_option maxHeartbeats 1000000 in
set_option maxRecDepth 100000 in
theorem rverify_any (p m s : Bs) (w : World) : Calls Tryd.prog 46 #[St p, St m, St s] w fun en w' => en = .returned (.bool (verifyRes p m s)) ∧ Below w.heap.size w w' := by
  by_cases hd : Tm.deep s = 0
  · have HR : Hid (verifyRes p m s = false) := by apply hid; unfold verifyRes; rw [if_neg (by simp [hd])]
    have HD := hid hd
    clear hd
    go_enter Tryd.func46, Tryd.ntmps46
    go_wp2_with fail
    refine (ropen_no s _ HD.out).mono ?_
    rintro e w1 ⟨rfl, hb⟩
    have HB := hid (hb.alloc (o := .cells #[.int .u8 0, .int .i64 0, .string ⟨#[]⟩, .slice none 0 0] 25) hb.size)
    clear hb
    go_wp2_with fail
    go_ret
    exact ⟨by rw [HR.out]; rfl, HB.out⟩
  · match s with
    | [] => exact absurd rfl hd
    | c0 :: l =>
      have HD := hid hd
      have HO := hid (ropen_yes c0 l hd)
      unfold OpenY at HO
      have hxv : ∃ X : ByteArray, X = setX (c0 :: l) ⟨#[]⟩ := ⟨_, rfl⟩
      have hnv : ∃ N : Int, N = setN (c0 :: l) 0 := ⟨_, rfl⟩
      obtain ⟨X, hX⟩ := hxv
      obtain ⟨N, hN⟩ := hnv
      rw [← hX, ← hN] at HO
      clear hX hN
      by_cases hc : c0 = 83
      · subst hc
        obtain ⟨k, m', a, b, hk, hpq, hp, hq, ha, hb64, _⟩ := kids_two hd (by decide)
        have hll := (Tm.deep_is hd).2
        simp [hpq] at hll
        have hkd : Tm.deep k ≠ 0 := is_right hp (by omega) (by omega)
        have HKD := hid hkd
        rw [hk] at HO
        by_cases hm : m' = m
        · have HR : Hid (verifyRes p m (83 :: l) = (p == Tm.pk k)) := by
            apply hid; unfold verifyRes; rw [if_pos ⟨hd, rfl⟩, hk]; simp only [hm, beq_self_eq_true, Bool.true_and]; exact Bool.eq_iff_iff.2 (by simp only [beq_iff_eq]; exact eq_comm)
          have hne : (m' == m) = true := by simp [hm]
          clear hd hk hpq hll hm hkd
          generalize (83 : UInt8) :: l = t at *
          go_enter Tryd.func46, Tryd.ntmps46
          go_wp2_with fail
          refine (HO.out _).mono ?_
          rintro e w1 ⟨kids, rfl, hown, hb⟩
          obtain ⟨g, cap, rfl, g0, g1, gs⟩ := own_two hown
          have HB := hid hb
          clear hb hown
          go_wp2_with fail
          refine (rkey_any k _ HKD.out).mono ?_
          rintro e w2 ⟨rfl, hb⟩
          have HB2 := hid (HB.out.trans (((below_alloc_self' w1 _).mono HB.out.size).trans (hb.mono (by have := HB.out.size; simp; omega))))
          clear hb
          go_wp2_with fail
          go_ret
          exact ⟨by rw [HR.out]; rfl, HB2.out⟩
        · have HR : Hid (verifyRes p m (83 :: l) = false) := by
            apply hid; unfold verifyRes; rw [if_pos ⟨hd, rfl⟩, hk]; simp [hm]
          have hne : (m' == m) = false := by simp [hm]
          clear hd hk hpq hll hm hkd
          generalize (83 : UInt8) :: l = t at *
          go_enter Tryd.func46, Tryd.ntmps46
          go_wp2_with fail
          refine (HO.out _).mono ?_
          rintro e w1 ⟨kids, rfl, hown, hb⟩
          obtain ⟨g, cap, rfl, g0, g1, gs⟩ := own_two hown
          have HB := hid hb
          clear hb hown
          go_wp2_with fail
          go_ret
          exact ⟨by rw [HR.out]; rfl, HB.out.alloc HB.out.size _⟩
      · have HR : Hid (verifyRes p m (c0 :: l) = false) := by apply hid; unfold verifyRes; rw [if_neg (by simp [hc])]
        have hne : ((c0.toNat : Int) == 83) = false := byte_ne hc
        clear hd hc
        generalize c0 :: l = t at *
        go_enter Tryd.func46, Tryd.ntmps46
        go_wp2_with fail
        refine (HO.out _).mono ?_
        rintro e w1 ⟨kids, rfl, hown, hb⟩
        obtain ⟨ao, kn, kc, rfl⟩ := own_slice hown
        have HB := hid hb
        clear hb hown
        go_wp2_with fail
        go_ret
        exact ⟨by rw [HR.out]; rfl, HB.out.alloc HB.out.size _⟩
end Go.Proofs.YtcmpiffkmnbepaaDoor
