import Derived.Test.YtdllpklecdmghaaGreatDoorROpenKAll
import Derived.Test.YtdllpklecdmghaaGreatDoorKeysAll
import Derived.Deep.RegionHeld3
/- What the document's calls on keys, signatures and boxes answer. -/
namespace Go.Proofs.YtdllpklecdmghaaGreatDoor
open Go.RowKit
def KeyY (k : Bs) : Prop := ∀ w, Calls Tryz.prog 93 #[St k] w fun en w' => en = .returned (St (Tm.pk k)) ∧ Below w.heap.size w w'
set_option maxHeartbeats 1000000 in
set_option maxRecDepth 100000 in
theorem rkey_else (c : UInt8) (l : Bs) (hd : Tm.deep (c :: l) ≠ 0) (h1 : c ≠ 86) (h2 : c ≠ 75) : KeyY (c :: l) := by
  intro w
  have HR : Hid (Tm.pk (c :: l) = 80 :: (c :: l)) := hid (Tm.pk_else (Tm.deep_is hd).1 (Tm.deep_le _) (by simp [h1]) (by simp [h2]))
  have e1 : ((c.toNat : Int) == 86) = false := byte_ne h1
  have e2 : ((c.toNat : Int) == 75) = false := byte_ne h2
  have HO := hid (ropen_yes c l hd)
  have HL : Hid ((c :: l).length ≤ 16384) := hid (Tm.deep_is hd).2
  unfold OpenY at HO
  clear hd h1 h2
  have hxv : ∃ X : ByteArray, X = setX (c :: l) ⟨#[]⟩ := ⟨_, rfl⟩
  have hnv : ∃ N : Int, N = setN (c :: l) 0 := ⟨_, rfl⟩
  obtain ⟨X, hX⟩ := hxv
  obtain ⟨N, hN⟩ := hnv
  rw [← hX, ← hN] at HO
  clear hX hN
  generalize c :: l = t at *
  have hln : ¬ 9223372036854775807 < 1 + t.length := by have := HL.out; omega
  go_enter Tryz.func93, Tryz.ntmps93
  go_wp2_with fail
  refine (HO.out _).mono ?_
  rintro e w1 ⟨kids, rfl, hown, hb⟩
  obtain ⟨ao, kn, kc, rfl⟩ := own_slice hown
  have HB := hid hb
  clear hb hown
  go_wp2_with fail
  go_ret
  refine ⟨?_, HB.out.alloc HB.out.size _⟩
  rw [HR.out]
  rfl
structure KK (w : World) (xb g : Nat) (kv : Value) (p q : Bs) (W : World) : Prop where
  bel : Below w.heap.size w W
  x3 : W.cell? ⟨xb, 3, none⟩ = some kv
  k0 : W.cell? ⟨g, 0, none⟩ = some (St p)
  k1 : W.cell? ⟨g, 1, none⟩ = some (St q)
  sz : xb < W.heap.size ∧ g < W.heap.size
theorem KK.below {w : World} {xb g : Nat} {kv : Value} {p q : Bs} {W W' : World} (h : KK w xb g kv p q W) (hb : Below W.heap.size W W') : KK w xb g kv p q W' :=
  ⟨h.bel.trans (hb.mono h.bel.size), (hb.cell (p := ⟨xb, 3, none⟩) h.sz.1).trans h.x3, (hb.cell (p := ⟨g, 0, none⟩) h.sz.2).trans h.k0, (hb.cell (p := ⟨g, 1, none⟩) h.sz.2).trans h.k1,
    Nat.lt_of_lt_of_le h.sz.1 hb.size, Nat.lt_of_lt_of_le h.sz.2 hb.size⟩
theorem KK.below' {w : World} {xb g : Nat} {kv : Value} {p q : Bs} {W W' : World} (h : KK w xb g kv p q W) (hb : Below W.drew.heap.size W.drew W') : KK w xb g kv p q W' :=
  h.below ⟨hb.os, hb.tape, hb.output, hb.size, hb.block⟩
theorem KK.drewN {w : World} {xb g : Nat} {kv : Value} {p q : Bs} {W : World} (h : KK w xb g kv p q W) (n : Nat) : KK w xb g kv p q (W.drewN n) :=
  h.below ⟨rfl, rfl, rfl, Nat.le_refl _, fun _ _ => rfl⟩
theorem KK.new {w w1 : World} {g cap : Nat} {p q : Bs} {op N : Int} {X : ByteArray} (hb : Below w.heap.size w w1) (g0 : w1.cell? ⟨g, 0, none⟩ = some (St p)) (g1 : w1.cell? ⟨g, 1, none⟩ = some (St q)) (gs : g < w1.heap.size) :
    KK w w1.heap.size g (.slice (some ⟨g, 0, none⟩) 2 cap) p q (w1.alloc (.cells #[.int .u8 op, .int .i64 N, .string X, .slice (some ⟨g, 0, none⟩) 2 cap] 101)) :=
  ⟨hb.alloc hb.size _, by rw [cell_of_heap (heap_alloc_new w1 _)]; rfl, ((below_alloc_self' w1 _).cell (p := ⟨g, 0, none⟩) gs).trans g0, ((below_alloc_self' w1 _).cell (p := ⟨g, 1, none⟩) gs).trans g1, by simp, by simp; omega⟩
set_option maxHeartbeats 1000000 in
set_option maxRecDepth 100000 in
theorem rkey_join (p q : Bs) (hd : Tm.deep (86 :: (p ++ q)) ≠ 0) (hk : Tm.kidsOf 63 (86 :: (p ++ q)) = [p, q]) (hr : Tm.pk (86 :: (p ++ q)) = 87 :: (Tm.pk p ++ Tm.pk q))
    (hlp : (Tm.pk p).length ≤ 40000) (hlq : (Tm.pk q).length ≤ 40000) (kp : KeyY p) (kq : KeyY q) : KeyY (86 :: (p ++ q)) := by
  intro w
  have HR := hid hr
  have HO := hid (ropen_yes 86 (p ++ q) hd)
  have HK := hid hk
  have KP := hid kp
  have KQ := hid kq
  unfold OpenY at HO
  unfold KeyY at KP KQ
  clear hd hr hk kp kq
  have hxv : ∃ X : ByteArray, X = setX (86 :: (p ++ q)) ⟨#[]⟩ := ⟨_, rfl⟩
  have hnv : ∃ N : Int, N = setN (86 :: (p ++ q)) 0 := ⟨_, rfl⟩
  obtain ⟨X, hX⟩ := hxv
  obtain ⟨N, hN⟩ := hnv
  rw [← hX, ← hN, HK.out] at HO
  clear hX hN HK
  generalize 86 :: (p ++ q) = t at *
  go_enter Tryz.func93, Tryz.ntmps93
  go_wp2_with fail
  refine (HO.out _).mono ?_
  rintro e w1 ⟨kids, rfl, hown, hb⟩
  obtain ⟨g, cap, rfl, g0, g1, gs⟩ := own_two hown
  have HSS := hid (KK.new (cap := cap) (op := 86) (N := N) (X := X) hb g0 g1 gs)
  clear hb hown g0 g1
  have hln : ¬ 9223372036854775807 < 1 + (Tm.pk p).length := by omega
  have hln2 : ¬ 9223372036854775807 < 1 + (Tm.pk p).length + (Tm.pk q).length := by omega
  go_wp2_with fail
  go_region_held3 (fun wx => wx.cell? ⟨w1.heap.size, 3, none⟩ = some (.slice (some ⟨g, 0, none⟩) 2 cap) ∧ wx.cell? ⟨g, 0, none⟩ = some (St p) ∧ wx.cell? ⟨g, 1, none⟩ = some (St q)) (exact ⟨HSS.out.x3, HSS.out.k0, HSS.out.k1⟩) (first | (go_at_call_of 93 (St p); refine (KP.out _).mono ?_; rintro e wN ⟨rfl, hb⟩; have hSN := (by first | exact HSS.out.below hb | exact HSS.out.below' hb : KK w w1.heap.size g (.slice (some ⟨g, 0, none⟩) 2 cap) p q wN); clear HSS hb; have HSS := hid hSN; clear hSN) | (go_at_call_of 93 (St q); refine (KQ.out _).mono ?_; rintro e wN ⟨rfl, hb⟩; have hSN := (by first | exact HSS.out.below hb | exact HSS.out.below' hb : KK w w1.heap.size g (.slice (some ⟨g, 0, none⟩) 2 cap) p q wN); clear HSS hb; have HSS := hid hSN; clear hSN))
  all_goals
    go_wp2_with fail
    go_ret
    refine ⟨(congrArg (fun x => Ending.returned (Value.string x)) (st_two 87 (Tm.pk p) (Tm.pk q))).trans (by rw [HR.out]), ?_⟩
    first | exact HSS.out.bel | exact (HSS.out.drewN _).bel
end Go.Proofs.YtdllpklecdmghaaGreatDoor
/- What the document's calls on keys and signatures answer: the rest. -/
namespace Go.Proofs.YtdllpklecdmghaaGreatDoor
open Go.RowKit
set_option maxHeartbeats 1000000 in
set_option maxRecDepth 100000 in
theorem rkey_bind (p q : Bs) (hd : Tm.deep (75 :: (p ++ q)) ≠ 0) (hk : Tm.kidsOf 63 (75 :: (p ++ q)) = [p, q]) (hr : Tm.pk (75 :: (p ++ q)) = 76 :: (Tm.pk p ++ q))
    (hlp : (Tm.pk p).length ≤ 40000) (hlq : q.length ≤ 40000) (kp : KeyY p) : KeyY (75 :: (p ++ q)) := by
  intro w
  have HR := hid hr
  have HO := hid (ropen_yes 75 (p ++ q) hd)
  have HK := hid hk
  have KP := hid kp
  unfold OpenY at HO
  unfold KeyY at KP
  clear hd hr hk kp
  have hxv : ∃ X : ByteArray, X = setX (75 :: (p ++ q)) ⟨#[]⟩ := ⟨_, rfl⟩
  have hnv : ∃ N : Int, N = setN (75 :: (p ++ q)) 0 := ⟨_, rfl⟩
  obtain ⟨X, hX⟩ := hxv
  obtain ⟨N, hN⟩ := hnv
  rw [← hX, ← hN, HK.out] at HO
  clear hX hN HK
  generalize 75 :: (p ++ q) = t at *
  go_enter Tryz.func93, Tryz.ntmps93
  go_wp2_with fail
  refine (HO.out _).mono ?_
  rintro e w1 ⟨kids, rfl, hown, hb⟩
  obtain ⟨g, cap, rfl, g0, g1, gs⟩ := own_two hown
  have HSS := hid (KK.new (cap := cap) (op := 75) (N := N) (X := X) hb g0 g1 gs)
  clear hb hown g0 g1
  have hln : ¬ 9223372036854775807 < 1 + (Tm.pk p).length := by omega
  have hln2 : ¬ 9223372036854775807 < 1 + (Tm.pk p).length + q.length := by omega
  go_wp2_with fail
  go_region_held3 (fun wx => wx.cell? ⟨w1.heap.size, 3, none⟩ = some (.slice (some ⟨g, 0, none⟩) 2 cap) ∧ wx.cell? ⟨g, 0, none⟩ = some (St p) ∧ wx.cell? ⟨g, 1, none⟩ = some (St q)) (exact ⟨HSS.out.x3, HSS.out.k0, HSS.out.k1⟩) (first | (go_at_call_of 93 (St p); refine (KP.out _).mono ?_; rintro e wN ⟨rfl, hb⟩; have hSN := (by first | exact HSS.out.below hb | exact HSS.out.below' hb : KK w w1.heap.size g (.slice (some ⟨g, 0, none⟩) 2 cap) p q wN); clear HSS hb; have HSS := hid hSN; clear hSN))
  all_goals
    go_wp2_with fail
    go_ret
    refine ⟨(congrArg (fun x => Ending.returned (Value.string x)) (st_two 76 (Tm.pk p) q)).trans (by rw [HR.out]), ?_⟩
    first | exact HSS.out.bel | exact (HSS.out.drewN _).bel
theorem rkey_all : ∀ (n : Nat) (k : Bs), k.length ≤ n → Tm.deep k ≠ 0 → KeyY k := by
  intro n
  induction n with
  | zero =>
    intro k hk hd
    have : k = [] := List.eq_nil_of_length_eq_zero (by omega)
    subst this
    exact absurd rfl hd
  | succ n ih =>
    intro k hk hd
    match k with
    | [] => exact absurd rfl hd
    | c :: l =>
      have hl := (Tm.deep_is hd).2
      by_cases h1 : c = 86
      · subst h1
        obtain ⟨p, q, a, b, hkk, rfl, hp, hq, ha, hb, _⟩ := kids_two hd (by decide)
        simp at hk hl
        have lp := (Tm.pk_of hp (by omega)).2.2.1
        have lq := (Tm.pk_of hq (by omega)).2.2.1
        exact rkey_join p q hd hkk (Tm.pk_join hp hq (by omega) (by omega)) (by omega) (by omega)
          (ih p (by omega) (is_right hp (by omega) (by omega))) (ih q (by omega) (is_right hq (by omega) (by omega)))
      · by_cases h2 : c = 75
        · subst h2
          obtain ⟨p, q, a, b, hkk, rfl, hp, hq, ha, hb, _⟩ := kids_two hd (by decide)
          simp at hk hl
          have lp := (Tm.pk_of hp (by omega)).2.2.1
          exact rkey_bind p q hd hkk (Tm.pk_bind hp hq (by omega) (by omega)) (by omega) (by omega)
            (ih p (by omega) (is_right hp (by omega) (by omega)))
        · exact rkey_else c l hd h1 h2
theorem rkey_any (k : Bs) (w : World) (hd : Tm.deep k ≠ 0) : Calls Tryz.prog 93 #[St k] w fun en w' => en = .returned (St (Tm.pk k)) ∧ Below w.heap.size w w' := rkey_all k.length k (Nat.le_refl _) hd w
set_option maxHeartbeats 1000000 in
set_option maxRecDepth 100000 in
theorem rverify_any (p m s : Bs) (w : World) : Calls Tryz.prog 74 #[St p, St m, St s] w fun en w' => en = .returned (.bool (verifyRes p m s)) ∧ Below w.heap.size w w' := by
  by_cases hd : Tm.deep s = 0
  · have HR : Hid (verifyRes p m s = false) := by apply hid; unfold verifyRes; rw [if_neg (by simp [hd])]
    have HD := hid hd
    clear hd
    go_enter Tryz.func74, Tryz.ntmps74
    go_wp2_with fail
    refine (ropen_no s _ HD.out).mono ?_
    rintro e w1 ⟨rfl, hb⟩
    have HB := hid (hb.alloc (o := .cells #[.int .u8 0, .int .i64 0, .string ⟨#[]⟩, .slice none 0 0] 101) hb.size)
    clear hb
    go_wp2_with fail
    go_ret
    exact ⟨by rw [HR.out]; rfl, HB.out⟩
  · match s with
    | [] => exact absurd rfl hd
    | c0 :: l =>
      have HD := hid hd
      have HO := hid (ropen_yes c0 l hd)
      unfold OpenY at HO
      have hxv : ∃ X : ByteArray, X = setX (c0 :: l) ⟨#[]⟩ := ⟨_, rfl⟩
      have hnv : ∃ N : Int, N = setN (c0 :: l) 0 := ⟨_, rfl⟩
      obtain ⟨X, hX⟩ := hxv
      obtain ⟨N, hN⟩ := hnv
      rw [← hX, ← hN] at HO
      clear hX hN
      by_cases hc : c0 = 83
      · subst hc
        obtain ⟨k, m', a, b, hk, hpq, hp, hq, ha, hb64, _⟩ := kids_two hd (by decide)
        have hll := (Tm.deep_is hd).2
        simp [hpq] at hll
        have hkd : Tm.deep k ≠ 0 := is_right hp (by omega) (by omega)
        have HKD := hid hkd
        rw [hk] at HO
        by_cases hm : m' = m
        · have HR : Hid (verifyRes p m (83 :: l) = (p == Tm.pk k)) := by
            apply hid; unfold verifyRes; rw [if_pos ⟨hd, rfl⟩, hk]; simp only [hm, beq_self_eq_true, Bool.true_and]; exact Bool.eq_iff_iff.2 (by simp only [beq_iff_eq]; exact eq_comm)
          have hne : (m' == m) = true := by simp [hm]
          clear hd hk hpq hll hm hkd
          generalize (83 : UInt8) :: l = t at *
          go_enter Tryz.func74, Tryz.ntmps74
          go_wp2_with fail
          refine (HO.out _).mono ?_
          rintro e w1 ⟨kids, rfl, hown, hb⟩
          obtain ⟨g, cap, rfl, g0, g1, gs⟩ := own_two hown
          have HB := hid hb
          clear hb hown
          go_wp2_with fail
          refine (rkey_any k _ HKD.out).mono ?_
          rintro e w2 ⟨rfl, hb⟩
          have HB2 := hid (HB.out.trans (((below_alloc_self' w1 _).mono HB.out.size).trans (hb.mono (by have := HB.out.size; simp; omega))))
          clear hb
          go_wp2_with fail
          go_ret
          exact ⟨by rw [HR.out]; rfl, HB2.out⟩
        · have HR : Hid (verifyRes p m (83 :: l) = false) := by
            apply hid; unfold verifyRes; rw [if_pos ⟨hd, rfl⟩, hk]; simp [hm]
          have hne : (m' == m) = false := by simp [hm]
          clear hd hk hpq hll hm hkd
          generalize (83 : UInt8) :: l = t at *
          go_enter Tryz.func74, Tryz.ntmps74
          go_wp2_with fail
          refine (HO.out _).mono ?_
          rintro e w1 ⟨kids, rfl, hown, hb⟩
          obtain ⟨g, cap, rfl, g0, g1, gs⟩ := own_two hown
          have HB := hid hb
          clear hb hown
          go_wp2_with fail
          go_ret
          exact ⟨by rw [HR.out]; rfl, HB.out.alloc HB.out.size _⟩
      · have HR : Hid (verifyRes p m (c0 :: l) = false) := by apply hid; unfold verifyRes; rw [if_neg (by simp [hc])]
        have hne : ((c0.toNat : Int) == 83) = false := byte_ne hc
        clear hd hc
        generalize c0 :: l = t at *
        go_enter Tryz.func74, Tryz.ntmps74
        go_wp2_with fail
        refine (HO.out _).mono ?_
        rintro e w1 ⟨kids, rfl, hown, hb⟩
        obtain ⟨ao, kn, kc, rfl⟩ := own_slice hown
        have HB := hid hb
        clear hb hown
        go_wp2_with fail
        go_ret
        exact ⟨by rw [HR.out]; rfl, HB.out.alloc HB.out.size _⟩
end Go.Proofs.YtdllpklecdmghaaGreatDoor
