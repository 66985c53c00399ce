import Derived.Test.YtcmpiffkmnbepaaDoorROpenK
import Derived.Test.YtcmpiffkmnbepaaDoorRMade
import Derived.Deep.RegionHeld3
import Derived.Test.YtcmpiffkmnbepaaDoorWorks
/- What the document's calls on keys, signatures and boxes answer. -/
namespace Go.Proofs.YtcmpiffkmnbepaaDoor
open Go.RowKit

set_option maxHeartbeats 1000000 in
set_option maxRecDepth 100000 in
theorem runbox_any (k c : Bs) (w : World) : Calls Tryd.prog 44 #[St k, St c] w fun en w' => en = asked2 (unboxRes k c) ∧ Below w.heap.size w w' := by
  by_cases hd : Tm.deep c = 0
  · have HR : Hid (unboxRes k c = ([], false)) := by apply hid; unfold unboxRes; rw [if_neg (by simp [hd])]
    have HD := hid hd
    clear hd
    go_enter Tryd.func44, Tryd.ntmps44
    go_wp2_with fail
    refine (ropen_no c _ HD.out).mono ?_
    rintro e w1 ⟨rfl, hb⟩
    have HB := hid (hb.alloc (o := .cells #[.int .u8 0, .int .i64 0, .string ⟨#[]⟩, .slice none 0 0] 25) hb.size)
    clear hb
    go_wp2_with fail
    go_ret2
    exact ⟨by rw [HR.out]; rfl, HB.out⟩
  · match c with
    | [] => exact absurd rfl hd
    | c0 :: l =>
      have HD := hid hd
      by_cases hc : c0 = 66
      · subst hc
        obtain ⟨p, q, a, b, hk, hpq, hp, hq, ha, hb64, _⟩ := kids_two hd (by decide)
        have HK := hid hk
        by_cases hpk : p = k
        · have HR : Hid (unboxRes k (66 :: l) = (q, true)) := by
            apply hid; unfold unboxRes; rw [if_pos ⟨hd, rfl⟩, hk]; simp [hpk]
          have hne : (p == k) = true := by simp [hpk]
          clear hd hk hpk hpq
          go_enter Tryd.func44, Tryd.ntmps44
          go_wp2_with fail
          refine ((ropen_yes 66 l HD.out) _).mono ?_
          rintro e w1 ⟨kids, rfl, hown, hb⟩
          rw [HK.out] at hown
          obtain ⟨g, cap, rfl, g0, g1, gs⟩ := own_two hown
          have HB := hid hb
          clear hb hown
          have hxv : ∃ X : ByteArray, X = setX (66 :: l) ⟨#[]⟩ := ⟨_, rfl⟩
          have hnv : ∃ N : Int, N = setN (66 :: l) 0 := ⟨_, rfl⟩
          obtain ⟨X, hX⟩ := hxv
          obtain ⟨N, hN⟩ := hnv
          rw [← hX, ← hN]
          clear hX hN
          go_wp2_with fail
          go_ret2
          exact ⟨by rw [HR.out]; rfl, HB.out.alloc HB.out.size _⟩
        · have HR : Hid (unboxRes k (66 :: l) = ([], false)) := by
            apply hid; unfold unboxRes; rw [if_pos ⟨hd, rfl⟩, hk]; simp [hpk]
          have hne : (p == k) = false := by simp [hpk]
          clear hd hk hpk hpq
          go_enter Tryd.func44, Tryd.ntmps44
          go_wp2_with fail
          refine ((ropen_yes 66 l HD.out) _).mono ?_
          rintro e w1 ⟨kids, rfl, hown, hb⟩
          rw [HK.out] at hown
          obtain ⟨g, cap, rfl, g0, g1, gs⟩ := own_two hown
          have HB := hid hb
          clear hb hown
          have hxv : ∃ X : ByteArray, X = setX (66 :: l) ⟨#[]⟩ := ⟨_, rfl⟩
          have hnv : ∃ N : Int, N = setN (66 :: l) 0 := ⟨_, rfl⟩
          obtain ⟨X, hX⟩ := hxv
          obtain ⟨N, hN⟩ := hnv
          rw [← hX, ← hN]
          clear hX hN
          go_wp2_with fail
          go_ret2
          exact ⟨by rw [HR.out]; rfl, HB.out.alloc HB.out.size _⟩
      · have HR : Hid (unboxRes k (c0 :: l) = ([], false)) := by apply hid; unfold unboxRes; rw [if_neg (by simp [hc])]
        have hne : ((c0.toNat : Int) != 66) = true := by simp; intro h; exact hc (UInt8.toNat_inj.1 (by simp; omega))
        clear hd hc
        go_enter Tryd.func44, Tryd.ntmps44
        go_wp2_with fail
        refine ((ropen_yes c0 l HD.out) _).mono ?_
        rintro e w1 ⟨kids, rfl, hown, hb⟩
        obtain ⟨ao, kn, kc, rfl⟩ := own_slice hown
        have HB := hid hb
        clear hb hown
        have hxv : ∃ X : ByteArray, X = setX (c0 :: l) ⟨#[]⟩ := ⟨_, rfl⟩
        have hnv : ∃ N : Int, N = setN (c0 :: l) 0 := ⟨_, rfl⟩
        obtain ⟨X, hX⟩ := hxv
        obtain ⟨N, hN⟩ := hnv
        rw [← hX, ← hN]
        clear hX hN
        go_wp2_with fail
        go_ret2
        exact ⟨by rw [HR.out]; rfl, HB.out.alloc HB.out.size _⟩

/-- what the document's key answers -/
def KeyY (k : Bs) : Prop := ∀ w, Calls Tryd.prog 62 #[St k] w fun en w' => en = .returned (St (Tm.pk k)) ∧ Below w.heap.size w w'

/-- a block that was laid on top stays -/
theorem cell_kept {w w' : World} {cs : Array Value} {t : TypeId} (hb : Below (w.alloc (.cells cs t)).heap.size (w.alloc (.cells cs t)) w') (o : Nat) : w'.cell? ⟨w.heap.size, o, none⟩ = cs[o]? := by
  have h := hb.cell (p := ⟨w.heap.size, o, none⟩) (by simp)
  rw [h, cell_of_heap (heap_alloc_new w (.cells cs t))]

theorem cell_kept' {w w' : World} {cs : Array Value} {t : TypeId} (hb : Below (w.alloc (.cells cs t)).heap.size (w.alloc (.cells cs t)) w') {g o : Nat} (hg : g < w.heap.size) : w'.cell? ⟨g, o, none⟩ = w.cell? ⟨g, o, none⟩ := by
  have h := hb.cell (p := ⟨g, o, none⟩) (by simp; omega)
  have h2 := (below_alloc_self' w (.cells cs t)).cell (p := ⟨g, o, none⟩) hg
  rw [h, h2]

set_option maxHeartbeats 1000000 in
set_option maxRecDepth 100000 in
theorem rkey_else (c : UInt8) (l : Bs) (hd : Tm.deep (c :: l) ≠ 0) (h1 : c ≠ 86) (h2 : c ≠ 75) : KeyY (c :: l) := by
  intro w
  have HR : Hid (Tm.pk (c :: l) = 80 :: (c :: l)) := hid (Tm.pk_else (Tm.deep_is hd).1 (Tm.deep_le _) (by simp [h1]) (by simp [h2]))
  have e1 : ((c.toNat : Int) == 86) = false := byte_ne h1
  have e2 : ((c.toNat : Int) == 75) = false := byte_ne h2
  have HO := hid (ropen_yes c l hd)
  have HL : Hid ((c :: l).length ≤ 16384) := hid (Tm.deep_is hd).2
  unfold OpenY at HO
  clear hd h1 h2
  have hxv : ∃ X : ByteArray, X = setX (c :: l) ⟨#[]⟩ := ⟨_, rfl⟩
  have hnv : ∃ N : Int, N = setN (c :: l) 0 := ⟨_, rfl⟩
  obtain ⟨X, hX⟩ := hxv
  obtain ⟨N, hN⟩ := hnv
  rw [← hX, ← hN] at HO
  clear hX hN
  generalize c :: l = t at *
  have hln : ¬ 9223372036854775807 < 1 + t.length := by have := HL.out; omega
  go_enter Tryd.func62, Tryd.ntmps62
  go_wp2_with fail
  refine (HO.out _).mono ?_
  rintro e w1 ⟨kids, rfl, hown, hb⟩
  obtain ⟨ao, kn, kc, rfl⟩ := own_slice hown
  have HB := hid hb
  clear hb hown
  go_wp2_with fail
  go_ret
  refine ⟨?_, HB.out.alloc HB.out.size _⟩
  rw [HR.out]
  rfl

/-- two parts that lie there -/
structure KK (w : World) (xb g : Nat) (kv : Value) (p q : Bs) (W : World) : Prop where
  bel : Below w.heap.size w W
  x3 : W.cell? ⟨xb, 3, none⟩ = some kv
  k0 : W.cell? ⟨g, 0, none⟩ = some (St p)
  k1 : W.cell? ⟨g, 1, none⟩ = some (St q)
  sz : xb < W.heap.size ∧ g < W.heap.size
theorem KK.below {w : World} {xb g : Nat} {kv : Value} {p q : Bs} {W W' : World} (h : KK w xb g kv p q W) (hb : Below W.heap.size W W') : KK w xb g kv p q W' :=
  ⟨h.bel.trans (hb.mono h.bel.size), (hb.cell (p := ⟨xb, 3, none⟩) h.sz.1).trans h.x3, (hb.cell (p := ⟨g, 0, none⟩) h.sz.2).trans h.k0, (hb.cell (p := ⟨g, 1, none⟩) h.sz.2).trans h.k1,
    Nat.lt_of_lt_of_le h.sz.1 hb.size, Nat.lt_of_lt_of_le h.sz.2 hb.size⟩
theorem KK.below' {w : World} {xb g : Nat} {kv : Value} {p q : Bs} {W W' : World} (h : KK w xb g kv p q W) (hb : Below W.drew.heap.size W.drew W') : KK w xb g kv p q W' :=
  h.below ⟨hb.os, hb.tape, hb.output, hb.size, hb.block⟩
theorem KK.drewN {w : World} {xb g : Nat} {kv : Value} {p q : Bs} {W : World} (h : KK w xb g kv p q W) (n : Nat) : KK w xb g kv p q (W.drewN n) :=
  h.below ⟨rfl, rfl, rfl, Nat.le_refl _, fun _ _ => rfl⟩
theorem KK.new {w w1 : World} {g cap : Nat} {p q : Bs} {op N : Int} {X : ByteArray} (hb : Below w.heap.size w w1) (g0 : w1.cell? ⟨g, 0, none⟩ = some (St p)) (g1 : w1.cell? ⟨g, 1, none⟩ = some (St q)) (gs : g < w1.heap.size) :
    KK w w1.heap.size g (.slice (some ⟨g, 0, none⟩) 2 cap) p q (w1.alloc (.cells #[.int .u8 op, .int .i64 N, .string X, .slice (some ⟨g, 0, none⟩) 2 cap] 25)) :=
  ⟨hb.alloc hb.size _, by rw [cell_of_heap (heap_alloc_new w1 _)]; rfl, ((below_alloc_self' w1 _).cell (p := ⟨g, 0, none⟩) gs).trans g0, ((below_alloc_self' w1 _).cell (p := ⟨g, 1, none⟩) gs).trans g1, by simp, by simp; omega⟩

set_option maxHeartbeats 1000000 in
set_option maxRecDepth 100000 in
theorem rkey_join (p q : Bs) (hd : Tm.deep (86 :: (p ++ q)) ≠ 0) (hk : Tm.kidsOf 63 (86 :: (p ++ q)) = [p, q]) (hr : Tm.pk (86 :: (p ++ q)) = 87 :: (Tm.pk p ++ Tm.pk q))
    (hlp : (Tm.pk p).length ≤ 40000) (hlq : (Tm.pk q).length ≤ 40000) (kp : KeyY p) (kq : KeyY q) : KeyY (86 :: (p ++ q)) := by
  intro w
  have HR := hid hr
  have HO := hid (ropen_yes 86 (p ++ q) hd)
  have HK := hid hk
  have KP := hid kp
  have KQ := hid kq
  unfold OpenY at HO
  unfold KeyY at KP KQ
  clear hd hr hk kp kq
  have hxv : ∃ X : ByteArray, X = setX (86 :: (p ++ q)) ⟨#[]⟩ := ⟨_, rfl⟩
  have hnv : ∃ N : Int, N = setN (86 :: (p ++ q)) 0 := ⟨_, rfl⟩
  obtain ⟨X, hX⟩ := hxv
  obtain ⟨N, hN⟩ := hnv
  rw [← hX, ← hN, HK.out] at HO
  clear hX hN HK
  generalize 86 :: (p ++ q) = t at *
  go_enter Tryd.func62, Tryd.ntmps62
  go_wp2_with fail
  refine (HO.out _).mono ?_
  rintro e w1 ⟨kids, rfl, hown, hb⟩
  obtain ⟨g, cap, rfl, g0, g1, gs⟩ := own_two hown
  have HSS := hid (KK.new (cap := cap) (op := 86) (N := N) (X := X) hb g0 g1 gs)
  clear hb hown g0 g1
  have hln : ¬ 9223372036854775807 < 1 + (Tm.pk p).length := by omega
  have hln2 : ¬ 9223372036854775807 < 1 + (Tm.pk p).length + (Tm.pk q).length := by omega
  go_wp2_with fail
  go_region_held3 (fun wx => wx.cell? ⟨w1.heap.size, 3, none⟩ = some (.slice (some ⟨g, 0, none⟩) 2 cap) ∧ wx.cell? ⟨g, 0, none⟩ = some (St p) ∧ wx.cell? ⟨g, 1, none⟩ = some (St q)) (exact ⟨HSS.out.x3, HSS.out.k0, HSS.out.k1⟩) (first | (go_at_call_of 62 (St p); refine (KP.out _).mono ?_; rintro e wN ⟨rfl, hb⟩; have hSN := (by first | exact HSS.out.below hb | exact HSS.out.below' hb : KK w w1.heap.size g (.slice (some ⟨g, 0, none⟩) 2 cap) p q wN); clear HSS hb; have HSS := hid hSN; clear hSN) | (go_at_call_of 62 (St q); refine (KQ.out _).mono ?_; rintro e wN ⟨rfl, hb⟩; have hSN := (by first | exact HSS.out.below hb | exact HSS.out.below' hb : KK w w1.heap.size g (.slice (some ⟨g, 0, none⟩) 2 cap) p q wN); clear HSS hb; have HSS := hid hSN; clear hSN))
  all_goals
    go_wp2_with fail
    go_ret
    refine ⟨(congrArg (fun x => Ending.returned (Value.string x)) (st_two 87 (Tm.pk p) (Tm.pk q))).trans (by rw [HR.out]), ?_⟩
    first | exact HSS.out.bel | exact (HSS.out.drewN _).bel
end Go.Proofs.YtcmpiffkmnbepaaDoor

/- What the document's calls on keys and signatures answer: the rest. -/
namespace Go.Proofs.YtcmpiffkmnbepaaDoor
open Go.RowKit

set_option maxHeartbeats 1000000 in
set_option maxRecDepth 100000 in
theorem rkey_bind (p q : Bs) (hd : Tm.deep (75 :: (p ++ q)) ≠ 0) (hk : Tm.kidsOf 63 (75 :: (p ++ q)) = [p, q]) (hr : Tm.pk (75 :: (p ++ q)) = 76 :: (Tm.pk p ++ q))
    (hlp : (Tm.pk p).length ≤ 40000) (hlq : q.length ≤ 40000) (kp : KeyY p) : KeyY (75 :: (p ++ q)) := by
  intro w
  have HR := hid hr
  have HO := hid (ropen_yes 75 (p ++ q) hd)
  have HK := hid hk
  have KP := hid kp
  unfold OpenY at HO
  unfold KeyY at KP
  clear hd hr hk kp
  have hxv : ∃ X : ByteArray, X = setX (75 :: (p ++ q)) ⟨#[]⟩ := ⟨_, rfl⟩
  have hnv : ∃ N : Int, N = setN (75 :: (p ++ q)) 0 := ⟨_, rfl⟩
  obtain ⟨X, hX⟩ := hxv
  obtain ⟨N, hN⟩ := hnv
  rw [← hX, ← hN, HK.out] at HO
  clear hX hN HK
  generalize 75 :: (p ++ q) = t at *
  go_enter Tryd.func62, Tryd.ntmps62
  go_wp2_with fail
  refine (HO.out _).mono ?_
  rintro e w1 ⟨kids, rfl, hown, hb⟩
  obtain ⟨g, cap, rfl, g0, g1, gs⟩ := own_two hown
  have HSS := hid (KK.new (cap := cap) (op := 75) (N := N) (X := X) hb g0 g1 gs)
  clear hb hown g0 g1
  have hln : ¬ 9223372036854775807 < 1 + (Tm.pk p).length := by omega
  have hln2 : ¬ 9223372036854775807 < 1 + (Tm.pk p).length + q.length := by omega
  go_wp2_with fail
  go_region_held3 (fun wx => wx.cell? ⟨w1.heap.size, 3, none⟩ = some (.slice (some ⟨g, 0, none⟩) 2 cap) ∧ wx.cell? ⟨g, 0, none⟩ = some (St p) ∧ wx.cell? ⟨g, 1, none⟩ = some (St q)) (exact ⟨HSS.out.x3, HSS.out.k0, HSS.out.k1⟩) (first | (go_at_call_of 62 (St p); refine (KP.out _).mono ?_; rintro e wN ⟨rfl, hb⟩; have hSN := (by first | exact HSS.out.below hb | exact HSS.out.below' hb : KK w w1.heap.size g (.slice (some ⟨g, 0, none⟩) 2 cap) p q wN); clear HSS hb; have HSS := hid hSN; clear hSN))
  all_goals
    go_wp2_with fail
    go_ret
    refine ⟨(congrArg (fun x => Ending.returned (Value.string x)) (st_two 76 (Tm.pk p) q)).trans (by rw [HR.out]), ?_⟩
    first | exact HSS.out.bel | exact (HSS.out.drewN _).bel

/-- the document's key of any right term -/
theorem rkey_all : ∀ (n : Nat) (k : Bs), k.length ≤ n → Tm.deep k ≠ 0 → KeyY k := by
  intro n
  induction n with
  | zero =>
    intro k hk hd
    have : k = [] := List.eq_nil_of_length_eq_zero (by omega)
    subst this
    exact absurd rfl hd
  | succ n ih =>
    intro k hk hd
    match k with
    | [] => exact absurd rfl hd
    | c :: l =>
      have hl := (Tm.deep_is hd).2
      by_cases h1 : c = 86
      · subst h1
        obtain ⟨p, q, a, b, hkk, rfl, hp, hq, ha, hb, _⟩ := kids_two hd (by decide)
        simp at hk hl
        have lp := (Tm.pk_of hp (by omega)).2.2.1
        have lq := (Tm.pk_of hq (by omega)).2.2.1
        exact rkey_join p q hd hkk (Tm.pk_join hp hq (by omega) (by omega)) (by omega) (by omega)
          (ih p (by omega) (is_right hp (by omega) (by omega))) (ih q (by omega) (is_right hq (by omega) (by omega)))
      · by_cases h2 : c = 75
        · subst h2
          obtain ⟨p, q, a, b, hkk, rfl, hp, hq, ha, hb, _⟩ := kids_two hd (by decide)
          simp at hk hl
          have lp := (Tm.pk_of hp (by omega)).2.2.1
          exact rkey_bind p q hd hkk (Tm.pk_bind hp hq (by omega) (by omega)) (by omega) (by omega)
            (ih p (by omega) (is_right hp (by omega) (by omega)))
        · exact rkey_else c l hd h1 h2

theorem rkey_any (k : Bs) (w : World) (hd : Tm.deep k ≠ 0) : Calls Tryd.prog 62 #[St k] w fun en w' => en = .returned (St (Tm.pk k)) ∧ Below w.heap.size w w' := rkey_all k.length k (Nat.le_refl _) hd w

set_option maxHeartbeats 1000000 in
set_option maxRecDepth 100000 in
theorem rpubs_any (k : Bs) (w : World) : Calls Tryd.prog 39 #[St k] w fun en w' => en = made (pubRes k) ∧ Below w.heap.size w w' := by
  by_cases hk : Tm.deep k = 0
  · have HR : Hid (pubRes k = ([], 10)) := by apply hid; unfold pubRes; rw [if_pos hk]
    have HK := hid hk
    clear hk
    go_enter Tryd.func39, Tryd.ntmps39
    go_wp2_with fail
    refine (rright_any k _).mono ?_
    rintro e w1 ⟨rfl, hb⟩
    have HB := hid hb
    clear hb
    rw [HK.out]
    go_wp2_with fail
    go_ret2
    exact ⟨by rw [HR.out]; rfl, HB.out⟩
  · have HR : Hid (pubRes k = madeRes (Tm.pk k)) := by apply hid; unfold pubRes madeRes; rw [if_neg hk]
    have HK := hid hk
    have HKB : Hid ((Tm.deep k != 0) = true) := by apply hid; simpa using hk
    clear hk
    go_enter Tryd.func39, Tryd.ntmps39
    go_wp2_with fail
    refine (rright_any k _).mono ?_
    rintro e w1 ⟨rfl, hb⟩
    have HB := hid hb
    clear hb
    rw [HKB.out]
    go_wp2_with fail
    refine (rkey_any k _ HK.out).mono ?_
    rintro e w2 ⟨rfl, hb⟩
    have HB2 := hid (HB.out.trans (hb.mono HB.out.size))
    clear hb
    go_wp2_with fail
    refine (rmade_any (Tm.pk k) _).mono ?_
    rintro e w3 ⟨rfl, hb⟩
    have HB3 := hid (HB2.out.trans (hb.mono HB2.out.size))
    clear hb
    go_wp2_with fail
    go_ret2
    exact ⟨by rw [HR.out]; rfl, HB3.out⟩

set_option maxHeartbeats 1000000 in
set_option maxRecDepth 100000 in
theorem rverify_any (p m s : Bs) (w : World) : Calls Tryd.prog 46 #[St p, St m, St s] w fun en w' => en = .returned (.bool (verifyRes p m s)) ∧ Below w.heap.size w w' := by
  by_cases hd : Tm.deep s = 0
  · have HR : Hid (verifyRes p m s = false) := by apply hid; unfold verifyRes; rw [if_neg (by simp [hd])]
    have HD := hid hd
    clear hd
    go_enter Tryd.func46, Tryd.ntmps46
    go_wp2_with fail
    refine (ropen_no s _ HD.out).mono ?_
    rintro e w1 ⟨rfl, hb⟩
    have HB := hid (hb.alloc (o := .cells #[.int .u8 0, .int .i64 0, .string ⟨#[]⟩, .slice none 0 0] 25) hb.size)
    clear hb
    go_wp2_with fail
    go_ret
    exact ⟨by rw [HR.out]; rfl, HB.out⟩
  · match s with
    | [] => exact absurd rfl hd
    | c0 :: l =>
      have HD := hid hd
      have HO := hid (ropen_yes c0 l hd)
      unfold OpenY at HO
      have hxv : ∃ X : ByteArray, X = setX (c0 :: l) ⟨#[]⟩ := ⟨_, rfl⟩
      have hnv : ∃ N : Int, N = setN (c0 :: l) 0 := ⟨_, rfl⟩
      obtain ⟨X, hX⟩ := hxv
      obtain ⟨N, hN⟩ := hnv
      rw [← hX, ← hN] at HO
      clear hX hN
      by_cases hc : c0 = 83
      · subst hc
        obtain ⟨k, m', a, b, hk, hpq, hp, hq, ha, hb64, _⟩ := kids_two hd (by decide)
        have hll := (Tm.deep_is hd).2
        simp [hpq] at hll
        have hkd : Tm.deep k ≠ 0 := is_right hp (by omega) (by omega)
        have HKD := hid hkd
        rw [hk] at HO
        by_cases hm : m' = m
        · have HR : Hid (verifyRes p m (83 :: l) = (p == Tm.pk k)) := by
            apply hid; unfold verifyRes; rw [if_pos ⟨hd, rfl⟩, hk]; simp only [hm, beq_self_eq_true, Bool.true_and]; exact Bool.eq_iff_iff.2 (by simp only [beq_iff_eq]; exact eq_comm)
          have hne : (m' == m) = true := by simp [hm]
          clear hd hk hpq hll hm hkd
          generalize (83 : UInt8) :: l = t at *
          go_enter Tryd.func46, Tryd.ntmps46
          go_wp2_with fail
          refine (HO.out _).mono ?_
          rintro e w1 ⟨kids, rfl, hown, hb⟩
          obtain ⟨g, cap, rfl, g0, g1, gs⟩ := own_two hown
          have HB := hid hb
          clear hb hown
          go_wp2_with fail
          refine (rkey_any k _ HKD.out).mono ?_
          rintro e w2 ⟨rfl, hb⟩
          have HB2 := hid (HB.out.trans (((below_alloc_self' w1 _).mono HB.out.size).trans (hb.mono (by have := HB.out.size; simp; omega))))
          clear hb
          go_wp2_with fail
          go_ret
          exact ⟨by rw [HR.out]; rfl, HB2.out⟩
        · have HR : Hid (verifyRes p m (83 :: l) = false) := by
            apply hid; unfold verifyRes; rw [if_pos ⟨hd, rfl⟩, hk]; simp [hm]
          have hne : (m' == m) = false := by simp [hm]
          clear hd hk hpq hll hm hkd
          generalize (83 : UInt8) :: l = t at *
          go_enter Tryd.func46, Tryd.ntmps46
          go_wp2_with fail
          refine (HO.out _).mono ?_
          rintro e w1 ⟨kids, rfl, hown, hb⟩
          obtain ⟨g, cap, rfl, g0, g1, gs⟩ := own_two hown
          have HB := hid hb
          clear hb hown
          go_wp2_with fail
          go_ret
          exact ⟨by rw [HR.out]; rfl, HB.out.alloc HB.out.size _⟩
      · have HR : Hid (verifyRes p m (c0 :: l) = false) := by apply hid; unfold verifyRes; rw [if_neg (by simp [hc])]
        have hne : ((c0.toNat : Int) == 83) = false := byte_ne hc
        clear hd hc
        generalize c0 :: l = t at *
        go_enter Tryd.func46, Tryd.ntmps46
        go_wp2_with fail
        refine (HO.out _).mono ?_
        rintro e w1 ⟨kids, rfl, hown, hb⟩
        obtain ⟨ao, kn, kc, rfl⟩ := own_slice hown
        have HB := hid hb
        clear hb hown
        go_wp2_with fail
        go_ret
        exact ⟨by rw [HR.out]; rfl, HB.out.alloc HB.out.size _⟩
end Go.Proofs.YtcmpiffkmnbepaaDoor

/- What TermAsks answers. -/
namespace Go.Proofs.YtcmpiffkmnbepaaDoor
open Go.RowKit

set_option maxHeartbeats 2000000 in
set_option maxRecDepth 100000 in
theorem asks_small (p m s : Bs) (w : World) (h1 : p.length ≤ 20000) (h2 : m.length ≤ 20000) (h3 : s.length ≤ 20000) :
    Calls Tryd.prog 6 #[St p, St m, St s] w fun en w' => en = .returned (.bool true) ∧ Below w.heap.size w w' := by
  have hs1 : (⟨p.toArray⟩ : ByteArray).size = p.length := st_size p
  have hs2 : (⟨m.toArray⟩ : ByteArray).size = m.length := st_size m
  have hs3 : (⟨s.toArray⟩ : ByteArray).size = s.length := st_size s
  have l1 : ¬ (20000 : Int) < (p.length : Int) := by omega
  have l2 : ¬ (20000 : Int) < (m.length : Int) := by omega
  have l3 : ¬ (20000 : Int) < (s.length : Int) := by omega
  clear h1 h2 h3
  go_enter Tryd.func6, Tryd.ntmps6
  go_wp2_with fail
  refine (unbox_any p s _).mono ?_
  rintro e w1 ⟨rfl, hb⟩
  have HB1 := hid hb
  clear hb
  go_wp2_with fail
  refine (runbox_any p s _).mono ?_
  rintro e w2 ⟨rfl, hb⟩
  have HB2 := hid (HB1.out.trans (hb.mono HB1.out.size))
  clear hb HB1
  go_wp2_with fail
  refine (verify_any p m s _).mono ?_
  rintro e w3 ⟨rfl, hb⟩
  have HB3 := hid (HB2.out.trans (hb.mono HB2.out.size))
  clear hb HB2
  go_wp2_with fail
  refine (rverify_any p m s _).mono ?_
  rintro e w4 ⟨rfl, hb⟩
  have HB4 := hid (HB3.out.trans (hb.mono HB3.out.size))
  clear hb HB3
  go_wp2_with fail
  refine (works_any _).mono ?_
  rintro e w5 ⟨rfl, hb⟩
  have HB5 := hid (HB4.out.trans (hb.mono HB4.out.size))
  clear hb HB4
  go_wp2_with fail
  go_ret
  exact ⟨rfl, HB5.out⟩

set_option maxHeartbeats 2000000 in
set_option maxRecDepth 100000 in
theorem asks_any (p m s : Bs) (w : World) (_ : p.length ≤ 140737488355328) (_ : m.length ≤ 140737488355328) (_ : s.length ≤ 140737488355328) :
    Calls Tryd.prog 6 #[St p, St m, St s] w fun en w' => en = .returned (.bool true) ∧ Below w.heap.size w w' := by
  have hs1 : (⟨p.toArray⟩ : ByteArray).size = p.length := st_size p
  have hs2 : (⟨m.toArray⟩ : ByteArray).size = m.length := st_size m
  have hs3 : (⟨s.toArray⟩ : ByteArray).size = s.length := st_size s
  by_cases h1 : p.length ≤ 20000
  · by_cases h2 : m.length ≤ 20000
    · by_cases h3 : s.length ≤ 20000
      · exact asks_small p m s w h1 h2 h3
      · have l1 : ¬ (20000 : Int) < (p.length : Int) := by omega
        have l2 : ¬ (20000 : Int) < (m.length : Int) := by omega
        have l3 : (20000 : Int) < (s.length : Int) := by omega
        go_enter Tryd.func6, Tryd.ntmps6
        go_wp2_with fail
        go_ret
        exact ⟨rfl, Below.refl _ _⟩
    · have l1 : ¬ (20000 : Int) < (p.length : Int) := by omega
      have l2 : (20000 : Int) < (m.length : Int) := by omega
      go_enter Tryd.func6, Tryd.ntmps6
      go_wp2_with fail
      go_ret
      exact ⟨rfl, Below.refl _ _⟩
  · have l1 : (20000 : Int) < (p.length : Int) := by omega
    go_enter Tryd.func6, Tryd.ntmps6
    go_wp2_with fail
    go_ret
    exact ⟨rfl, Below.refl _ _⟩
end Go.Proofs.YtcmpiffkmnbepaaDoor

/- What the document makes of keys, and that both make the same. -/
namespace Go.Proofs.YtcmpiffkmnbepaaDoor
open Go.RowKit

theorem made_is {d : Nat} {l : Bs} (h : Tm.Is d l) : madeRes l = if 64 < d ∨ 16384 < l.length then ([], 3) else (l, 0) := by
  unfold madeRes
  by_cases hc : 64 < d ∨ 16384 < l.length
  · rw [if_pos hc, Tm.is_deep0 h hc, if_pos rfl]
  · rw [if_neg hc, Tm.is_deep h (by omega) (by omega), if_neg (by have := h.1; omega)]

theorem two_made {op : UInt8} {a b : Bs} (ha : Tm.deep a ≠ 0) (hb : Tm.deep b ≠ 0) (h : Tm.Is (max (Tm.deep a) (Tm.deep b) + 1) (op :: (a ++ b))) : madeRes (op :: (a ++ b)) = bRes op [] [a, b] := by
  rw [bRes_two, if_neg (by simp [ha, hb]), made_is h]
  have e : (op :: (a ++ b)).length = 1 + a.length + b.length := by simp; omega
  rw [e]

theorem twoRes_two {op : UInt8} (hop : Tm.isTwo op = true) (a b : Bs) : twoRes op a b = bRes op [] [a, b] := by
  unfold twoRes
  by_cases h : Tm.deep a = 0 ∨ Tm.deep b = 0
  · rw [if_pos h, bRes_two, if_pos h]
  · rw [if_neg h]
    rw [not_or] at h
    exact two_made h.1 h.2 (Tm.is_two (Tm.deep_is h.1).1 (Tm.deep_is h.2).1 hop)

theorem bRes_one (op : UInt8) (a : Bs) : bRes op [] [a] = if Tm.deep a = 0 then ([], 10) else if 64 < Tm.deep a + 1 ∨ 16384 < 1 + a.length then ([], 3) else (op :: a, 0) := by
  unfold bRes
  have e1 : ([a].any (fun k => Tm.deep k == 0) = true) ↔ Tm.deep a = 0 := by simp
  have e2 : bDeep [a] = Tm.deep a + 1 := by simp [bDeep]
  have e3 : 1 + ([] : Bs).length + bSize [a] = 1 + a.length := by simp [bSize]
  have e4 : ([] : Bs) ++ [a].flatten = a := by simp
  rw [e2, e3, e4]
  by_cases h : Tm.deep a = 0
  · rw [if_pos (e1.2 h), if_pos h]
  · rw [if_neg (fun x => h (e1.1 x)), if_neg h]

theorem oneRes_hash (a : Bs) : oneRes 72 a = bRes 72 [] [a] := by
  unfold oneRes
  rw [bRes_one]
  by_cases h : Tm.deep a = 0
  · rw [if_pos h, if_pos h]
  · rw [if_neg h, if_neg h, made_is (Tm.is_hash (Tm.deep_is h).1)]
    have e : ((72 : UInt8) :: a).length = 1 + a.length := by simp; omega
    rw [e]

theorem jointRes_no {a b : Bs} (h : Tm.deep a = 0 ∨ Tm.deep b = 0) : jointRes a b = ([], 10) := by
  unfold jointRes
  rw [bRes_two, if_pos h]
  split <;> rfl
theorem jointRes_pk {a b : Bs} (h : (Tm.isPk a.head? && Tm.isPk b.head?) = false) : jointRes a b = ([], 10) := by
  unfold jointRes
  rw [h]; rfl
theorem jointRes_yes {a b : Bs} (ha : Tm.deep a ≠ 0) (hb : Tm.deep b ≠ 0) (h1 : Tm.isPk a.head? = true) (h2 : Tm.isPk b.head? = true) : jointRes a b = twoRes 87 a b := by
  unfold jointRes twoRes
  rw [h1, h2, if_pos (by decide), if_neg (by simp [ha, hb])]
  exact (two_made ha hb (Tm.is_joint (Tm.deep_is ha).1 (Tm.deep_is hb).1 h1 h2)).symm
theorem boundRes_no {a b : Bs} (h : Tm.deep a = 0 ∨ Tm.deep b = 0) : boundRes a b = ([], 10) := by
  unfold boundRes
  rw [bRes_two, if_pos h]
  split <;> rfl
theorem boundRes_pk {a b : Bs} (h : Tm.isPk a.head? = false) : boundRes a b = ([], 10) := by
  unfold boundRes
  rw [h]; rfl
theorem boundRes_yes {a b : Bs} (ha : Tm.deep a ≠ 0) (hb : Tm.deep b ≠ 0) (h1 : Tm.isPk a.head? = true) : boundRes a b = twoRes 76 a b := by
  unfold boundRes twoRes
  rw [h1, if_pos rfl, if_neg (by simp [ha, hb])]
  exact (two_made ha hb (Tm.is_bound (Tm.deep_is ha).1 (Tm.deep_is hb).1 h1)).symm

/-- the first byte of a right term -/
theorem first_byte {a : Bs} (h : Tm.deep a ≠ 0) : ∃ c, a.head? = some c ∧ 0 < a.length ∧ ∀ h, (⟨a.toArray⟩ : ByteArray)[0]'h = c := by
  match a with
  | [] => exact absurd rfl h
  | c :: l => exact ⟨c, rfl, by simp, fun _ => rfl⟩

set_option maxHeartbeats 1000000 in
set_option maxRecDepth 100000 in
theorem rjoints_no (a b : Bs) (w : World) (h : Tm.deep a = 0 ∨ Tm.deep b = 0) : Calls Tryd.prog 40 #[St a, St b] w fun en w' => en = made (jointRes a b) ∧ Below w.heap.size w w' := by
  have HR := hid (jointRes_no h)
  by_cases ha : Tm.deep a = 0
  · have HA := hid ha
    clear ha h
    go_enter Tryd.func40, Tryd.ntmps40
    go_wp2_with fail
    refine (rright_any a _).mono ?_
    rintro e w1 ⟨rfl, hb⟩
    have HB := hid hb
    clear hb
    rw [HA.out]
    go_wp2_with fail
    go_ret2
    exact ⟨by rw [HR.out]; rfl, HB.out⟩
  · have HA : Hid ((Tm.deep a != 0) = true) := by apply hid; simpa using ha
    have HBB : Hid (Tm.deep b = 0) := by apply hid; rcases h with h | h; exact absurd h ha; exact h
    clear ha h
    go_enter Tryd.func40, Tryd.ntmps40
    go_wp2_with fail
    refine (rright_any a _).mono ?_
    rintro e w1 ⟨rfl, hb⟩
    have HB := hid hb
    clear hb
    rw [HA.out]
    go_wp2_with fail
    refine (rright_any b _).mono ?_
    rintro e w2 ⟨rfl, hb⟩
    have HB2 := hid (HB.out.trans (hb.mono HB.out.size))
    clear hb
    rw [HBB.out]
    go_wp2_with fail
    go_ret2
    exact ⟨by rw [HR.out]; rfl, HB2.out⟩

set_option maxHeartbeats 1000000 in
set_option maxRecDepth 100000 in
theorem rjoints_any (a b : Bs) (w : World) : Calls Tryd.prog 40 #[St a, St b] w fun en w' => en = made (jointRes a b) ∧ Below w.heap.size w w' := by
  by_cases h : Tm.deep a = 0 ∨ Tm.deep b = 0
  · exact rjoints_no a b w h
  · rw [not_or] at h
    have HA : Hid ((Tm.deep a != 0) = true) := by apply hid; simpa using h.1
    have HBB : Hid ((Tm.deep b != 0) = true) := by apply hid; simpa using h.2
    have HH := hid h
    obtain ⟨x, hx, la, ea⟩ := first_byte h.1
    obtain ⟨y, hy, lb, eb⟩ := first_byte h.2
    have HX := hid hx
    have HY := hid hy
    have hsa : (⟨a.toArray⟩ : ByteArray).size = a.length := st_size a
    have hsb : (⟨b.toArray⟩ : ByteArray).size = b.length := st_size b
    clear h hx hy
    cases h1 : Tm.isPk (some x)
    · have HR : Hid (jointRes a b = ([], 10)) := by apply hid; apply jointRes_pk; rw [HX.out, h1]; rfl
      have H1 := hid h1
      clear h1
      go_enter Tryd.func40, Tryd.ntmps40
      go_wp2_with fail
      refine (rright_any a _).mono ?_
      rintro e w1 ⟨rfl, hb⟩
      have HB := hid hb
      clear hb
      rw [HA.out]
      go_wp2_with fail
      refine (rright_any b _).mono ?_
      rintro e w2 ⟨rfl, hb⟩
      have HB2 := hid (HB.out.trans (hb.mono HB.out.size))
      clear hb
      rw [HBB.out]
      go_wp2_with fail
      refine (rpublic_any x _).mono ?_
      rintro e w3 ⟨rfl, rfl⟩
      rw [H1.out]
      go_wp2_with fail
      go_ret2
      exact ⟨by rw [HR.out]; rfl, HB2.out⟩
    · cases h2 : Tm.isPk (some y)
      · have HR : Hid (jointRes a b = ([], 10)) := by apply hid; apply jointRes_pk; rw [HY.out, h2, Bool.and_false]
        have H1 := hid h1
        have H2 := hid h2
        clear h1 h2
        go_enter Tryd.func40, Tryd.ntmps40
        go_wp2_with fail
        refine (rright_any a _).mono ?_
        rintro e w1 ⟨rfl, hb⟩
        have HB := hid hb
        clear hb
        rw [HA.out]
        go_wp2_with fail
        refine (rright_any b _).mono ?_
        rintro e w2 ⟨rfl, hb⟩
        have HB2 := hid (HB.out.trans (hb.mono HB.out.size))
        clear hb
        rw [HBB.out]
        go_wp2_with fail
        refine (rpublic_any x _).mono ?_
        rintro e w3 ⟨rfl, rfl⟩
        rw [H1.out]
        go_wp2_with fail
        refine (rpublic_any y _).mono ?_
        rintro e w3 ⟨rfl, rfl⟩
        rw [H2.out]
        go_wp2_with fail
        go_ret2
        exact ⟨by rw [HR.out]; rfl, HB2.out⟩
      · have HR : Hid (jointRes a b = twoRes 87 a b) := by apply hid; apply jointRes_yes HH.out.1 HH.out.2; rw [HX.out, h1]; rw [HY.out, h2]
        have H1 := hid h1
        have H2 := hid h2
        clear h1 h2
        go_enter Tryd.func40, Tryd.ntmps40
        go_wp2_with fail
        refine (rright_any a _).mono ?_
        rintro e w1 ⟨rfl, hb⟩
        have HB := hid hb
        clear hb
        rw [HA.out]
        go_wp2_with fail
        refine (rright_any b _).mono ?_
        rintro e w2 ⟨rfl, hb⟩
        have HB2 := hid (HB.out.trans (hb.mono HB.out.size))
        clear hb
        rw [HBB.out]
        go_wp2_with fail
        refine (rpublic_any x _).mono ?_
        rintro e w3 ⟨rfl, rfl⟩
        rw [H1.out]
        go_wp2_with fail
        refine (rpublic_any y _).mono ?_
        rintro e w3 ⟨rfl, rfl⟩
        rw [H2.out]
        go_wp2_with fail
        refine (rtwo_any 87 a b _).mono ?_
        rintro e w4 ⟨rfl, hb⟩
        have HB4 := hid (HB2.out.trans (hb.mono HB2.out.size))
        clear hb
        go_wp2_with fail
        go_ret2
        exact ⟨by rw [HR.out]; rfl, HB4.out⟩

set_option maxHeartbeats 1000000 in
set_option maxRecDepth 100000 in
theorem rbounds_any (a b : Bs) (w : World) : Calls Tryd.prog 41 #[St a, St b] w fun en w' => en = made (boundRes a b) ∧ Below w.heap.size w w' := by
  by_cases ha : Tm.deep a = 0
  · have HR := hid (boundRes_no (a := a) (b := b) (Or.inl ha))
    have HA := hid ha
    clear ha
    go_enter Tryd.func41, Tryd.ntmps41
    go_wp2_with fail
    refine (rright_any a _).mono ?_
    rintro e w1 ⟨rfl, hb⟩
    have HB := hid hb
    clear hb
    rw [HA.out]
    go_wp2_with fail
    go_ret2
    exact ⟨by rw [HR.out]; rfl, HB.out⟩
  · have HA : Hid ((Tm.deep a != 0) = true) := by apply hid; simpa using ha
    by_cases hbz : Tm.deep b = 0
    · have HR := hid (boundRes_no (a := a) (b := b) (Or.inr hbz))
      have HBB := hid hbz
      clear ha hbz
      go_enter Tryd.func41, Tryd.ntmps41
      go_wp2_with fail
      refine (rright_any a _).mono ?_
      rintro e w1 ⟨rfl, hb⟩
      have HB := hid hb
      clear hb
      rw [HA.out]
      go_wp2_with fail
      refine (rright_any b _).mono ?_
      rintro e w2 ⟨rfl, hb⟩
      have HB2 := hid (HB.out.trans (hb.mono HB.out.size))
      clear hb
      rw [HBB.out]
      go_wp2_with fail
      go_ret2
      exact ⟨by rw [HR.out]; rfl, HB2.out⟩
    · have HBB : Hid ((Tm.deep b != 0) = true) := by apply hid; simpa using hbz
      have HH := hid (And.intro ha hbz)
      obtain ⟨x, hx, la, ea⟩ := first_byte ha
      have HX := hid hx
      have hsa : (⟨a.toArray⟩ : ByteArray).size = a.length := st_size a
      clear ha hbz hx
      cases h1 : Tm.isPk (some x)
      · have HR : Hid (boundRes a b = ([], 10)) := by apply hid; apply boundRes_pk; rw [HX.out, h1]
        have H1 := hid h1
        clear h1
        go_enter Tryd.func41, Tryd.ntmps41
        go_wp2_with fail
        refine (rright_any a _).mono ?_
        rintro e w1 ⟨rfl, hb⟩
        have HB := hid hb
        clear hb
        rw [HA.out]
        go_wp2_with fail
        refine (rright_any b _).mono ?_
        rintro e w2 ⟨rfl, hb⟩
        have HB2 := hid (HB.out.trans (hb.mono HB.out.size))
        clear hb
        rw [HBB.out]
        go_wp2_with fail
        refine (rpublic_any x _).mono ?_
        rintro e w3 ⟨rfl, rfl⟩
        rw [H1.out]
        go_wp2_with fail
        go_ret2
        exact ⟨by rw [HR.out]; rfl, HB2.out⟩
      · have HR : Hid (boundRes a b = twoRes 76 a b) := by apply hid; apply boundRes_yes HH.out.1 HH.out.2; rw [HX.out, h1]
        have H1 := hid h1
        clear h1
        go_enter Tryd.func41, Tryd.ntmps41
        go_wp2_with fail
        refine (rright_any a _).mono ?_
        rintro e w1 ⟨rfl, hb⟩
        have HB := hid hb
        clear hb
        rw [HA.out]
        go_wp2_with fail
        refine (rright_any b _).mono ?_
        rintro e w2 ⟨rfl, hb⟩
        have HB2 := hid (HB.out.trans (hb.mono HB.out.size))
        clear hb
        rw [HBB.out]
        go_wp2_with fail
        refine (rpublic_any x _).mono ?_
        rintro e w3 ⟨rfl, rfl⟩
        rw [H1.out]
        go_wp2_with fail
        refine (rtwo_any 76 a b _).mono ?_
        rintro e w4 ⟨rfl, hb⟩
        have HB4 := hid (HB2.out.trans (hb.mono HB2.out.size))
        clear hb
        go_wp2_with fail
        go_ret2
        exact ⟨by rw [HR.out]; rfl, HB4.out⟩
end Go.Proofs.YtcmpiffkmnbepaaDoor

/- What the document's Agree answers. -/
namespace Go.Proofs.YtcmpiffkmnbepaaDoor
open Go.RowKit

theorem kids_pub {t : Bs} (hd : Tm.deep (80 :: t) ≠ 0) : Tm.kidsOf 63 (80 :: t) = [t] ∧ Tm.deep t ≠ 0 := by
  obtain ⟨hi, hl⟩ := Tm.deep_is hd
  have h64 := Tm.deep_le (80 :: t)
  obtain ⟨a, ha, he, _, _⟩ := Tm.is_inv_pub hi
  simp at hl
  refine ⟨?_, is_right ha (by omega) (by omega)⟩
  have hrd := ha.2.2 63 [] (by omega)
  rw [List.append_nil] at hrd
  rw [Tm.kidsOf]
  simp only [Tm.kids1, hrd]
  simp [Tm.used]

theorem own_one {w : World} {base : Nat} {kids : Value} {p : Bs} (h : w.ownsRow base 22 1 kids 1 [St p]) :
    ∃ g cap, kids = .slice (some ⟨g, 0, none⟩) 1 cap ∧ w.cell? ⟨g, 0, none⟩ = some (St p) ∧ g < w.heap.size := by
  rcases h.2 with ⟨_, h0⟩ | ⟨g, cap, cur, hv, _, hg, hc1, hc2, hc3, hc4⟩
  · omega
  · have hcell : ∀ j, w.cell? ⟨g, j, none⟩ = cur[j]? := fun j => by simp [World.cell?, hg]
    have hgs : g < w.heap.size := by
      apply Classical.byContradiction
      intro hn
      rw [Array.getElem?_eq_none (by omega)] at hg
      cases hg
    refine ⟨g, cap, hv, ?_, hgs⟩
    have e : (cur.toList.take (1 * 1))[0]? = some (St p) := by rw [hc4]; rfl
    rw [List.getElem?_take_of_lt (by omega), Array.getElem?_toList] at e
    rw [hcell, e]

theorem twoRes_agree {a b : Bs} (ha : Tm.deep a ≠ 0) (hb : Tm.deep b ≠ 0) (h : Tm.leB a b = true) : twoRes 88 a b = bRes 88 [] [a, b] := by
  unfold twoRes
  rw [if_neg (by simp [ha, hb])]
  exact two_made ha hb (Tm.is_agree (Tm.deep_is ha).1 (Tm.deep_is hb).1 h)

set_option maxHeartbeats 1000000 in
set_option maxRecDepth 100000 in
theorem ragrees_no (k p : Bs) (w : World) (hp : Tm.deep p = 0) : Calls Tryd.prog 42 #[St k, St p] w fun en w' => en = made (agreeRes k p) ∧ Below w.heap.size w w' := by
  have HR : Hid (agreeRes k p = ([], 10)) := by apply hid; unfold agreeRes; rw [if_pos (Or.inl hp)]
  have HP := hid hp
  clear hp
  go_enter Tryd.func42, Tryd.ntmps42
  go_wp2_with fail
  refine (ropen_no p _ HP.out).mono ?_
  rintro e w1 ⟨rfl, hb⟩
  have HB := hid (hb.alloc (o := .cells #[.int .u8 0, .int .i64 0, .string ⟨#[]⟩, .slice none 0 0] 25) hb.size)
  clear hb
  go_wp2_with fail
  refine (rright_any k _).mono ?_
  rintro e w2 ⟨rfl, hb⟩
  have HB2 := hid (HB.out.trans (hb.mono HB.out.size))
  clear hb
  cases hk : (Tm.deep k != 0)
  · clear hk
    go_wp2_with fail
    go_ret2
    exact ⟨by rw [HR.out]; rfl, HB2.out⟩
  · clear hk
    go_wp2_with fail
    go_ret2
    exact ⟨by rw [HR.out]; rfl, HB2.out⟩

set_option maxHeartbeats 1000000 in
set_option maxRecDepth 100000 in
theorem ragrees_not (k : Bs) (c : UInt8) (l : Bs) (w : World) (hd : Tm.deep (c :: l) ≠ 0) (hc : c ≠ 80) : Calls Tryd.prog 42 #[St k, St (c :: l)] w fun en w' => en = made (agreeRes k (c :: l)) ∧ Below w.heap.size w w' := by
  have HR : Hid (agreeRes k (c :: l) = ([], 10)) := by apply hid; unfold agreeRes; rw [if_pos (Or.inr (by simp [hc]))]
  have HO := hid (ropen_yes c l hd)
  unfold OpenY at HO
  have hxv : ∃ X : ByteArray, X = setX (c :: l) ⟨#[]⟩ := ⟨_, rfl⟩
  have hnv : ∃ N : Int, N = setN (c :: l) 0 := ⟨_, rfl⟩
  obtain ⟨X, hX⟩ := hxv
  obtain ⟨N, hN⟩ := hnv
  rw [← hX, ← hN] at HO
  clear hX hN
  have hne : ((c.toNat : Int) != 80) = true := by simp; intro h; exact hc (UInt8.toNat_inj.1 (by simp; omega))
  clear hd hc
  generalize c :: l = t at *
  go_enter Tryd.func42, Tryd.ntmps42
  go_wp2_with fail
  refine (HO.out _).mono ?_
  rintro e w1 ⟨kids, rfl, hown, hb⟩
  obtain ⟨ao, kn, kc, rfl⟩ := own_slice hown
  have HB := hid hb
  clear hb hown
  go_wp2_with fail
  refine (rright_any k _).mono ?_
  rintro e w2 ⟨rfl, hb⟩
  have x0 := cell_kept hb 0
  have hlt : w1.heap.size < w2.heap.size := by have := hb.size; simp at this; omega
  have HB2 := hid (HB.out.trans (((below_alloc_self' w1 _).mono HB.out.size).trans (hb.mono (by have := HB.out.size; simp; omega))))
  clear hb
  cases hk : (Tm.deep k != 0)
  · clear hk
    go_wp2_with fail
    go_ret2
    exact ⟨by rw [HR.out]; rfl, HB2.out⟩
  · clear hk
    go_wp2_with fail
    go_ret2
    exact ⟨by rw [HR.out]; rfl, HB2.out⟩

set_option maxHeartbeats 1000000 in
set_option maxRecDepth 100000 in
theorem ragrees_yes (k t : Bs) (w : World) (hd : Tm.deep (80 :: t) ≠ 0) : Calls Tryd.prog 42 #[St k, St (80 :: t)] w fun en w' => en = made (agreeRes k (80 :: t)) ∧ Below w.heap.size w w' := by
  have HR : Hid (agreeRes k (80 :: t) = if Tm.leB k t then bRes 88 [] [k, t] else bRes 88 [] [t, k]) := by apply hid; unfold agreeRes; rw [if_neg (by simp [hd])]; rfl
  obtain ⟨hk1, hdt⟩ := kids_pub hd
  have HO := hid (ropen_yes 80 t hd)
  have HDT := hid hdt
  unfold OpenY at HO
  have hxv : ∃ X : ByteArray, X = setX (80 :: t) ⟨#[]⟩ := ⟨_, rfl⟩
  have hnv : ∃ N : Int, N = setN (80 :: t) 0 := ⟨_, rfl⟩
  obtain ⟨X, hX⟩ := hxv
  obtain ⟨N, hN⟩ := hnv
  rw [← hX, ← hN, hk1] at HO
  clear hX hN hk1 hd hdt
  generalize (80 : UInt8) :: t = tt at *
  go_enter Tryd.func42, Tryd.ntmps42
  go_wp2_with fail
  refine (HO.out _).mono ?_
  rintro e w1 ⟨kids, rfl, hown, hb⟩
  obtain ⟨g, cap, rfl, g0, gs⟩ := own_one hown
  have HB := hid hb
  clear hb hown
  go_wp2_with fail
  refine (rright_any k _).mono ?_
  rintro e w2 ⟨rfl, hb⟩
  have x0 := cell_kept hb 0
  have x3 := cell_kept hb 3
  have g0' := (cell_kept' hb (o := 0) gs).trans g0
  have hlt : w1.heap.size < w2.heap.size := by have := hb.size; simp at this; omega
  have HB2 := hid (HB.out.trans (((below_alloc_self' w1 _).mono HB.out.size).trans (hb.mono (by have := HB.out.size; simp; omega))))
  have gs2 : g < w2.heap.size := by omega
  clear hb g0
  by_cases hk : Tm.deep k = 0
  · have HK : Hid (agreeRes k tt = ([], 10)) := by
      apply hid; rw [HR.out, bRes_two, bRes_two, if_pos (Or.inl hk), if_pos (Or.inr hk)]; split <;> rfl
    rw [show (Tm.deep k != 0) = false by simpa using hk]
    clear hk
    go_wp2_with fail
    go_ret2
    exact ⟨by rw [HK.out]; rfl, HB2.out⟩
  · rw [show (Tm.deep k != 0) = true by simpa using hk]
    have HK := hid hk
    clear hk
    go_wp2_with fail
    go_quiet (fail)
    go_wp2_with fail
    · have HL := hid (agree_ways (k := k) (t := t) (by assumption))
      refine (rtwo_any 88 t k _).mono ?_
      rintro e w3 ⟨rfl, hb⟩
      have HB3 := hid ((below_drewN HB2.out _).trans (hb.mono (by have := HB2.out.size; simpa using this)))
      clear hb
      go_wp2_with fail
      go_ret2
      exact ⟨by rw [HR.out, HL.out, twoRes_agree HDT.out HK.out (Tm.leB_total HL.out)]; rfl, HB3.out⟩
    · have HL := hid (agree_ways' (k := k) (t := t) (by assumption))
      refine (rtwo_any 88 k t _).mono ?_
      rintro e w3 ⟨rfl, hb⟩
      have HB3 := hid ((below_drewN HB2.out _).trans (hb.mono (by have := HB2.out.size; simpa using this)))
      clear hb
      go_wp2_with fail
      go_ret2
      exact ⟨by rw [HR.out, HL.out, twoRes_agree HK.out HDT.out HL.out]; rfl, HB3.out⟩

theorem ragrees_any (k p : Bs) (w : World) : Calls Tryd.prog 42 #[St k, St p] w fun en w' => en = made (agreeRes k p) ∧ Below w.heap.size w w' := by
  by_cases hp : Tm.deep p = 0
  · exact ragrees_no k p w hp
  · match p with
    | [] => exact absurd rfl hp
    | c :: l =>
      by_cases hc : c = 80
      · subst hc; exact ragrees_yes k l w hp
      · exact ragrees_not k c l w hp hc
end Go.Proofs.YtcmpiffkmnbepaaDoor

/- What TermBuilds answers. -/
namespace Go.Proofs.YtcmpiffkmnbepaaDoor
open Go.RowKit

/-- the five ops of two -/
def ops5 : List UInt8 := [68, 86, 75, 83, 66]
theorem ops5_two (j : Nat) (h : j < 5) : Tm.isTwo (ops5.getD j 0) = true := by
  match j, h with
  | 0, _ => rfl
  | 1, _ => rfl
  | 2, _ => rfl
  | 3, _ => rfl
  | 4, _ => rfl

/-- what the program made lies there -/
structure BB (w : World) (B : Nat) (a b : Bs) (W : World) : Prop where
  bel : Below w.heap.size w W
  op : ∀ j, j < 5 → W.cell? ⟨B, j, none⟩ = some (.int .u8 ((ops5.getD j 0).toNat : Int))
  hv : ∀ j, j < 5 → W.cell? ⟨B + 1, j, none⟩ = some (St (bRes (ops5.getD j 0) [] [a, b]).1)
  tl : ∀ j, j < 5 → W.cell? ⟨B + 1 + 1, j, none⟩ = some (.int .i64 ((bRes (ops5.getD j 0) [] [a, b]).2 : Int))
  sz : B + 1 + 1 < W.heap.size
theorem BB.below {w : World} {B : Nat} {a b : Bs} {W W' : World} (h : BB w B a b W) (hb : Below W.heap.size W W') : BB w B a b W' :=
  ⟨h.bel.trans (hb.mono h.bel.size), fun j hj => (hb.cell (p := ⟨B, j, none⟩) (by have := h.sz; show B < _; omega)).trans (h.op j hj), fun j hj => (hb.cell (p := ⟨B + 1, j, none⟩) (by have := h.sz; show B + 1 < _; omega)).trans (h.hv j hj),
    fun j hj => (hb.cell (p := ⟨B + 1 + 1, j, none⟩) h.sz).trans (h.tl j hj), Nat.lt_of_lt_of_le h.sz hb.size⟩
theorem BB.drewN {w : World} {B : Nat} {a b : Bs} {W : World} (h : BB w B a b W) (n : Nat) : BB w B a b (W.drewN n) :=
  h.below ⟨rfl, rfl, rfl, Nat.le_refl _, fun _ _ => rfl⟩
theorem BB.new {w w1 : World} {a b : Bs} (hb : Below w.heap.size w w1) : BB w w1.heap.size a b (World.alloc (World.alloc (World.alloc w1 (.cells #[.int .u8 68, .int .u8 86, .int .u8 75, .int .u8 83, .int .u8 66] 5))
      (.cells #[St (bRes 68 [] [a, b]).1, St (bRes 86 [] [a, b]).1, St (bRes 75 [] [a, b]).1, St (bRes 83 [] [a, b]).1, St (bRes 66 [] [a, b]).1] 22))
      (.cells #[.int .i64 ((bRes 68 [] [a, b]).2 : Int), .int .i64 ((bRes 86 [] [a, b]).2 : Int), .int .i64 ((bRes 75 [] [a, b]).2 : Int), .int .i64 ((bRes 83 [] [a, b]).2 : Int), .int .i64 ((bRes 66 [] [a, b]).2 : Int)] 33)) := by
  generalize hA : World.alloc w1 (.cells #[.int .u8 68, .int .u8 86, .int .u8 75, .int .u8 83, .int .u8 66] 5) = A
  have sA : A.heap.size = w1.heap.size + 1 := by rw [← hA]; simp
  have bA : Below w1.heap.size w1 A := by rw [← hA]; exact below_alloc_self' w1 _
  have cA : A.heap[w1.heap.size]? = some (.cells #[.int .u8 68, .int .u8 86, .int .u8 75, .int .u8 83, .int .u8 66] 5 (0, 0)) := by rw [← hA]; exact heap_alloc_new w1 _
  clear hA
  generalize hC : World.alloc A (.cells #[St (bRes 68 [] [a, b]).1, St (bRes 86 [] [a, b]).1, St (bRes 75 [] [a, b]).1, St (bRes 83 [] [a, b]).1, St (bRes 66 [] [a, b]).1] 22) = C
  have sC : C.heap.size = A.heap.size + 1 := by rw [← hC]; simp
  have bC : Below A.heap.size A C := by rw [← hC]; exact below_alloc_self' A _
  have cC : C.heap[A.heap.size]? = some (.cells #[St (bRes 68 [] [a, b]).1, St (bRes 86 [] [a, b]).1, St (bRes 75 [] [a, b]).1, St (bRes 83 [] [a, b]).1, St (bRes 66 [] [a, b]).1] 22 (0, 0)) := by rw [← hC]; exact heap_alloc_new A _
  clear hC
  have bD := below_alloc_self' C (.cells #[.int .i64 ((bRes 68 [] [a, b]).2 : Int), .int .i64 ((bRes 86 [] [a, b]).2 : Int), .int .i64 ((bRes 75 [] [a, b]).2 : Int), .int .i64 ((bRes 83 [] [a, b]).2 : Int), .int .i64 ((bRes 66 [] [a, b]).2 : Int)] 33)
  have cD := heap_alloc_new C (.cells #[.int .i64 ((bRes 68 [] [a, b]).2 : Int), .int .i64 ((bRes 86 [] [a, b]).2 : Int), .int .i64 ((bRes 75 [] [a, b]).2 : Int), .int .i64 ((bRes 83 [] [a, b]).2 : Int), .int .i64 ((bRes 66 [] [a, b]).2 : Int)] 33)
  rw [sA] at cC
  rw [sC, sA] at cD
  refine ⟨hb.trans ((bA.mono hb.size).trans ((bC.mono (by have := hb.size; omega)).trans (bD.mono (by have := hb.size; omega)))), fun j hj => ?_, fun j hj => ?_, fun j hj => ?_, by simp; omega⟩
  · rw [bD.cell (p := ⟨w1.heap.size, j, none⟩) (by show w1.heap.size < _; omega), bC.cell (p := ⟨w1.heap.size, j, none⟩) (by show w1.heap.size < _; omega), cell_of_heap cA]
    match j, hj with
    | 0, _ => rfl
    | 1, _ => rfl
    | 2, _ => rfl
    | 3, _ => rfl
    | 4, _ => rfl
  · rw [bD.cell (p := ⟨w1.heap.size + 1, j, none⟩) (by show w1.heap.size + 1 < _; omega), cell_of_heap cC]
    match j, hj with
    | 0, _ => rfl
    | 1, _ => rfl
    | 2, _ => rfl
    | 3, _ => rfl
    | 4, _ => rfl
  · rw [cell_of_heap cD]
    match j, hj with
    | 0, _ => rfl
    | 1, _ => rfl
    | 2, _ => rfl
    | 3, _ => rfl
    | 4, _ => rfl

set_option maxHeartbeats 4000000 in
set_option maxRecDepth 100000 in
theorem builds_small (a b : Bs) (w : World) (h1 : a.length ≤ 20000) (h2 : b.length ≤ 20000) :
    Calls Tryd.prog 5 #[St a, St b] w fun en w' => en = .returned (.bool true) ∧ Below w.heap.size w w' := by
  have hs1 : (⟨a.toArray⟩ : ByteArray).size = a.length := st_size a
  have hs2 : (⟨b.toArray⟩ : ByteArray).size = b.length := st_size b
  have l1 : ¬ (20000 : Int) < (a.length : Int) := by omega
  have l2 : ¬ (20000 : Int) < (b.length : Int) := by omega
  have HR1 := hid (oneRes_hash a)
  clear h1 h2
  go_enter Tryd.func5, Tryd.ntmps5
  go_wp2_with fail
  refine (hash_any a _).mono ?_
  rintro e w1 ⟨rfl, hb⟩
  have HB1 := hid hb
  clear hb
  go_wp2_with fail
  refine (child_any a b _).mono ?_
  rintro e w2 ⟨rfl, hb⟩
  have HB2 := hid (HB1.out.trans (hb.mono HB1.out.size))
  clear hb HB1
  go_wp2_with fail
  refine (join_any a b _).mono ?_
  rintro e w3 ⟨rfl, hb⟩
  have HB3 := hid (HB2.out.trans (hb.mono HB2.out.size))
  clear hb HB2
  go_wp2_with fail
  refine (bind_any a b _).mono ?_
  rintro e w4 ⟨rfl, hb⟩
  have HB4 := hid (HB3.out.trans (hb.mono HB3.out.size))
  clear hb HB3
  go_wp2_with fail
  refine (sign_any a b _).mono ?_
  rintro e w5 ⟨rfl, hb⟩
  have HB5 := hid (HB4.out.trans (hb.mono HB4.out.size))
  clear hb HB4
  go_wp2_with fail
  refine (box_any a b _).mono ?_
  rintro e w6 ⟨rfl, hb⟩
  have HB6 := hid (HB5.out.trans (hb.mono HB5.out.size))
  clear hb HB5
  go_wp2_with fail
  refine (pubs_any a _).mono ?_
  rintro e w7 ⟨rfl, hb⟩
  have HB7 := hid (HB6.out.trans (hb.mono HB6.out.size))
  clear hb HB6
  go_wp2_with fail
  refine (joints_any a b _).mono ?_
  rintro e w8 ⟨rfl, hb⟩
  have HB8 := hid (HB7.out.trans (hb.mono HB7.out.size))
  clear hb HB7
  go_wp2_with fail
  refine (bounds_any a b _).mono ?_
  rintro e w9 ⟨rfl, hb⟩
  have HB9 := hid (HB8.out.trans (hb.mono HB8.out.size))
  clear hb HB8
  go_wp2_with fail
  refine (agrees_any a b _).mono ?_
  rintro e w10 ⟨rfl, hb⟩
  have HB10 := hid (HB9.out.trans (hb.mono HB9.out.size))
  clear hb HB9
  go_wp2_with fail
  refine (rone_any 72 a _).mono ?_
  rintro e w11 ⟨rfl, hb⟩
  have HB11 := hid (HB10.out.trans (hb.mono HB10.out.size))
  clear hb HB10
  rw [HR1.out]
  go_wp2_with fail
  have HBB := hid (BB.new (a := a) (b := b) HB11.out)
  clear HB11
  generalize World.alloc (World.alloc (World.alloc w11 _) _) _ = W0 at HBB ⊢
  generalize w11.heap.size = B at HBB ⊢
  go_loopg [30] 5 (fun gg iv wr => ∃ j : Nat, j ≤ 5 ∧ gg = 5 - j ∧ iv = .int .i64 (j : Int) ∧ BB w B a b wr)
  case atStart => exact ⟨0, by omega, rfl, rfl, HBB.out⟩
  case round =>
    obtain ⟨j, hj, rfl, rfl, hbb⟩ := hrel
    have HBJ := hid hbb
    clear hbb HBB
    by_cases hjl : j < 5
    · have hjl' : (j : Int) < 5 := by omega
      have c0 := HBJ.out.op j hjl
      have HTW := hid (twoRes_two (ops5_two j hjl) a b)
      have HMS : Hid (5 - (j + 1) < 5 - j) := by apply hid; omega
      have HJS : Hid (j + 1 ≤ 5) := by apply hid; omega
      have HIV : Hid ((.int .i64 ((j : Int) + 1) : Value) = .int .i64 ((j + 1 : Nat) : Int)) := by apply hid; simp
      have HJL := hid hjl
      obtain ⟨op, hop⟩ : ∃ op, op = ops5.getD j 0 := ⟨_, rfl⟩
      rw [← hop] at c0 HTW
      have HOP := hid hop
      clear hop hjl
      go_wp2_with fail
      refine (rtwo_any op a b _).mono ?_
      rintro e wN ⟨rfl, hb⟩
      rw [HTW.out]
      have HBN := hid (HBJ.out.below hb)
      clear hb HBJ c0
      have c1 := HBN.out.hv j HJL.out
      have c2 := HBN.out.tl j HJL.out
      rw [← HOP.out] at c1 c2
      go_wp2_with fail
      go_roundg (5 - (j + 1))
      case measure => exact HMS.out
      case rel => exact ⟨j + 1, HJS.out, rfl, HIV.out, HBN.out⟩
    · have hjl' : ¬ (j : Int) < 5 := by omega
      go_wp2_with fail
      refine (rpubs_any a _).mono ?_
      rintro e w12 ⟨rfl, hb⟩
      have HB12 := hid (HBJ.out.bel.trans (hb.mono HBJ.out.bel.size))
      clear hb HBJ
      go_wp2_with fail
      refine (rjoints_any a b _).mono ?_
      rintro e w13 ⟨rfl, hb⟩
      have HB13 := hid (HB12.out.trans (hb.mono HB12.out.size))
      clear hb HB12
      go_wp2_with fail
      refine (rbounds_any a b _).mono ?_
      rintro e w14 ⟨rfl, hb⟩
      have HB14 := hid (HB13.out.trans (hb.mono HB13.out.size))
      clear hb HB13
      go_wp2_with fail
      refine (ragrees_any a b _).mono ?_
      rintro e w15 ⟨rfl, hb⟩
      have HB15 := hid (HB14.out.trans (hb.mono HB14.out.size))
      clear hb HB14
      go_wp2_with fail
      refine (works_any _).mono ?_
      rintro e w16 ⟨rfl, hb⟩
      have HB16 := hid (HB15.out.trans (hb.mono HB15.out.size))
      clear hb HB15
      go_wp2_with fail
      go_ret
      exact ⟨rfl, HB16.out⟩

set_option maxHeartbeats 2000000 in
set_option maxRecDepth 100000 in
theorem builds_any (a b : Bs) (w : World) (_ : a.length ≤ 140737488355328) (_ : b.length ≤ 140737488355328) :
    Calls Tryd.prog 5 #[St a, St b] w fun en w' => en = .returned (.bool true) ∧ Below w.heap.size w w' := by
  have hs1 : (⟨a.toArray⟩ : ByteArray).size = a.length := st_size a
  have hs2 : (⟨b.toArray⟩ : ByteArray).size = b.length := st_size b
  by_cases h1 : a.length ≤ 20000
  · by_cases h2 : b.length ≤ 20000
    · exact builds_small a b w h1 h2
    · have l1 : ¬ (20000 : Int) < (a.length : Int) := by omega
      have l2 : (20000 : Int) < (b.length : Int) := by omega
      go_enter Tryd.func5, Tryd.ntmps5
      go_wp2_with fail
      go_ret
      exact ⟨rfl, Below.refl _ _⟩
  · have l1 : (20000 : Int) < (a.length : Int) := by omega
    go_enter Tryd.func5, Tryd.ntmps5
    go_wp2_with fail
    go_ret
    exact ⟨rfl, Below.refl _ _⟩
end Go.Proofs.YtcmpiffkmnbepaaDoor
