/- What Verify and Unbox do. -/
import Derived.Test.YtfnnhekjeobicaaGreatAsk
namespace Go.Proofs.YtfnnhekjeobicaaGreat
open Go.RowKit

/-- the two parts of an op over two terms -/
theorem kids_two {c : UInt8} {l : Bs} (hd : Tm.deep (c :: l) ≠ 0) (hc : Tm.isTwo c = true) :
    ∃ p q a b, Tm.kidsOf 63 (c :: l) = [p, q] ∧ l = p ++ q ∧ Tm.Is a p ∧ Tm.Is b q ∧ a ≤ 63 ∧ b ≤ 63 ∧ Tm.deep (c :: l) = max a b + 1 := by
  obtain ⟨hi, _⟩ := Tm.deep_is hd
  have h64 := Tm.deep_le (c :: l)
  obtain ⟨a, b, p, q, hp, hq, rfl, hm⟩ := Tm.is_inv_two hi hc
  refine ⟨p, q, a, b, ?_, rfl, hp, hq, by omega, by omega, hm⟩
  have c1 : ¬ c = 84 := by intro e; subst e; simp [Tm.isTwo] at hc
  have c2 : ¬ (c = 80 ∨ c = 72) := by rintro (e | e) <;> (subst e; simp [Tm.isTwo] at hc)
  have c3 : ¬ (c = 110 ∨ c = 116) := by rintro (e | e) <;> (subst e; simp [Tm.isTwo] at hc)
  have ht := Tm.two_is hp hq 63 [] (by omega)
  rw [List.append_nil] at ht
  show (if c = 84 then _ else if c = 80 ∨ c = 72 then _ else if c = 110 ∨ c = 116 then _ else _) = _
  rw [if_neg c1, if_neg c2, if_neg c3, kids2_some ht, Tm.used_app]
  simp [Tm.used]

theorem is_right {a : Nat} {p : Bs} (h : Tm.Is a p) (ha : a ≤ 64) (hl : p.length ≤ 16384) : Tm.deep p ≠ 0 := by
  rw [Tm.is_deep h ha hl]; have := h.1; omega

/-- what Unbox answers -/
def unboxRes (k c : Bs) : Bs × Bool :=
  if Tm.deep c ≠ 0 ∧ c.head? = some 66 then (match Tm.kidsOf 63 c with | [p, q] => if p = k then (q, true) else ([], false) | _ => ([], false)) else ([], false)

/-- what Verify answers -/
def verifyRes (p m s : Bs) : Bool :=
  if Tm.deep s ≠ 0 ∧ s.head? = some 83 then (match Tm.kidsOf 63 s with | [k, m'] => m' == m && Tm.pk k == p | _ => false) else false

theorem own_two {w : World} {base : Nat} {kids : Value} {p q : Bs} (h : w.ownsRow base 28 1 kids 2 [St p, St q]) :
    ∃ g cap, kids = .slice (some ⟨g, 0, none⟩) 2 cap ∧ w.cell? ⟨g, 0, none⟩ = some (St p) ∧ w.cell? ⟨g, 1, none⟩ = some (St q) ∧ g < w.heap.size := by
  rcases h.2 with ⟨_, h0⟩ | ⟨g, cap, cur, hv, _, hg, hc1, hc2, hc3, hc4⟩
  · omega
  · have hcell : ∀ j, w.cell? ⟨g, j, none⟩ = cur[j]? := fun j => by simp [World.cell?, hg]
    have hgs : g < w.heap.size := by
      apply Classical.byContradiction
      intro hn
      rw [Array.getElem?_eq_none (by omega)] at hg
      cases hg
    refine ⟨g, cap, hv, ?_, ?_, hgs⟩
    · have e : (cur.toList.take (2 * 1))[0]? = some (St p) := by rw [hc4]; rfl
      rw [List.getElem?_take_of_lt (by omega), Array.getElem?_toList] at e
      rw [hcell, e]
    · have e : (cur.toList.take (2 * 1))[1]? = some (St q) := by rw [hc4]; rfl
      rw [List.getElem?_take_of_lt (by omega), Array.getElem?_toList] at e
      rw [hcell, e]

theorem own_slice {w : World} {base : Nat} {e : TypeId} {size : Nat} {kids : Value} {n : Nat} {xs : List Value} (h : w.ownsRow base e size kids n xs) : ∃ ao kn kc, kids = .slice ao kn kc := by
  rcases h.2 with ⟨h, _⟩ | ⟨g, cap, _, h, _⟩
  · exact ⟨_, _, _, h⟩
  · exact ⟨_, _, _, h⟩

theorem parts_list (s : Bs) (w : World) :
    Calls Tryz.prog 49 #[St s] w fun en w' => Below w.heap.size w w' ∧
      (Tm.deep s = 0 → en = .returned (.tuple #[.agg #[.int .u8 0, .int .i64 0, .string ⟨#[]⟩, .slice none 0 0], .bool false])) ∧
      (Tm.deep s ≠ 0 → ∃ (c : UInt8) (l : Bs) (kids : Value), s = c :: l ∧ en = .returned (.tuple #[.agg #[.int .u8 (c.toNat : Int), .int .i64 (setN s 0), .string (setX s ⟨#[]⟩), kids], .bool true]) ∧
        w'.ownsRow w.heap.size 28 1 kids (Tm.kidsOf 63 s).length ((Tm.kidsOf 63 s).map St)) := parts_any ⟨s.toArray⟩ w

theorem parts_cons (c : UInt8) (l : Bs) (w : World) (hd : Tm.deep (c :: l) ≠ 0) :
    Calls Tryz.prog 49 #[St (c :: l)] w fun en w' => Below w.heap.size w w' ∧
      ∃ (kids : Value), en = .returned (.tuple #[.agg #[.int .u8 (c.toNat : Int), .int .i64 (setN (c :: l) 0), .string (setX (c :: l) ⟨#[]⟩), kids], .bool true]) ∧
        w'.ownsRow w.heap.size 28 1 kids (Tm.kidsOf 63 (c :: l)).length ((Tm.kidsOf 63 (c :: l)).map St) := by
  refine (parts_list (c :: l) w).mono ?_
  rintro e w1 ⟨hb, _, h2⟩
  obtain ⟨cc, ll, kids, heq, he, hown⟩ := h2 hd
  have e1 := (List.cons.inj heq).1
  subst e1
  exact ⟨hb, kids, he, hown⟩

/-- what unbox hands back -/
abbrev asked2 (r : Bs × Bool) : Ending := .returned (.tuple #[St r.1, .bool r.2])

set_option maxHeartbeats 1000000 in
theorem unbox_any (k c : Bs) (w : World) : Calls Tryz.prog 68 #[St k, St c] w fun en w' => en = asked2 (unboxRes k c) ∧ Below w.heap.size w w' := by
  by_cases hd : Tm.deep c = 0
  · have HR : Hid (unboxRes k c = ([], false)) := by apply hid; unfold unboxRes; rw [if_neg (by simp [hd])]
    have HD := hid hd
    clear hd
    go_enter Tryz.func68, Tryz.ntmps68
    go_wp2_with fail
    refine (parts_list c _).mono ?_
    rintro e w1 ⟨hb, h1, _⟩
    obtain rfl := h1 HD.out
    have HB := hid (hb.alloc (o := .cells #[.int .u8 0, .int .i64 0, .string ⟨#[]⟩, .slice none 0 0] 58) hb.size)
    clear hb h1
    go_wp2_with fail
    go_ret2
    exact ⟨by rw [HR.out]; rfl, HB.out⟩
  · match c with
    | [] => exact absurd rfl hd
    | c0 :: l =>
      have HD := hid hd
      by_cases hc : c0 = 66
      · subst hc
        obtain ⟨p, q, a, b, hk, hpq, hp, hq, ha, hb64, _⟩ := kids_two hd (by decide)
        have hll := (Tm.deep_is hd).2
        simp [hpq] at hll
        have hlq : (⟨q.toArray⟩ : ByteArray).size ≤ 20000 := by rw [st_size]; omega
        have HLQ := hid hlq
        have HK := hid hk
        by_cases hpk : p = k
        · have HR : Hid (unboxRes k (66 :: l) = (q, true)) := by
            apply hid; unfold unboxRes; rw [if_pos ⟨hd, rfl⟩, hk]; simp [hpk]
          have hne : (p == k) = true := by simp [hpk]
          clear hd hk hlq hpk hpq hll
          go_enter Tryz.func68, Tryz.ntmps68
          go_wp2_with fail
          refine (parts_cons 66 l _ HD.out).mono ?_
          rintro e w1 ⟨hb, kids, rfl, hown⟩
          rw [HK.out] at hown
          obtain ⟨g, cap, rfl, g0, g1, gs⟩ := own_two hown
          have HB := hid hb
          clear hb hown
          have hxv : ∃ X : ByteArray, X = setX (66 :: l) ⟨#[]⟩ := ⟨_, rfl⟩
          have hnv : ∃ N : Int, N = setN (66 :: l) 0 := ⟨_, rfl⟩
          obtain ⟨X, hX⟩ := hxv
          obtain ⟨N, hN⟩ := hnv
          rw [← hX, ← hN]
          clear hX hN
          go_wp2_with fail
          refine (fresh_any ⟨q.toArray⟩ _ HLQ.out).mono ?_
          rintro e w2 ⟨rfl, hb⟩
          have HB2 := hid ((HB.out.alloc (o := .cells #[.int .u8 66, .int .i64 N, .string X, .slice (some ⟨g, 0, none⟩) 2 cap] 58) HB.out.size).trans (hb.mono (by have := HB.out.size; simp; omega)))
          clear hb
          go_wp2_with fail
          go_ret2
          exact ⟨by rw [HR.out]; rfl, HB2.out⟩
        · have HR : Hid (unboxRes k (66 :: l) = ([], false)) := by
            apply hid; unfold unboxRes; rw [if_pos ⟨hd, rfl⟩, hk]; simp [hpk]
          have hne : (p == k) = false := by simp [hpk]
          clear hd hk hlq hpk hpq hll
          go_enter Tryz.func68, Tryz.ntmps68
          go_wp2_with fail
          refine (parts_cons 66 l _ HD.out).mono ?_
          rintro e w1 ⟨hb, kids, rfl, hown⟩
          rw [HK.out] at hown
          obtain ⟨g, cap, rfl, g0, g1, gs⟩ := own_two hown
          have HB := hid hb
          clear hb hown
          have hxv : ∃ X : ByteArray, X = setX (66 :: l) ⟨#[]⟩ := ⟨_, rfl⟩
          have hnv : ∃ N : Int, N = setN (66 :: l) 0 := ⟨_, rfl⟩
          obtain ⟨X, hX⟩ := hxv
          obtain ⟨N, hN⟩ := hnv
          rw [← hX, ← hN]
          clear hX hN
          go_wp2_with fail
          go_ret2
          exact ⟨by rw [HR.out]; rfl, HB.out.alloc HB.out.size _⟩
      · have HR : Hid (unboxRes k (c0 :: l) = ([], false)) := by apply hid; unfold unboxRes; rw [if_neg (by simp [hc])]
        have hne : ((c0.toNat : Int) != 66) = true := by simp; intro h; exact hc (UInt8.toNat_inj.1 (by simp; omega))
        clear hd hc
        go_enter Tryz.func68, Tryz.ntmps68
        go_wp2_with fail
        refine (parts_cons c0 l _ HD.out).mono ?_
        rintro e w1 ⟨hb, kids, rfl, hown⟩
        obtain ⟨ao, kn, kc, rfl⟩ := own_slice hown
        have HB := hid hb
        clear hb hown
        have hxv : ∃ X : ByteArray, X = setX (c0 :: l) ⟨#[]⟩ := ⟨_, rfl⟩
        have hnv : ∃ N : Int, N = setN (c0 :: l) 0 := ⟨_, rfl⟩
        obtain ⟨X, hX⟩ := hxv
        obtain ⟨N, hN⟩ := hnv
        rw [← hX, ← hN]
        clear hX hN
        go_wp2_with fail
        go_ret2
        exact ⟨by rw [HR.out]; rfl, HB.out.alloc HB.out.size _⟩

end Go.Proofs.YtfnnhekjeobicaaGreat
