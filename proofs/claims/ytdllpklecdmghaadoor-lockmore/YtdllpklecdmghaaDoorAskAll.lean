import Derived.Test.YtdllpklecdmghaaDoorKeys
/- What the calls on keys, signatures and boxes do. -/
namespace Go.Proofs.YtdllpklecdmghaaDoor
open Go.RowKit

theorem PS_new (w : World) (s : ByteArray) (hs : s.size ≤ 16384) :
    PS w w.heap.size s 0 (.slice none 0 0) [] (w.alloc (.cells (rcells s 0 0 false 0 0 ⟨#[]⟩ (.slice none 0 0)) 95)) :=
  ⟨(RS_new w s false hs).rebase, World.ownsRow_nil _ _ _ _, (Below.refl _ w).alloc (Nat.le_refl _) _⟩

set_option maxHeartbeats 1000000 in
theorem key_any (k : Bs) (w : World) (hk : Tm.deep k ≠ 0) : Calls Tryd.prog 66 #[St k] w fun en w' => en = .returned (St (Tm.pk k)) ∧ Below w.heap.size w w' := by
  obtain ⟨hi, hl⟩ := Tm.deep_is hk
  have hd := Tm.deep_le k
  have hpk := Tm.pk_of hi hd
  have HI := hid hi
  have HS : Hid ((⟨k.toArray⟩ : ByteArray).size ≤ 16384) := by apply hid; rw [st_size]; exact hl
  have HPK := hid hpk
  clear hi hpk hk
  go_enter Tryd.func66, Tryd.ntmps66
  go_wp2_with fail
  refine (public_all 64 (x := []) hd (PS_new w ⟨k.toArray⟩ HS.out) (by simp [rest]) HI.out hd (by simp; omega)).mono ?_
  rintro e w1 ⟨ov, rfl, hps⟩
  have hown := hps.own
  rw [List.nil_append] at hown
  obtain ⟨g, cp, rfl, hcv⟩ := own_string hown (by obtain ⟨d', h1, _⟩ := HPK.out.2.1; exact h1.2.1)
  have hcv1 := hcv 22 Tryd.underlying22
  have HB := hid hps.bel
  clear hown hps hcv
  go_wp2_with fail
  go_ret
  exact ⟨rfl, HB.out⟩

/-- what Pub answers -/
def pubRes (k : Bs) : Bs × Nat := if Tm.deep k = 0 then ([], 10) else if Tm.deep (Tm.pk k) = 0 then ([], 3) else (Tm.pk k, 0)

theorem st_idx {l : Bs} {c : UInt8} {t : Bs} (h : l = c :: t) (h2 : 0 < (⟨l.toArray⟩ : ByteArray).size) : (⟨l.toArray⟩ : ByteArray)[0] = c := by
  subst h; rfl

/-- what Joint and Bound answer -/
def jointRes (a b : Bs) : Bs × Nat := if Tm.isPk a.head? && Tm.isPk b.head? then bRes 87 [] [a, b] else ([], 10)
def boundRes (a b : Bs) : Bs × Nat := if Tm.isPk a.head? then bRes 76 [] [a, b] else ([], 10)

/-- what Agree answers -/
def agreeRes (k p : Bs) : Bs × Nat :=
  if Tm.deep p = 0 ∨ p.head? ≠ some 80 then ([], 10) else if Tm.leB k p.tail then bRes 88 [] [k, p.tail] else bRes 88 [] [p.tail, k]

theorem st_tail (c : UInt8) (t : Bs) : (⟨(c :: t).toArray⟩ : ByteArray).extract 1 (⟨(c :: t).toArray⟩ : ByteArray).size = ⟨t.toArray⟩ := by
  rw [extract_eq]
  apply congrArg ByteArray.mk
  apply congrArg
  show ((c :: t).drop 1).take _ = t
  rw [st_size]
  simp

theorem st_leB (a b : Bs) : (Op.bytesLess (⟨a.toArray⟩ : ByteArray).toList (⟨b.toArray⟩ : ByteArray).toList || (⟨a.toArray⟩ : ByteArray).toList == (⟨b.toArray⟩ : ByteArray).toList) = Tm.leB a b := by
  rw [Lib.toList_data, Lib.toList_data, bytesLess_blt]
  rfl

end Go.Proofs.YtdllpklecdmghaaDoor

/- What Verify and Unbox do. -/
namespace Go.Proofs.YtdllpklecdmghaaDoor
open Go.RowKit

/-- the two parts of an op over two terms -/
theorem kids_two {c : UInt8} {l : Bs} (hd : Tm.deep (c :: l) ≠ 0) (hc : Tm.isTwo c = true) :
    ∃ p q a b, Tm.kidsOf 63 (c :: l) = [p, q] ∧ l = p ++ q ∧ Tm.Is a p ∧ Tm.Is b q ∧ a ≤ 63 ∧ b ≤ 63 ∧ Tm.deep (c :: l) = max a b + 1 := by
  obtain ⟨hi, _⟩ := Tm.deep_is hd
  have h64 := Tm.deep_le (c :: l)
  obtain ⟨a, b, p, q, hp, hq, rfl, hm⟩ := Tm.is_inv_two hi hc
  refine ⟨p, q, a, b, ?_, rfl, hp, hq, by omega, by omega, hm⟩
  have c1 : ¬ c = 84 := by intro e; subst e; simp [Tm.isTwo] at hc
  have c2 : ¬ (c = 80 ∨ c = 72) := by rintro (e | e) <;> (subst e; simp [Tm.isTwo] at hc)
  have c3 : ¬ (c = 110 ∨ c = 116) := by rintro (e | e) <;> (subst e; simp [Tm.isTwo] at hc)
  have ht := Tm.two_is hp hq 63 [] (by omega)
  rw [List.append_nil] at ht
  show (if c = 84 then _ else if c = 80 ∨ c = 72 then _ else if c = 110 ∨ c = 116 then _ else _) = _
  rw [if_neg c1, if_neg c2, if_neg c3, kids2_some ht, Tm.used_app]
  simp [Tm.used]

theorem is_right {a : Nat} {p : Bs} (h : Tm.Is a p) (ha : a ≤ 64) (hl : p.length ≤ 16384) : Tm.deep p ≠ 0 := by
  rw [Tm.is_deep h ha hl]; have := h.1; omega

/-- what Unbox answers -/
def unboxRes (k c : Bs) : Bs × Bool :=
  if Tm.deep c ≠ 0 ∧ c.head? = some 66 then (match Tm.kidsOf 63 c with | [p, q] => if p = k then (q, true) else ([], false) | _ => ([], false)) else ([], false)

/-- what Verify answers -/
def verifyRes (p m s : Bs) : Bool :=
  if Tm.deep s ≠ 0 ∧ s.head? = some 83 then (match Tm.kidsOf 63 s with | [k, m'] => m' == m && Tm.pk k == p | _ => false) else false

theorem own_two {w : World} {base : Nat} {kids : Value} {p q : Bs} (h : w.ownsRow base 22 1 kids 2 [St p, St q]) :
    ∃ g cap, kids = .slice (some ⟨g, 0, none⟩) 2 cap ∧ w.cell? ⟨g, 0, none⟩ = some (St p) ∧ w.cell? ⟨g, 1, none⟩ = some (St q) ∧ g < w.heap.size := by
  rcases h.2 with ⟨_, h0⟩ | ⟨g, cap, cur, hv, _, hg, hc1, hc2, hc3, hc4⟩
  · omega
  · have hcell : ∀ j, w.cell? ⟨g, j, none⟩ = cur[j]? := fun j => by simp [World.cell?, hg]
    have hgs : g < w.heap.size := by
      apply Classical.byContradiction
      intro hn
      rw [Array.getElem?_eq_none (by omega)] at hg
      cases hg
    refine ⟨g, cap, hv, ?_, ?_, hgs⟩
    · have e : (cur.toList.take (2 * 1))[0]? = some (St p) := by rw [hc4]; rfl
      rw [List.getElem?_take_of_lt (by omega), Array.getElem?_toList] at e
      rw [hcell, e]
    · have e : (cur.toList.take (2 * 1))[1]? = some (St q) := by rw [hc4]; rfl
      rw [List.getElem?_take_of_lt (by omega), Array.getElem?_toList] at e
      rw [hcell, e]

theorem own_slice {w : World} {base : Nat} {e : TypeId} {size : Nat} {kids : Value} {n : Nat} {xs : List Value} (h : w.ownsRow base e size kids n xs) : ∃ ao kn kc, kids = .slice ao kn kc := by
  rcases h.2 with ⟨h, _⟩ | ⟨g, cap, _, h, _⟩
  · exact ⟨_, _, _, h⟩
  · exact ⟨_, _, _, h⟩

theorem parts_list (s : Bs) (w : World) :
    Calls Tryd.prog 65 #[St s] w fun en w' => Below w.heap.size w w' ∧
      (Tm.deep s = 0 → en = .returned (.tuple #[.agg #[.int .u8 0, .int .i64 0, .string ⟨#[]⟩, .slice none 0 0], .bool false])) ∧
      (Tm.deep s ≠ 0 → ∃ (c : UInt8) (l : Bs) (kids : Value), s = c :: l ∧ en = .returned (.tuple #[.agg #[.int .u8 (c.toNat : Int), .int .i64 (setN s 0), .string (setX s ⟨#[]⟩), kids], .bool true]) ∧
        w'.ownsRow w.heap.size 22 1 kids (Tm.kidsOf 63 s).length ((Tm.kidsOf 63 s).map St)) := parts_any ⟨s.toArray⟩ w

theorem parts_cons (c : UInt8) (l : Bs) (w : World) (hd : Tm.deep (c :: l) ≠ 0) :
    Calls Tryd.prog 65 #[St (c :: l)] w fun en w' => Below w.heap.size w w' ∧
      ∃ (kids : Value), en = .returned (.tuple #[.agg #[.int .u8 (c.toNat : Int), .int .i64 (setN (c :: l) 0), .string (setX (c :: l) ⟨#[]⟩), kids], .bool true]) ∧
        w'.ownsRow w.heap.size 22 1 kids (Tm.kidsOf 63 (c :: l)).length ((Tm.kidsOf 63 (c :: l)).map St) := by
  refine (parts_list (c :: l) w).mono ?_
  rintro e w1 ⟨hb, _, h2⟩
  obtain ⟨cc, ll, kids, heq, he, hown⟩ := h2 hd
  have e1 := (List.cons.inj heq).1
  subst e1
  exact ⟨hb, kids, he, hown⟩

/-- what unbox hands back -/
abbrev asked2 (r : Bs × Bool) : Ending := .returned (.tuple #[St r.1, .bool r.2])

set_option maxHeartbeats 1000000 in
theorem verify_any (p m s : Bs) (w : World) : Calls Tryd.prog 50 #[St p, St m, St s] w fun en w' => en = .returned (.bool (verifyRes p m s)) ∧ Below w.heap.size w w' := by
  by_cases hd : Tm.deep s = 0
  · have HR : Hid (verifyRes p m s = false) := by apply hid; unfold verifyRes; rw [if_neg (by simp [hd])]
    have HD := hid hd
    clear hd
    go_enter Tryd.func50, Tryd.ntmps50
    go_wp2_with fail
    refine (parts_list s _).mono ?_
    rintro e w1 ⟨hb, h1, _⟩
    obtain rfl := h1 HD.out
    have HB := hid (hb.alloc (o := .cells #[.int .u8 0, .int .i64 0, .string ⟨#[]⟩, .slice none 0 0] 86) hb.size)
    clear hb h1
    go_wp2_with fail
    go_ret
    exact ⟨by rw [HR.out]; rfl, HB.out⟩
  · match s with
    | [] => exact absurd rfl hd
    | c0 :: l =>
      have HD := hid hd
      by_cases hc : c0 = 83
      · subst hc
        obtain ⟨k, q, a, b, hk, hpq, hp, hq, ha, hb64, _⟩ := kids_two hd (by decide)
        have hll := (Tm.deep_is hd).2
        simp [hpq] at hll
        have HRK := hid (is_right hp (by omega) (by omega))
        have HK := hid hk
        have HR : Hid (verifyRes p m (83 :: l) = (q == m && Tm.pk k == p)) := by
          apply hid; unfold verifyRes; rw [if_pos ⟨hd, rfl⟩, hk]
        cases hqm : q == m
        · clear hd hk hpq hll
          go_enter Tryd.func50, Tryd.ntmps50
          go_wp2_with fail
          refine (parts_cons 83 l _ HD.out).mono ?_
          rintro e w1 ⟨hb, kids, rfl, hown⟩
          rw [HK.out] at hown
          obtain ⟨g, cap, rfl, g0, g1, gs⟩ := own_two hown
          have HB := hid hb
          clear hb hown
          have hxv : ∃ X : ByteArray, X = setX (83 :: l) ⟨#[]⟩ := ⟨_, rfl⟩
          have hnv : ∃ N : Int, N = setN (83 :: l) 0 := ⟨_, rfl⟩
          obtain ⟨X, hX⟩ := hxv
          obtain ⟨N, hN⟩ := hnv
          rw [← hX, ← hN]
          clear hX hN
          go_wp2_with fail
          go_ret
          exact ⟨by rw [HR.out, hqm]; rfl, HB.out.alloc HB.out.size _⟩
        · clear hd hk hpq hll
          go_enter Tryd.func50, Tryd.ntmps50
          go_wp2_with fail
          refine (parts_cons 83 l _ HD.out).mono ?_
          rintro e w1 ⟨hb, kids, rfl, hown⟩
          rw [HK.out] at hown
          obtain ⟨g, cap, rfl, g0, g1, gs⟩ := own_two hown
          have HB := hid hb
          clear hb hown
          have hxv : ∃ X : ByteArray, X = setX (83 :: l) ⟨#[]⟩ := ⟨_, rfl⟩
          have hnv : ∃ N : Int, N = setN (83 :: l) 0 := ⟨_, rfl⟩
          obtain ⟨X, hX⟩ := hxv
          obtain ⟨N, hN⟩ := hnv
          rw [← hX, ← hN]
          clear hX hN
          go_wp2_with fail
          refine (key_any k _ HRK.out).mono ?_
          rintro e w2 ⟨rfl, hb⟩
          have HB2 := hid ((HB.out.alloc (o := .cells #[.int .u8 83, .int .i64 N, .string X, .slice (some ⟨g, 0, none⟩) 2 cap] 86) HB.out.size).trans (hb.mono (by have := HB.out.size; simp; omega)))
          clear hb
          go_wp2_with fail
          go_ret
          exact ⟨by rw [HR.out, hqm]; simp, HB2.out⟩
      · have HR : Hid (verifyRes p m (c0 :: l) = false) := by apply hid; unfold verifyRes; rw [if_neg (by simp [hc])]
        have hne : ((c0.toNat : Int) == 83) = false := by simp; intro h; exact hc (UInt8.toNat_inj.1 (by simp; omega))
        clear hd hc
        go_enter Tryd.func50, Tryd.ntmps50
        go_wp2_with fail
        refine (parts_cons c0 l _ HD.out).mono ?_
        rintro e w1 ⟨hb, kids, rfl, hown⟩
        obtain ⟨ao, kn, kc, rfl⟩ := own_slice hown
        have HB := hid hb
        clear hb hown
        have hxv : ∃ X : ByteArray, X = setX (c0 :: l) ⟨#[]⟩ := ⟨_, rfl⟩
        have hnv : ∃ N : Int, N = setN (c0 :: l) 0 := ⟨_, rfl⟩
        obtain ⟨X, hX⟩ := hxv
        obtain ⟨N, hN⟩ := hnv
        rw [← hX, ← hN]
        clear hX hN
        go_wp2_with fail
        go_ret
        exact ⟨by rw [HR.out]; rfl, HB.out.alloc HB.out.size _⟩
end Go.Proofs.YtdllpklecdmghaaDoor
