import Derived.Test.YtkifchjpgdmcoaaGreatDoorKeys
import Derived.Test.YtkifchjpgdmcoaaGreatDoorFmtAll
import Derived.Test.YtkifchjpgdmcoaaGreatDoorSdM
import Derived.Test.YtkifchjpgdmcoaaGreatDoorWholeAll
/- What the calls on keys, signatures and boxes do. -/
namespace Go.Proofs.YtkifchjpgdmcoaaGreatDoor
open Go.RowKit

theorem PS_new (w : World) (s : ByteArray) (hs : s.size ≤ 16384) :
    PS w w.heap.size s 0 (.slice none 0 0) [] (w.alloc (.cells (rcells s 0 0 false 0 0 ⟨#[]⟩ (.slice none 0 0)) 95)) :=
  ⟨(RS_new w s false hs).rebase, World.ownsRow_nil _ _ _ _, (Below.refl _ w).alloc (Nat.le_refl _) _⟩

set_option maxHeartbeats 1000000 in
theorem key_any (k : Bs) (w : World) (hk : Tm.deep k ≠ 0) : Calls Tryz.prog 54 #[St k] w fun en w' => en = .returned (St (Tm.pk k)) ∧ Below w.heap.size w w' := by
  obtain ⟨hi, hl⟩ := Tm.deep_is hk
  have hd := Tm.deep_le k
  have hpk := Tm.pk_of hi hd
  have HI := hid hi
  have HS : Hid ((⟨k.toArray⟩ : ByteArray).size ≤ 16384) := by apply hid; rw [st_size]; exact hl
  have HPK := hid hpk
  clear hi hpk hk
  go_enter Tryz.func54, Tryz.ntmps54
  go_wp2_with fail
  refine (public_all 64 (x := []) hd (PS_new w ⟨k.toArray⟩ HS.out) (by simp [rest]) HI.out hd (by simp; omega)).mono ?_
  rintro e w1 ⟨ov, rfl, hps⟩
  have hown := hps.own
  rw [List.nil_append] at hown
  obtain ⟨g, cp, rfl, hcv⟩ := own_string hown (by obtain ⟨d', h1, _⟩ := HPK.out.2.1; exact h1.2.1)
  have hcv1 := hcv 22 Tryz.underlying22
  have HB := hid hps.bel
  clear hown hps hcv
  go_wp2_with fail
  go_ret
  exact ⟨rfl, HB.out⟩

/-- what Pub answers -/
def pubRes (k : Bs) : Bs × Nat := if Tm.deep k = 0 then ([], 10) else if Tm.deep (Tm.pk k) = 0 then ([], 3) else (Tm.pk k, 0)

set_option maxHeartbeats 1000000 in
theorem pubs_any (k : Bs) (w : World) : Calls Tryz.prog 24 #[St k] w fun en w' => en = made (pubRes k) ∧ Below w.heap.size w w' := by
  by_cases hk : Tm.deep k = 0
  · have HR : Hid (pubRes k = ([], 10)) := by apply hid; unfold pubRes; rw [if_pos hk]
    have HK := hid hk
    clear hk
    go_enter Tryz.func24, Tryz.ntmps24
    go_wp2_with fail
    refine (right_list k _).mono ?_
    rintro e w1 ⟨rfl, hb⟩
    have HB := hid hb
    clear hb
    rw [HK.out]
    go_wp2_with fail
    go_ret2
    exact ⟨by rw [HR.out]; rfl, HB.out⟩
  · have HK := hid hk
    have HKB : Hid ((Tm.deep k != 0) = true) := by apply hid; simpa using hk
    clear hk
    by_cases hp : Tm.deep (Tm.pk k) = 0
    · have HR : Hid (pubRes k = ([], 3)) := by apply hid; unfold pubRes; rw [if_neg HK.out, if_pos hp]
      have HPB : Hid ((Tm.deep (Tm.pk k) != 0) = false) := by apply hid; simpa using hp
      clear hp
      go_enter Tryz.func24, Tryz.ntmps24
      go_wp2_with fail
      refine (right_list k _).mono ?_
      rintro e w1 ⟨rfl, hb⟩
      have HB := hid hb
      clear hb
      rw [HKB.out]
      go_wp2_with fail
      refine (key_any k _ HK.out).mono ?_
      rintro e w2 ⟨rfl, hb⟩
      have HB2 := hid (HB.out.trans (hb.mono HB.out.size))
      clear hb
      go_wp2_with fail
      refine (right_list (Tm.pk k) _).mono ?_
      rintro e w3 ⟨rfl, hb⟩
      have HB3 := hid (HB2.out.trans (hb.mono HB2.out.size))
      clear hb
      rw [HPB.out]
      go_wp2_with fail
      go_ret2
      exact ⟨by rw [HR.out]; rfl, HB3.out⟩
    · have HR : Hid (pubRes k = (Tm.pk k, 0)) := by apply hid; unfold pubRes; rw [if_neg HK.out, if_neg hp]
      have HPB : Hid ((Tm.deep (Tm.pk k) != 0) = true) := by apply hid; simpa using hp
      clear hp
      go_enter Tryz.func24, Tryz.ntmps24
      go_wp2_with fail
      refine (right_list k _).mono ?_
      rintro e w1 ⟨rfl, hb⟩
      have HB := hid hb
      clear hb
      rw [HKB.out]
      go_wp2_with fail
      refine (key_any k _ HK.out).mono ?_
      rintro e w2 ⟨rfl, hb⟩
      have HB2 := hid (HB.out.trans (hb.mono HB.out.size))
      clear hb
      go_wp2_with fail
      refine (right_list (Tm.pk k) _).mono ?_
      rintro e w3 ⟨rfl, hb⟩
      have HB3 := hid (HB2.out.trans (hb.mono HB2.out.size))
      clear hb
      rw [HPB.out]
      go_wp2_with fail
      go_ret2
      exact ⟨by rw [HR.out]; rfl, HB3.out⟩

theorem st_idx {l : Bs} {c : UInt8} {t : Bs} (h : l = c :: t) (h2 : 0 < (⟨l.toArray⟩ : ByteArray).size) : (⟨l.toArray⟩ : ByteArray)[0] = c := by
  subst h; rfl

set_option maxHeartbeats 1000000 in
theorem isKey_any (k : Bs) (w : World) : Calls Tryz.prog 78 #[St k] w fun en w' => en = .returned (.bool (Tm.isPk k.head?)) ∧ w' = w := by
  match k with
  | [] =>
    go_enter Tryz.func78, Tryz.ntmps78
    go_wp2_with fail
    go_ret
    exact ⟨rfl, rfl⟩
  | c :: t =>
    have hs : (⟨(c :: t).toArray⟩ : ByteArray).size = t.length + 1 := st_size _
    have hpos : 0 < (⟨(c :: t).toArray⟩ : ByteArray).size := by omega
    generalize hX : (⟨(c :: t).toArray⟩ : ByteArray) = X at *
    have hx0 : X[0] = c := by subst hX; rfl
    go_enter Tryz.func78, Tryz.ntmps78
    go_wp2_with fail
    refine (opens_any c _).mono ?_
    rintro e w1 ⟨rfl, rfl⟩
    go_wp2_with fail
    go_ret
    exact ⟨rfl, rfl⟩

/-- what Joint and Bound answer -/
def jointRes (a b : Bs) : Bs × Nat := if Tm.isPk a.head? && Tm.isPk b.head? then bRes 87 [] [a, b] else ([], 10)
def boundRes (a b : Bs) : Bs × Nat := if Tm.isPk a.head? then bRes 76 [] [a, b] else ([], 10)

set_option maxHeartbeats 1000000 in
theorem joints_any (a b : Bs) (w : World) : Calls Tryz.prog 51 #[St a, St b] w fun en w' => en = made (jointRes a b) ∧ Below w.heap.size w w' := by
  cases ha : Tm.isPk a.head?
  · have HR : Hid (jointRes a b = ([], 10)) := by apply hid; unfold jointRes; rw [ha]; rfl
    have HA := hid ha
    clear ha
    go_enter Tryz.func51, Tryz.ntmps51
    go_wp2_with fail
    refine (isKey_any a _).mono ?_
    rintro e w1 ⟨rfl, rfl⟩
    rw [HA.out]
    go_wp2_with fail
    go_ret2
    exact ⟨by rw [HR.out]; rfl, Below.refl _ _⟩
  · cases hb : Tm.isPk b.head?
    · have HR : Hid (jointRes a b = ([], 10)) := by apply hid; unfold jointRes; rw [ha, hb]; rfl
      have HA := hid ha
      have HB := hid hb
      clear ha hb
      go_enter Tryz.func51, Tryz.ntmps51
      go_wp2_with fail
      refine (isKey_any a _).mono ?_
      rintro e w1 ⟨rfl, rfl⟩
      rw [HA.out]
      go_wp2_with fail
      refine (isKey_any b _).mono ?_
      rintro e w1 ⟨rfl, rfl⟩
      rw [HB.out]
      go_wp2_with fail
      go_ret2
      exact ⟨by rw [HR.out]; rfl, Below.refl _ _⟩
    · have HR : Hid (jointRes a b = bRes 87 [] [a, b]) := by apply hid; unfold jointRes; rw [ha, hb]; rfl
      have HA := hid ha
      have HB := hid hb
      clear ha hb
      go_enter Tryz.func51, Tryz.ntmps51
      go_wp2_with fail
      refine (isKey_any a _).mono ?_
      rintro e w1 ⟨rfl, rfl⟩
      rw [HA.out]
      go_wp2_with fail
      refine (isKey_any b _).mono ?_
      rintro e w1 ⟨rfl, rfl⟩
      rw [HB.out]
      go_wp2_with fail
      refine (build_any 87 [] [a, b] _ _ (texts_two _ a b) (by simp) (by simp)).mono ?_
      rintro e w2 ⟨rfl, hb⟩
      have HB2 := hid (((Below.refl _ _).alloc (Nat.le_refl _) (.cells #[St a, St b] 22)).trans (hb.mono (by simp)))
      clear hb
      go_wp2_with fail
      go_ret2
      exact ⟨by rw [HR.out]; rfl, HB2.out⟩

set_option maxHeartbeats 1000000 in
theorem bounds_any (a b : Bs) (w : World) : Calls Tryz.prog 52 #[St a, St b] w fun en w' => en = made (boundRes a b) ∧ Below w.heap.size w w' := by
  cases ha : Tm.isPk a.head?
  · have HR : Hid (boundRes a b = ([], 10)) := by apply hid; unfold boundRes; rw [ha]; rfl
    have HA := hid ha
    clear ha
    go_enter Tryz.func52, Tryz.ntmps52
    go_wp2_with fail
    refine (isKey_any a _).mono ?_
    rintro e w1 ⟨rfl, rfl⟩
    rw [HA.out]
    go_wp2_with fail
    go_ret2
    exact ⟨by rw [HR.out]; rfl, Below.refl _ _⟩
  · have HR : Hid (boundRes a b = bRes 76 [] [a, b]) := by apply hid; unfold boundRes; rw [ha]; rfl
    have HA := hid ha
    clear ha
    go_enter Tryz.func52, Tryz.ntmps52
    go_wp2_with fail
    refine (isKey_any a _).mono ?_
    rintro e w1 ⟨rfl, rfl⟩
    rw [HA.out]
    go_wp2_with fail
    refine (build_any 76 [] [a, b] _ _ (texts_two _ a b) (by simp) (by simp)).mono ?_
    rintro e w2 ⟨rfl, hb⟩
    have HB2 := hid (((Below.refl _ _).alloc (Nat.le_refl _) (.cells #[St a, St b] 22)).trans (hb.mono (by simp)))
    clear hb
    go_wp2_with fail
    go_ret2
    exact ⟨by rw [HR.out]; rfl, HB2.out⟩

/-- what Agree answers -/
def agreeRes (k p : Bs) : Bs × Nat :=
  if Tm.deep p = 0 ∨ p.head? ≠ some 80 then ([], 10) else if Tm.leB k p.tail then bRes 88 [] [k, p.tail] else bRes 88 [] [p.tail, k]

theorem st_tail (c : UInt8) (t : Bs) : (⟨(c :: t).toArray⟩ : ByteArray).extract 1 (⟨(c :: t).toArray⟩ : ByteArray).size = ⟨t.toArray⟩ := by
  rw [extract_eq]
  apply congrArg ByteArray.mk
  apply congrArg
  show ((c :: t).drop 1).take _ = t
  rw [st_size]
  simp

theorem st_leB (a b : Bs) : (Op.bytesLess (⟨a.toArray⟩ : ByteArray).toList (⟨b.toArray⟩ : ByteArray).toList || (⟨a.toArray⟩ : ByteArray).toList == (⟨b.toArray⟩ : ByteArray).toList) = Tm.leB a b := by
  rw [Lib.toList_data, Lib.toList_data, bytesLess_blt]
  rfl

theorem agree_ways {k t : Bs} (h : (!Op.bytesLess k t) = true ∧ (!k == t) = true) : Tm.leB k t = false := by
  unfold Tm.leB; rw [← bytesLess_blt]
  simp only [Bool.not_eq_true'] at h
  rw [h.1, h.2]; rfl
theorem agree_ways' {k t : Bs} (h : (!Op.bytesLess k t) = false ∨ (!k == t) = false) : Tm.leB k t = true := by
  unfold Tm.leB; rw [← bytesLess_blt]
  simp only [Bool.not_eq_false'] at h
  rcases h with h | h
  · rw [h]; rfl
  · rw [h, Bool.or_true]

end Go.Proofs.YtkifchjpgdmcoaaGreatDoor

/- What Verify and Unbox do. -/
namespace Go.Proofs.YtkifchjpgdmcoaaGreatDoor
open Go.RowKit

/-- the two parts of an op over two terms -/
theorem kids_two {c : UInt8} {l : Bs} (hd : Tm.deep (c :: l) ≠ 0) (hc : Tm.isTwo c = true) :
    ∃ p q a b, Tm.kidsOf 63 (c :: l) = [p, q] ∧ l = p ++ q ∧ Tm.Is a p ∧ Tm.Is b q ∧ a ≤ 63 ∧ b ≤ 63 ∧ Tm.deep (c :: l) = max a b + 1 := by
  obtain ⟨hi, _⟩ := Tm.deep_is hd
  have h64 := Tm.deep_le (c :: l)
  obtain ⟨a, b, p, q, hp, hq, rfl, hm⟩ := Tm.is_inv_two hi hc
  refine ⟨p, q, a, b, ?_, rfl, hp, hq, by omega, by omega, hm⟩
  have c1 : ¬ c = 84 := by intro e; subst e; simp [Tm.isTwo] at hc
  have c2 : ¬ (c = 80 ∨ c = 72) := by rintro (e | e) <;> (subst e; simp [Tm.isTwo] at hc)
  have c3 : ¬ (c = 110 ∨ c = 116) := by rintro (e | e) <;> (subst e; simp [Tm.isTwo] at hc)
  have ht := Tm.two_is hp hq 63 [] (by omega)
  rw [List.append_nil] at ht
  show (if c = 84 then _ else if c = 80 ∨ c = 72 then _ else if c = 110 ∨ c = 116 then _ else _) = _
  rw [if_neg c1, if_neg c2, if_neg c3, kids2_some ht, Tm.used_app]
  simp [Tm.used]

theorem is_right {a : Nat} {p : Bs} (h : Tm.Is a p) (ha : a ≤ 64) (hl : p.length ≤ 16384) : Tm.deep p ≠ 0 := by
  rw [Tm.is_deep h ha hl]; have := h.1; omega

/-- what Unbox answers -/
def unboxRes (k c : Bs) : Bs × Bool :=
  if Tm.deep c ≠ 0 ∧ c.head? = some 66 then (match Tm.kidsOf 63 c with | [p, q] => if p = k then (q, true) else ([], false) | _ => ([], false)) else ([], false)

/-- what Verify answers -/
def verifyRes (p m s : Bs) : Bool :=
  if Tm.deep s ≠ 0 ∧ s.head? = some 83 then (match Tm.kidsOf 63 s with | [k, m'] => m' == m && Tm.pk k == p | _ => false) else false

theorem own_two {w : World} {base : Nat} {kids : Value} {p q : Bs} (h : w.ownsRow base 22 1 kids 2 [St p, St q]) :
    ∃ g cap, kids = .slice (some ⟨g, 0, none⟩) 2 cap ∧ w.cell? ⟨g, 0, none⟩ = some (St p) ∧ w.cell? ⟨g, 1, none⟩ = some (St q) ∧ g < w.heap.size := by
  rcases h.2 with ⟨_, h0⟩ | ⟨g, cap, cur, hv, _, hg, hc1, hc2, hc3, hc4⟩
  · omega
  · have hcell : ∀ j, w.cell? ⟨g, j, none⟩ = cur[j]? := fun j => by simp [World.cell?, hg]
    have hgs : g < w.heap.size := by
      apply Classical.byContradiction
      intro hn
      rw [Array.getElem?_eq_none (by omega)] at hg
      cases hg
    refine ⟨g, cap, hv, ?_, ?_, hgs⟩
    · have e : (cur.toList.take (2 * 1))[0]? = some (St p) := by rw [hc4]; rfl
      rw [List.getElem?_take_of_lt (by omega), Array.getElem?_toList] at e
      rw [hcell, e]
    · have e : (cur.toList.take (2 * 1))[1]? = some (St q) := by rw [hc4]; rfl
      rw [List.getElem?_take_of_lt (by omega), Array.getElem?_toList] at e
      rw [hcell, e]

theorem own_slice {w : World} {base : Nat} {e : TypeId} {size : Nat} {kids : Value} {n : Nat} {xs : List Value} (h : w.ownsRow base e size kids n xs) : ∃ ao kn kc, kids = .slice ao kn kc := by
  rcases h.2 with ⟨h, _⟩ | ⟨g, cap, _, h, _⟩
  · exact ⟨_, _, _, h⟩
  · exact ⟨_, _, _, h⟩

theorem parts_list (s : Bs) (w : World) :
    Calls Tryz.prog 84 #[St s] w fun en w' => Below w.heap.size w w' ∧
      (Tm.deep s = 0 → en = .returned (.tuple #[.agg #[.int .u8 0, .int .i64 0, .string ⟨#[]⟩, .slice none 0 0], .bool false])) ∧
      (Tm.deep s ≠ 0 → ∃ (c : UInt8) (l : Bs) (kids : Value), s = c :: l ∧ en = .returned (.tuple #[.agg #[.int .u8 (c.toNat : Int), .int .i64 (setN s 0), .string (setX s ⟨#[]⟩), kids], .bool true]) ∧
        w'.ownsRow w.heap.size 22 1 kids (Tm.kidsOf 63 s).length ((Tm.kidsOf 63 s).map St)) := parts_any ⟨s.toArray⟩ w

theorem parts_cons (c : UInt8) (l : Bs) (w : World) (hd : Tm.deep (c :: l) ≠ 0) :
    Calls Tryz.prog 84 #[St (c :: l)] w fun en w' => Below w.heap.size w w' ∧
      ∃ (kids : Value), en = .returned (.tuple #[.agg #[.int .u8 (c.toNat : Int), .int .i64 (setN (c :: l) 0), .string (setX (c :: l) ⟨#[]⟩), kids], .bool true]) ∧
        w'.ownsRow w.heap.size 22 1 kids (Tm.kidsOf 63 (c :: l)).length ((Tm.kidsOf 63 (c :: l)).map St) := by
  refine (parts_list (c :: l) w).mono ?_
  rintro e w1 ⟨hb, _, h2⟩
  obtain ⟨cc, ll, kids, heq, he, hown⟩ := h2 hd
  have e1 := (List.cons.inj heq).1
  subst e1
  exact ⟨hb, kids, he, hown⟩

/-- what unbox hands back -/
abbrev asked2 (r : Bs × Bool) : Ending := .returned (.tuple #[St r.1, .bool r.2])

end Go.Proofs.YtkifchjpgdmcoaaGreatDoor

/- What the answers of the makers and of the calls on keys, signatures and boxes say of one another. No program in it. -/
namespace Go.Proofs.YtkifchjpgdmcoaaGreatDoor
open Go.RowKit

/-- two parts, put together -/
theorem bRes_two (op : UInt8) (a b : Bs) : bRes op [] [a, b] =
    if Tm.deep a = 0 ∨ Tm.deep b = 0 then ([], 10) else if 64 < max (Tm.deep a) (Tm.deep b) + 1 ∨ 16384 < 1 + a.length + b.length then ([], 3) else (op :: (a ++ b), 0) := by
  unfold bRes
  have e1 : ([a, b].any (fun k => Tm.deep k == 0) = true) ↔ (Tm.deep a = 0 ∨ Tm.deep b = 0) := by simp
  have e2 : bDeep [a, b] = max (Tm.deep a) (Tm.deep b) + 1 := by simp [bDeep]
  have e3 : 1 + ([] : Bs).length + bSize [a, b] = 1 + a.length + b.length := by simp [bSize]; omega
  have e4 : ([] : Bs) ++ [a, b].flatten = a ++ b := by simp
  by_cases h : Tm.deep a = 0 ∨ Tm.deep b = 0
  · rw [if_pos (e1.2 h), if_pos h]
  · rw [if_neg (fun x => h (e1.1 x)), if_neg h, e2, e3, e4]

theorem bRes_two_ok {op : UInt8} {a b : Bs} (h : (bRes op [] [a, b]).2 = 0) :
    bRes op [] [a, b] = (op :: (a ++ b), 0) ∧ Tm.deep a ≠ 0 ∧ Tm.deep b ≠ 0 ∧ max (Tm.deep a) (Tm.deep b) + 1 ≤ 64 ∧ 1 + a.length + b.length ≤ 16384 := by
  rw [bRes_two] at h ⊢
  split at h
  · simp at h
  · rename_i h1
    split at h
    · simp at h
    · rename_i h2
      rw [if_neg h1, if_neg h2]
      exact ⟨rfl, fun e => h1 (Or.inl e), fun e => h1 (Or.inr e), by omega, by omega⟩

theorem bRes_same (op op' : UInt8) (a b : Bs) : (bRes op [] [a, b]).2 = (bRes op' [] [a, b]).2 := by
  rw [bRes_two, bRes_two]
  split
  · rfl
  · split <;> rfl

/-- what was made of two is right, and has these two parts -/
theorem made_two {op : UInt8} {a b : Bs} (hop : Tm.isTwo op = true) (ha : Tm.deep a ≠ 0) (hb : Tm.deep b ≠ 0) (h1 : max (Tm.deep a) (Tm.deep b) + 1 ≤ 64) (h2 : 1 + a.length + b.length ≤ 16384) :
    Tm.deep (op :: (a ++ b)) = max (Tm.deep a) (Tm.deep b) + 1 ∧ Tm.kidsOf 63 (op :: (a ++ b)) = [a, b] := by
  have ia := (Tm.deep_is ha).1
  have ib := (Tm.deep_is hb).1
  have hi := Tm.is_two ia ib hop
  have hd : Tm.deep (op :: (a ++ b)) = max (Tm.deep a) (Tm.deep b) + 1 := Tm.is_deep hi h1 (by simp; omega)
  refine ⟨hd, ?_⟩
  obtain ⟨p, q, x, y, hk, hpq, hp, hq, _⟩ := kids_two (by rw [hd]; omega) hop
  obtain ⟨rfl, rfl, _⟩ := Tm.is_uniq ia hp hpq
  exact hk

theorem unbox_made {a b j : Bs} (ha : Tm.deep a ≠ 0) (hb : Tm.deep b ≠ 0) (h1 : max (Tm.deep a) (Tm.deep b) + 1 ≤ 64) (h2 : 1 + a.length + b.length ≤ 16384) :
    unboxRes j (66 :: (a ++ b)) = if a = j then (b, true) else ([], false) := by
  obtain ⟨hd, hk⟩ := made_two (op := 66) (by decide) ha hb h1 h2
  unfold unboxRes
  rw [if_pos ⟨by rw [hd]; omega, rfl⟩, hk]

theorem verify_made {a b p m : Bs} (ha : Tm.deep a ≠ 0) (hb : Tm.deep b ≠ 0) (h1 : max (Tm.deep a) (Tm.deep b) + 1 ≤ 64) (h2 : 1 + a.length + b.length ≤ 16384) :
    verifyRes p m (83 :: (a ++ b)) = (b == m && Tm.pk a == p) := by
  obtain ⟨hd, hk⟩ := made_two (op := 83) (by decide) ha hb h1 h2
  unfold verifyRes
  rw [if_pos ⟨by rw [hd]; omega, rfl⟩, hk]

theorem verify_box (p m : Bs) (l : Bs) : verifyRes p m (66 :: l) = false := by
  unfold verifyRes
  rw [if_neg (by simp)]

theorem pub_okL {k : Bs} (h : (pubRes k).2 = 0) : pubRes k = (Tm.pk k, 0) ∧ Tm.deep k ≠ 0 ∧ Tm.deep (Tm.pk k) ≠ 0 := by
  unfold pubRes at h ⊢
  split at h
  · simp at h
  · rename_i h1
    split at h
    · simp at h
    · rename_i h2
      rw [if_neg h1, if_neg h2]
      exact ⟨rfl, h1, h2⟩

theorem pk_eq {a b : Bs} (ha : Tm.deep a ≠ 0) (hb : Tm.deep b ≠ 0) : Tm.pk a = Tm.pk b ↔ a = b := by
  constructor
  · intro h
    exact (Tm.pk_inj a.length (x := []) (y := []) (Nat.le_refl _) (Tm.deep_is ha).1 (Tm.deep_is hb).1 (Tm.deep_le a) (Tm.deep_le b) (by rw [h])).1
  · intro h; rw [h]
end Go.Proofs.YtkifchjpgdmcoaaGreatDoor

/- A step of a secret, and a secret from one on, as the program makes them. -/
namespace Go.Proofs.YtkifchjpgdmcoaaGreatDoor
open Go.RowKit

/-- the term of a step's bit -/
def lab (b : Nat) : Bs := (textRes (dec b)).1
theorem lab_is {b : Nat} (h : b < 100) : textRes (dec b) = (lab b, 0) := by
  have h1 := dec_len b (by omega)
  have h2 := dec_len (dec b).length (by omega)
  have h3 : (textRes (dec b)).2 = 0 := by
    unfold textRes
    rw [if_neg (by omega)]
    unfold bRes
    simp [bDeep, bSize]
    rw [if_neg (by omega)]
  exact Prod.ext rfl h3
/-- a step -/
def stp (x : Bs) (b : Nat) : Bs × Nat := bRes 68 [] [x, lab b]
theorem stp_none {x : Bs} {b : Nat} (h : (stp x b).2 ≠ 0) : (stp x b).1 = [] := by
  unfold stp at h ⊢
  rw [bRes_two] at h ⊢
  split
  · rfl
  · rename_i h1
    rw [if_neg h1] at h
    split
    · rfl
    · rename_i h2; rw [if_neg h2] at h; exact absurd rfl h

set_option maxHeartbeats 1000000 in
theorem step_any (x : Bs) (b : Nat) (hb : b < 100) (w : World) (hp : Pw w) : Calls Tryz.prog 100 #[St x, .int .i64 (b : Int)] w fun en w' => en = made (stp x b) ∧ Below w.heap.size w w' := by
  have HI : Hid (Calls Tryz.prog 99 #[.int .i64 (b : Int)] w fun e w' => e = .returned (St (dec b)) ∧ Below w.heap.size w w') := hid (itoa_any b (by omega) w hp)
  have HT : Hid (∀ W, Pw W → Calls Tryz.prog 73 #[St (dec b)] W fun en w' => en = made (lab b, 0) ∧ Below W.heap.size W w') := hid (fun W h => by
    have := mktext_any (dec b) W (by have := dec_len b (by omega); omega) h
    rwa [lab_is hb] at this)
  have HP := hid hp
  have HS : Hid (stp x b = bRes 68 [] [x, lab b]) := hid rfl
  generalize stp x b = R at HS ⊢
  generalize dec b = D at HI HT
  generalize lab b = L at HT HS
  clear hp
  go_enter Tryz.func100, Tryz.ntmps100
  go_wp2_with fail
  refine HI.out.mono ?_
  rintro e w1 ⟨rfl, hb1⟩
  have HB1 := hid hb1
  clear hb1
  go_wp2_with fail
  refine (HT.out w1 (HP.out.below HB1.out)).mono ?_
  rintro e w2 ⟨rfl, hb2⟩
  have HB2 := hid (HB1.out.trans (hb2.mono HB1.out.size))
  clear hb2
  go_wp2_with fail
  refine (child_any x L w2).mono ?_
  rintro e w3 ⟨rfl, hb3⟩
  have HB3 := hid (HB2.out.trans (hb3.mono HB2.out.size))
  clear hb3
  go_wp2_with fail
  go_ret2
  exact ⟨by rw [HS.out]; rfl, HB3.out⟩

theorem and_one (a : Nat) (ha : a < 9223372036854775808) : bits .and .i64 (a : Int) 1 = ((a % 2 : Nat) : Int) := by
  have h1 : (BitVec.ofInt 64 (a : Int)).toNat = a := by simp; omega
  have h2 : (BitVec.ofInt 64 (1 : Int)).toNat = 1 := by decide
  change IntKind.i64.wrap ((BitVec.ofInt 64 (a : Int) &&& BitVec.ofInt 64 (1 : Int)).toNat : Int) = _
  rw [BitVec.toNat_and, h1, h2, Nat.and_one_is_mod, IntKind.wrap_i64]
  omega
theorem bit_int (i b : Nat) (hi : i < 9223372036854775808) : bits .and .i64 ((i : Int) / 2 ^ b) 1 = if i.testBit b then 1 else 0 := by
  have h1 : ((i : Int) / 2 ^ b) = ((i / 2 ^ b : Nat) : Int) := by simp
  have h2 : i / 2 ^ b < 9223372036854775808 := Nat.lt_of_le_of_lt (Nat.div_le_self _ _) hi
  rw [h1, and_one _ h2, ← Nat.toNat_testBit]
  cases i.testBit b <;> simp

set_option maxHeartbeats 4000000 in
theorem from_any (x0 : Bs) (k0 : Nat) (hk : k0 ≤ 20) (i : Nat) (hi : i < 9223372036854775808) (w : World) (hp : Pw w) :
    Calls Tryz.prog 76 #[St x0, .int .i64 (k0 : Int), .int .i64 (i : Int)] w fun en w' => en = made (Sd.fr stp k0 i x0) ∧ Below w.heap.size w w' := by
  have HP := hid hp
  have HI := hid hi
  have HK := hid hk
  have hkw : IntKind.i64.wrap ((k0 : Int) - 1) = (k0 : Int) - 1 := by rw [IntKind.wrap_i64]; omega
  obtain ⟨F, hF⟩ : ∃ F, F = Sd.fr stp k0 i x0 := ⟨_, rfl⟩
  have HF := hid hF
  rw [← hF]
  clear hp hi hk hF
  go_enter Tryz.func76, Tryz.ntmps76
  go_wp2_with fail
  go_loopg [0, 8, 9] k0 (fun gg v0 v8 v9 wr => ∃ (k : Nat) (x : Bs), k ≤ 20 ∧ gg = k ∧ v8 = .int .i64 ((k : Int) - 1) ∧ v0 = St x ∧ Hid (F = Sd.fr stp k i x) ∧ Below w.heap.size w wr)
  case atStart => exact ⟨k0, x0, HK.out, rfl, rfl, rfl, HF, Below.refl _ _⟩
  case round =>
    obtain ⟨k, x, hk20, hgk, rfl, rfl, hfr, hbel⟩ := hrel
    subst hgk
    cases gk with
    | zero =>
      have HFR : Hid (F = (x, 0)) := hfr
      have HB := hid hbel
      clear hbel hfr
      go_wp2_with fail
      go_ret2
      exact ⟨by rw [HFR.out]; rfl, HB.out⟩
    | succ k =>
      have HB := hid hbel
      have HKK : Hid (k < 20) := hid (by omega)
      have HPr : Hid (Pw wr) := hid (HP.out.below hbel)
      have hk0 : (0 : Int) ≤ (k : Int) := Int.natCast_nonneg _
      have hk64 : (k : Int) ≤ 64 := by omega
      have e1 : ((k + 1 : Nat) : Int) - 1 = (k : Int) := by omega
      have hw1 : IntKind.i64.wrap ((k : Int) - 1) = (k : Int) - 1 := by rw [IntKind.wrap_i64]; omega
      have hbit := bit_int i k HI.out
      rw [e1]
      clear e1 hbel hk20 HK
      cases hb : i.testBit k with
      | false =>
        rw [hb] at hbit
        have HFR : Hid (F = Sd.fr stp k i x) := hid (by have := hfr.out; rw [Sd.fr, hb] at this; exact this)
        have hbit0 : bits .and .i64 ((i : Int) / 2 ^ k) 1 = 0 := hbit
        clear hb hbit hfr
        go_wp2_with fail
        go_roundg k
        case measure => omega
        case rel => exact ⟨k, x, by have := HKK.out; omega, rfl, rfl, rfl, HFR, HB.out⟩
      | true =>
        rw [hb] at hbit
        have hbit0 : bits .and .i64 ((i : Int) / 2 ^ k) 1 = 1 := hbit
        have HC := hid (step_any x k (by omega) wr HPr.out)
        have HFR : Hid (F = if (stp x k).2 = 0 then Sd.fr stp k i (stp x k).1 else ([], (stp x k).2)) := hid (by have := hfr.out; rw [Sd.fr, hb] at this; exact this)
        clear hb hbit hfr
        generalize stp x k = yq at HC HFR
        obtain ⟨y, q⟩ := yq
        go_wp2_with fail
        refine HC.out.mono ?_
        rintro e w1 ⟨rfl, hb1⟩
        have HB1 := hid (HB.out.trans (hb1.mono HB.out.size))
        clear hb1
        by_cases hq : q = 0
        · subst hq
          go_wp2_with fail
          go_roundg k
          case measure => omega
          case rel => exact ⟨k, y, by have := HKK.out; omega, rfl, rfl, rfl, HFR, HB1.out⟩
        · have hq' : ((q : Int) == 0) = false := by simp; omega
          have hq2 : (q : Int) ≠ 0 := by omega
          have HFR2 : Hid (F = ([], q)) := hid (by have := HFR.out; simp only [hq, if_false] at this; exact this)
          clear hq
          go_wp2_with fail
          go_ret2
          exact ⟨by rw [HFR2.out]; rfl, HB1.out⟩
end Go.Proofs.YtkifchjpgdmcoaaGreatDoor

/- A seed's secret, as the program makes it; what is written anew. -/
namespace Go.Proofs.YtkifchjpgdmcoaaGreatDoor
open Go.RowKit

set_option maxHeartbeats 400000 in
theorem fterm_any (l : Bs) (w : World) (hl : l.length ≤ 20000) : Calls Tryz.prog 77 #[St l] w fun e w' => e = .returned (St l) ∧ Below w.heap.size w w' := by
  have HC : Hid (Calls Tryz.prog 57 #[St l] w fun e w' => e = .returned (St l) ∧ Below w.heap.size w w') := hid (clone_any ⟨l.toArray⟩ w (by rw [st_size]; exact hl))
  clear hl
  go_enter Tryz.func77, Tryz.ntmps77
  go_wp2_with fail
  refine HC.out.mono ?_
  rintro e w1 ⟨rfl, hb⟩
  have HB := hid hb
  clear hb
  go_wp2_with fail
  go_ret
  exact ⟨rfl, HB.out⟩

/-- what a seed's secret at a place is -/
def secRes (s : Bs) (i : Int) : Bs × Nat := if i < 0 ∨ 1048575 < i then ([], 2) else if Tm.deep s = 0 then ([], 10) else Sd.fr stp 20 i.toNat s

theorem deep_len {l : Bs} (h : Tm.deep l ≠ 0) : l.length ≤ 20000 := Nat.le_trans (Tm.deep_is h).2 (by omega)

set_option maxHeartbeats 1000000 in
theorem secret_any (s : Bs) (i : Int) (w : World) (hp : Pw w) : Calls Tryz.prog 50 #[St s, .int .i64 i] w fun en w' => en = made (secRes s i) ∧ Below w.heap.size w w' := by
  have HP := hid hp
  clear hp
  by_cases h0 : i < 0
  · have HR : Hid (secRes s i = ([], 2)) := hid (by unfold secRes; rw [if_pos (Or.inl h0)])
    go_enter Tryz.func50, Tryz.ntmps50
    go_wp2_with fail
    go_ret2
    exact ⟨by rw [HR.out]; rfl, Below.refl _ _⟩
  · by_cases h1 : 1048575 < i
    · have HR : Hid (secRes s i = ([], 2)) := hid (by unfold secRes; rw [if_pos (Or.inr h1)])
      go_enter Tryz.func50, Tryz.ntmps50
      go_wp2_with fail
      go_ret2
      exact ⟨by rw [HR.out]; rfl, Below.refl _ _⟩
    · obtain ⟨n, rfl⟩ : ∃ n : Nat, i = (n : Int) := ⟨i.toNat, by omega⟩
      by_cases hd : Tm.deep s = 0
      · have HR : Hid (secRes s n = ([], 10)) := hid (by unfold secRes; rw [if_neg (by omega), if_pos hd])
        have HD := hid hd
        clear hd
        go_enter Tryz.func50, Tryz.ntmps50
        go_wp2_with fail
        refine (right_list s w).mono ?_
        rintro e w1 ⟨rfl, hb⟩
        have HB := hid hb
        clear hb
        rw [HD.out]
        go_wp2_with fail
        go_ret2
        exact ⟨by rw [HR.out]; rfl, HB.out⟩
      · have HR : Hid (secRes s n = Sd.fr stp 20 n s) := hid (by unfold secRes; rw [if_neg (by omega), if_neg hd]; simp)
        have HD : Hid ((Tm.deep s != 0) = true) := hid (by simpa using hd)
        have HL := hid (deep_len hd)
        have HN : Hid (n < 9223372036854775808) := hid (by omega)
        clear hd
        go_enter Tryz.func50, Tryz.ntmps50
        go_wp2_with fail
        refine (right_list s w).mono ?_
        rintro e w1 ⟨rfl, hb⟩
        have HB := hid hb
        clear hb
        rw [HD.out]
        go_wp2_with fail
        refine (fterm_any s w1 HL.out).mono ?_
        rintro e w2 ⟨rfl, hb⟩
        have HB2 := hid (HB.out.trans (hb.mono HB.out.size))
        clear hb
        go_wp2_with fail
        refine (from_any s 20 (by omega) n HN.out w2 (HP.out.below HB2.out)).mono ?_
        rintro e w3 ⟨rfl, hb⟩
        have HB3 := hid (HB2.out.trans (hb.mono HB2.out.size))
        clear hb
        generalize Sd.fr stp 20 n s = R at HR
        go_wp2_with fail
        go_ret2
        exact ⟨by rw [HR.out]; rfl, HB3.out⟩
end Go.Proofs.YtkifchjpgdmcoaaGreatDoor
