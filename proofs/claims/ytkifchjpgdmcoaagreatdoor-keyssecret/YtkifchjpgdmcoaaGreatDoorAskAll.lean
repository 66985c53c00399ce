import Derived.Test.YtkifchjpgdmcoaaGreatDoorKeys
/- What the calls on keys, signatures and boxes do. -/
namespace Go.Proofs.YtkifchjpgdmcoaaGreatDoor
open Go.RowKit
theorem PS_new (w : World) (s : ByteArray) (hs : s.size ≤ 16384) :
   PS w w.heap.size s 0 (.slice none 0 0) [] (w.alloc (.cells (rcells s 0 0 false 0 0 ⟨#[]⟩ (.slice none 0 0)) 95)) :=
 ⟨(RS_new w s false hs).rebase, World.ownsRow_nil _ _ _ _, (Below.refl _ w).alloc (Nat.le_refl _) _⟩
set_option maxHeartbeats 1000000 in
theorem key_any (k : Bs) (w : World) (hk : Tm.deep k ≠ 0) : Calls Tryz.prog 54 #[St k] w fun en w' => en = .returned (St (Tm.pk k)) ∧ Below w.heap.size w w' := by
 obtain ⟨hi, hl⟩ := Tm.deep_is hk
 have hd := Tm.deep_le k
 have hpk := Tm.pk_of hi hd
 have HI := hid hi
 have HS : Hid ((⟨k.toArray⟩ : ByteArray).size ≤ 16384) := by apply hid; rw [st_size]; exact hl
 have HPK := hid hpk
 clear hi hpk hk
 go_enter Tryz.func54, Tryz.ntmps54
 go_wp2_with fail
 refine (public_all 64 (x := []) hd (PS_new w ⟨k.toArray⟩ HS.out) (by simp [rest]) HI.out hd (by simp; omega)).mono ?_
 rintro e w1 ⟨ov, rfl, hps⟩
 have hown := hps.own
 rw [List.nil_append] at hown
 obtain ⟨g, cp, rfl, hcv⟩ := own_string hown (by obtain ⟨d', h1, _⟩ := HPK.out.2.1; exact h1.2.1)
 have hcv1 := hcv 22 Tryz.underlying22
 have HB := hid hps.bel
 clear hown hps hcv
 go_wp2_with fail
 go_ret
 exact ⟨rfl, HB.out⟩
def pubRes (k : Bs) : Bs × Nat := if Tm.deep k = 0 then ([], 10) else if Tm.deep (Tm.pk k) = 0 then ([], 3) else (Tm.pk k, 0)
set_option maxHeartbeats 1000000 in
theorem pubs_any (k : Bs) (w : World) : Calls Tryz.prog 24 #[St k] w fun en w' => en = made (pubRes k) ∧ Below w.heap.size w w' := by
 by_cases hk : Tm.deep k = 0
 · have HR : Hid (pubRes k = ([], 10)) := by apply hid; unfold pubRes; rw [if_pos hk]
   have HK := hid hk
   clear hk
   go_enter Tryz.func24, Tryz.ntmps24
   go_wp2_with fail
   refine (right_list k _).mono ?_
   rintro e w1 ⟨rfl, hb⟩
   have HB := hid hb
   clear hb
   rw [HK.out]
   go_wp2_with fail
   go_ret2
   exact ⟨by rw [HR.out]; rfl, HB.out⟩
 · have HK := hid hk
   have HKB : Hid ((Tm.deep k != 0) = true) := by apply hid; simpa using hk
   clear hk
   by_cases hp : Tm.deep (Tm.pk k) = 0
   · have HR : Hid (pubRes k = ([], 3)) := by apply hid; unfold pubRes; rw [if_neg HK.out, if_pos hp]
     have HPB : Hid ((Tm.deep (Tm.pk k) != 0) = false) := by apply hid; simpa using hp
     clear hp
     go_enter Tryz.func24, Tryz.ntmps24
     go_wp2_with fail
     refine (right_list k _).mono ?_
     rintro e w1 ⟨rfl, hb⟩
     have HB := hid hb
     clear hb
     rw [HKB.out]
     go_wp2_with fail
     refine (key_any k _ HK.out).mono ?_
     rintro e w2 ⟨rfl, hb⟩
     have HB2 := hid (HB.out.trans (hb.mono HB.out.size))
     clear hb
     go_wp2_with fail
     refine (right_list (Tm.pk k) _).mono ?_
     rintro e w3 ⟨rfl, hb⟩
     have HB3 := hid (HB2.out.trans (hb.mono HB2.out.size))
     clear hb
     rw [HPB.out]
     go_wp2_with fail
     go_ret2
     exact ⟨by rw [HR.out]; rfl, HB3.out⟩
   · have HR : Hid (pubRes k = (Tm.pk k, 0)) := by apply hid; unfold pubRes; rw [if_neg HK.out, if_neg hp]
     have HPB : Hid ((Tm.deep (Tm.pk k) != 0) = true) := by apply hid; simpa using hp
     clear hp
     go_enter Tryz.func24, Tryz.ntmps24
     go_wp2_with fail
     refine (right_list k _).mono ?_
     rintro e w1 ⟨rfl, hb⟩
     have HB := hid hb
     clear hb
     rw [HKB.out]
     go_wp2_with fail
     refine (key_any k _ HK.out).mono ?_
     rintro e w2 ⟨rfl, hb⟩
     have HB2 := hid (HB.out.trans (hb.mono HB.out.size))
     clear hb
     go_wp2_with fail
     refine (right_list (Tm.pk k) _).mono ?_
     rintro e w3 ⟨rfl, hb⟩
     have HB3 := hid (HB2.out.trans (hb.mono HB2.out.size))
     clear hb
     rw [HPB.out]
     go_wp2_with fail
     go_ret2
     exact ⟨by rw [HR.out]; rfl, HB3.out⟩
theorem st_idx {l : Bs} {c : UInt8} {t : Bs} (h : l = c :: t) (h2 : 0 < (⟨l.toArray⟩ : ByteArray).size) : (⟨l.toArray⟩ : ByteArray)[0] = c := by
 subst h; rfl
set_option maxHeartbeats 1000000 in
theorem isKey_any (k : Bs) (w : World) : Calls Tryz.prog 78 #[St k] w fun en w' => en = .returned (.bool (Tm.isPk k.head?)) ∧ w' = w := by
 match k with
 | [] =>
   go_enter Tryz.func78, Tryz.ntmps78
   go_wp2_with fail
   go_ret
   exact ⟨rfl, rfl⟩
 | c :: t =>
   have hs : (⟨(c :: t).toArray⟩ : ByteArray).size = t.length + 1 := st_size _
   have hpos : 0 < (⟨(c :: t).toArray⟩ : ByteArray).size := by omega
   generalize hX : (⟨(c :: t).toArray⟩ : ByteArray) = X at *
   have hx0 : X[0] = c := by subst hX; rfl
   go_enter Tryz.func78, Tryz.ntmps78
   go_wp2_with fail
   refine (opens_any c _).mono ?_
   rintro e w1 ⟨rfl, rfl⟩
   go_wp2_with fail
   go_ret
   exact ⟨rfl, rfl⟩
def jointRes (a b : Bs) : Bs × Nat := if Tm.isPk a.head? && Tm.isPk b.head? then bRes 87 [] [a, b] else ([], 10)
def boundRes (a b : Bs) : Bs × Nat := if Tm.isPk a.head? then bRes 76 [] [a, b] else ([], 10)
set_option maxHeartbeats 1000000 in
theorem joints_any (a b : Bs) (w : World) : Calls Tryz.prog 51 #[St a, St b] w fun en w' => en = made (jointRes a b) ∧ Below w.heap.size w w' := by
 cases ha : Tm.isPk a.head?
 · have HR : Hid (jointRes a b = ([], 10)) := by apply hid; unfold jointRes; rw [ha]; rfl
   have HA := hid ha
   clear ha
   go_enter Tryz.func51, Tryz.ntmps51
   go_wp2_with fail
   refine (isKey_any a _).mono ?_
   rintro e w1 ⟨rfl, rfl⟩
   rw [HA.out]
   go_wp2_with fail
   go_ret2
   exact ⟨by rw [HR.out]; rfl, Below.refl _ _⟩
 · cases hb : Tm.isPk b.head?
   · have HR : Hid (jointRes a b = ([], 10)) := by apply hid; unfold jointRes; rw [ha, hb]; rfl
     have HA := hid ha
     have HB := hid hb
     clear ha hb
     go_enter Tryz.func51, Tryz.ntmps51
     go_wp2_with fail
     refine (isKey_any a _).mono ?_
     rintro e w1 ⟨rfl, rfl⟩
     rw [HA.out]
     go_wp2_with fail
     refine (isKey_any b _).mono ?_
     rintro e w1 ⟨rfl, rfl⟩
     rw [HB.out]
     go_wp2_with fail
     go_ret2
     exact ⟨by rw [HR.out]; rfl, Below.refl _ _⟩
   · have HR : Hid (jointRes a b = bRes 87 [] [a, b]) := by apply hid; unfold jointRes; rw [ha, hb]; rfl
     have HA := hid ha
     have HB := hid hb
     clear ha hb
     go_enter Tryz.func51, Tryz.ntmps51
     go_wp2_with fail
     refine (isKey_any a _).mono ?_
     rintro e w1 ⟨rfl, rfl⟩
     rw [HA.out]
     go_wp2_with fail
     refine (isKey_any b _).mono ?_
     rintro e w1 ⟨rfl, rfl⟩
     rw [HB.out]
     go_wp2_with fail
     refine (build_any 87 [] [a, b] _ _ (texts_two _ a b) (by simp) (by simp)).mono ?_
     rintro e w2 ⟨rfl, hb⟩
     have HB2 := hid (((Below.refl _ _).alloc (Nat.le_refl _) (.cells #[St a, St b] 22)).trans (hb.mono (by simp)))
     clear hb
     go_wp2_with fail
     go_ret2
     exact ⟨by rw [HR.out]; rfl, HB2.out⟩
set_option maxHeartbeats 1000000 in
theorem bounds_any (a b : Bs) (w : World) : Calls Tryz.prog 52 #[St a, St b] w fun en w' => en = made (boundRes a b) ∧ Below w.heap.size w w' := by
 cases ha : Tm.isPk a.head?
 · have HR : Hid (boundRes a b = ([], 10)) := by apply hid; unfold boundRes; rw [ha]; rfl
   have HA := hid ha
   clear ha
   go_enter Tryz.func52, Tryz.ntmps52
   go_wp2_with fail
   refine (isKey_any a _).mono ?_
   rintro e w1 ⟨rfl, rfl⟩
   rw [HA.out]
   go_wp2_with fail
   go_ret2
   exact ⟨by rw [HR.out]; rfl, Below.refl _ _⟩
 · have HR : Hid (boundRes a b = bRes 76 [] [a, b]) := by apply hid; unfold boundRes; rw [ha]; rfl
   have HA := hid ha
   clear ha
   go_enter Tryz.func52, Tryz.ntmps52
   go_wp2_with fail
   refine (isKey_any a _).mono ?_
   rintro e w1 ⟨rfl, rfl⟩
   rw [HA.out]
   go_wp2_with fail
   refine (build_any 76 [] [a, b] _ _ (texts_two _ a b) (by simp) (by simp)).mono ?_
   rintro e w2 ⟨rfl, hb⟩
   have HB2 := hid (((Below.refl _ _).alloc (Nat.le_refl _) (.cells #[St a, St b] 22)).trans (hb.mono (by simp)))
   clear hb
   go_wp2_with fail
   go_ret2
   exact ⟨by rw [HR.out]; rfl, HB2.out⟩
def agreeRes (k p : Bs) : Bs × Nat :=
 if Tm.deep p = 0 ∨ p.head? ≠ some 80 then ([], 10) else if Tm.leB k p.tail then bRes 88 [] [k, p.tail] else bRes 88 [] [p.tail, k]
theorem st_tail (c : UInt8) (t : Bs) : (⟨(c :: t).toArray⟩ : ByteArray).extract 1 (⟨(c :: t).toArray⟩ : ByteArray).size = ⟨t.toArray⟩ := by
 rw [extract_eq]
 apply congrArg ByteArray.mk
 apply congrArg
 show ((c :: t).drop 1).take _ = t
 rw [st_size]
 simp
end Go.Proofs.YtkifchjpgdmcoaaGreatDoor

/- What Verify and Unbox do. -/
namespace Go.Proofs.YtkifchjpgdmcoaaGreatDoor
open Go.RowKit
theorem kids_two {c : UInt8} {l : Bs} (hd : Tm.deep (c :: l) ≠ 0) (hc : Tm.isTwo c = true) :
   ∃ p q a b, Tm.kidsOf 63 (c :: l) = [p, q] ∧ l = p ++ q ∧ Tm.Is a p ∧ Tm.Is b q ∧ a ≤ 63 ∧ b ≤ 63 ∧ Tm.deep (c :: l) = max a b + 1 := by
 obtain ⟨hi, _⟩ := Tm.deep_is hd
 have h64 := Tm.deep_le (c :: l)
 obtain ⟨a, b, p, q, hp, hq, rfl, hm⟩ := Tm.is_inv_two hi hc
 refine ⟨p, q, a, b, ?_, rfl, hp, hq, by omega, by omega, hm⟩
 have c1 : ¬ c = 84 := by intro e; subst e; simp [Tm.isTwo] at hc
 have c2 : ¬ (c = 80 ∨ c = 72) := by rintro (e | e) <;> (subst e; simp [Tm.isTwo] at hc)
 have c3 : ¬ (c = 110 ∨ c = 116) := by rintro (e | e) <;> (subst e; simp [Tm.isTwo] at hc)
 have ht := Tm.two_is hp hq 63 [] (by omega)
 rw [List.append_nil] at ht
 show (if c = 84 then _ else if c = 80 ∨ c = 72 then _ else if c = 110 ∨ c = 116 then _ else _) = _
 rw [if_neg c1, if_neg c2, if_neg c3, kids2_some ht, Tm.used_app]
 simp [Tm.used]
theorem is_right {a : Nat} {p : Bs} (h : Tm.Is a p) (ha : a ≤ 64) (hl : p.length ≤ 16384) : Tm.deep p ≠ 0 := by
 rw [Tm.is_deep h ha hl]; have := h.1; omega
def unboxRes (k c : Bs) : Bs × Bool :=
 if Tm.deep c ≠ 0 ∧ c.head? = some 66 then (match Tm.kidsOf 63 c with | [p, q] => if p = k then (q, true) else ([], false) | _ => ([], false)) else ([], false)
def verifyRes (p m s : Bs) : Bool :=
 if Tm.deep s ≠ 0 ∧ s.head? = some 83 then (match Tm.kidsOf 63 s with | [k, m'] => m' == m && Tm.pk k == p | _ => false) else false
theorem own_two {w : World} {base : Nat} {kids : Value} {p q : Bs} (h : w.ownsRow base 22 1 kids 2 [St p, St q]) :
   ∃ g cap, kids = .slice (some ⟨g, 0, none⟩) 2 cap ∧ w.cell? ⟨g, 0, none⟩ = some (St p) ∧ w.cell? ⟨g, 1, none⟩ = some (St q) ∧ g < w.heap.size := by
 rcases h.2 with ⟨_, h0⟩ | ⟨g, cap, cur, hv, _, hg, hc1, hc2, hc3, hc4⟩
 · omega
 · have hcell : ∀ j, w.cell? ⟨g, j, none⟩ = cur[j]? := fun j => by simp [World.cell?, hg]
   have hgs : g < w.heap.size := by
     apply Classical.byContradiction
     intro hn
     rw [Array.getElem?_eq_none (by omega)] at hg
     cases hg
   refine ⟨g, cap, hv, ?_, ?_, hgs⟩
   · have e : (cur.toList.take (2 * 1))[0]? = some (St p) := by rw [hc4]; rfl
     rw [List.getElem?_take_of_lt (by omega), Array.getElem?_toList] at e
     rw [hcell, e]
   · have e : (cur.toList.take (2 * 1))[1]? = some (St q) := by rw [hc4]; rfl
     rw [List.getElem?_take_of_lt (by omega), Array.getElem?_toList] at e
     rw [hcell, e]
theorem own_slice {w : World} {base : Nat} {e : TypeId} {size : Nat} {kids : Value} {n : Nat} {xs : List Value} (h : w.ownsRow base e size kids n xs) : ∃ ao kn kc, kids = .slice ao kn kc := by
 rcases h.2 with ⟨h, _⟩ | ⟨g, cap, _, h, _⟩
 · exact ⟨_, _, _, h⟩
 · exact ⟨_, _, _, h⟩
theorem parts_list (s : Bs) (w : World) :
   Calls Tryz.prog 84 #[St s] w fun en w' => Below w.heap.size w w' ∧
     (Tm.deep s = 0 → en = .returned (.tuple #[.agg #[.int .u8 0, .int .i64 0, .string ⟨#[]⟩, .slice none 0 0], .bool false])) ∧
     (Tm.deep s ≠ 0 → ∃ (c : UInt8) (l : Bs) (kids : Value), s = c :: l ∧ en = .returned (.tuple #[.agg #[.int .u8 (c.toNat : Int), .int .i64 (setN s 0), .string (setX s ⟨#[]⟩), kids], .bool true]) ∧
       w'.ownsRow w.heap.size 22 1 kids (Tm.kidsOf 63 s).length ((Tm.kidsOf 63 s).map St)) := parts_any ⟨s.toArray⟩ w
theorem parts_cons (c : UInt8) (l : Bs) (w : World) (hd : Tm.deep (c :: l) ≠ 0) :
   Calls Tryz.prog 84 #[St (c :: l)] w fun en w' => Below w.heap.size w w' ∧
     ∃ (kids : Value), en = .returned (.tuple #[.agg #[.int .u8 (c.toNat : Int), .int .i64 (setN (c :: l) 0), .string (setX (c :: l) ⟨#[]⟩), kids], .bool true]) ∧
       w'.ownsRow w.heap.size 22 1 kids (Tm.kidsOf 63 (c :: l)).length ((Tm.kidsOf 63 (c :: l)).map St) := by
 refine (parts_list (c :: l) w).mono ?_
 rintro e w1 ⟨hb, _, h2⟩
 obtain ⟨cc, ll, kids, heq, he, hown⟩ := h2 hd
 have e1 := (List.cons.inj heq).1
 subst e1
 exact ⟨hb, kids, he, hown⟩
abbrev asked2 (r : Bs × Bool) : Ending := .returned (.tuple #[St r.1, .bool r.2])
end Go.Proofs.YtkifchjpgdmcoaaGreatDoor

/- What the answers of the makers and of the calls on keys, signatures and boxes say of one another. No program in it. -/
namespace Go.Proofs.YtkifchjpgdmcoaaGreatDoor
open Go.RowKit
theorem bRes_two (op : UInt8) (a b : Bs) : bRes op [] [a, b] =
   if Tm.deep a = 0 ∨ Tm.deep b = 0 then ([], 10) else if 64 < max (Tm.deep a) (Tm.deep b) + 1 ∨ 16384 < 1 + a.length + b.length then ([], 3) else (op :: (a ++ b), 0) := by
 unfold bRes
 have e1 : ([a, b].any (fun k => Tm.deep k == 0) = true) ↔ (Tm.deep a = 0 ∨ Tm.deep b = 0) := by simp
 have e2 : bDeep [a, b] = max (Tm.deep a) (Tm.deep b) + 1 := by simp [bDeep]
 have e3 : 1 + ([] : Bs).length + bSize [a, b] = 1 + a.length + b.length := by simp [bSize]; omega
 have e4 : ([] : Bs) ++ [a, b].flatten = a ++ b := by simp
 by_cases h : Tm.deep a = 0 ∨ Tm.deep b = 0
 · rw [if_pos (e1.2 h), if_pos h]
 · rw [if_neg (fun x => h (e1.1 x)), if_neg h, e2, e3, e4]
theorem bRes_two_ok {op : UInt8} {a b : Bs} (h : (bRes op [] [a, b]).2 = 0) :
   bRes op [] [a, b] = (op :: (a ++ b), 0) ∧ Tm.deep a ≠ 0 ∧ Tm.deep b ≠ 0 ∧ max (Tm.deep a) (Tm.deep b) + 1 ≤ 64 ∧ 1 + a.length + b.length ≤ 16384 := by
 rw [bRes_two] at h ⊢
 split at h
 · simp at h
 · rename_i h1
   split at h
   · simp at h
   · rename_i h2
     rw [if_neg h1, if_neg h2]
     exact ⟨rfl, fun e => h1 (Or.inl e), fun e => h1 (Or.inr e), by omega, by omega⟩
theorem made_two {op : UInt8} {a b : Bs} (hop : Tm.isTwo op = true) (ha : Tm.deep a ≠ 0) (hb : Tm.deep b ≠ 0) (h1 : max (Tm.deep a) (Tm.deep b) + 1 ≤ 64) (h2 : 1 + a.length + b.length ≤ 16384) :
   Tm.deep (op :: (a ++ b)) = max (Tm.deep a) (Tm.deep b) + 1 ∧ Tm.kidsOf 63 (op :: (a ++ b)) = [a, b] := by
 have ia := (Tm.deep_is ha).1
 have ib := (Tm.deep_is hb).1
 have hi := Tm.is_two ia ib hop
 have hd : Tm.deep (op :: (a ++ b)) = max (Tm.deep a) (Tm.deep b) + 1 := Tm.is_deep hi h1 (by simp; omega)
 refine ⟨hd, ?_⟩
 obtain ⟨p, q, x, y, hk, hpq, hp, hq, _⟩ := kids_two (by rw [hd]; omega) hop
 obtain ⟨rfl, rfl, _⟩ := Tm.is_uniq ia hp hpq
 exact hk
end Go.Proofs.YtkifchjpgdmcoaaGreatDoor
