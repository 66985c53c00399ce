import Derived.Test.YtkifchjpgdmcoaaGreatDoorROpAll
import Derived.Test.YtkifchjpgdmcoaaGreatDoorRMkAll
import Derived.Deep.RegionHeld3
/- What the document's calls on keys, signatures and boxes answer. -/
namespace Go.Proofs.YtkifchjpgdmcoaaGreatDoor
open Go.RowKit
def KeyY (k : Bs) : Prop := ∀ w, Calls Tryz.prog 91 #[St k] w fun en w' => en = .returned (St (Tm.pk k)) ∧ Below w.heap.size w w'
set_option maxHeartbeats 1000000 in
set_option maxRecDepth 100000 in
theorem rkey_else (c : UInt8) (l : Bs) (hd : Tm.deep (c :: l) ≠ 0) (h1 : c ≠ 86) (h2 : c ≠ 75) : KeyY (c :: l) := by
 intro w
 have HR : Hid (Tm.pk (c :: l) = 80 :: (c :: l)) := hid (Tm.pk_else (Tm.deep_is hd).1 (Tm.deep_le _) (by simp [h1]) (by simp [h2]))
 have e1 : ((c.toNat : Int) == 86) = false := byte_ne h1
 have e2 : ((c.toNat : Int) == 75) = false := byte_ne h2
 have HO := hid (ropen_yes c l hd)
 have HL : Hid ((c :: l).length ≤ 16384) := hid (Tm.deep_is hd).2
 unfold OpenY at HO
 clear hd h1 h2
 have hxv : ∃ X : ByteArray, X = setX (c :: l) ⟨#[]⟩ := ⟨_, rfl⟩
 have hnv : ∃ N : Int, N = setN (c :: l) 0 := ⟨_, rfl⟩
 obtain ⟨X, hX⟩ := hxv
 obtain ⟨N, hN⟩ := hnv
 rw [← hX, ← hN] at HO
 clear hX hN
 generalize c :: l = t at *
 have hln : ¬ 9223372036854775807 < 1 + t.length := by have := HL.out; omega
 go_enter Tryz.func91, Tryz.ntmps91
 go_wp2_with fail
 refine (HO.out _).mono ?_
 rintro e w1 ⟨kids, rfl, hown, hb⟩
 obtain ⟨ao, kn, kc, rfl⟩ := own_slice hown
 have HB := hid hb
 clear hb hown
 go_wp2_with fail
 go_ret
 refine ⟨?_, HB.out.alloc HB.out.size _⟩
 rw [HR.out]
 rfl
structure KK (w : World) (xb g : Nat) (kv : Value) (p q : Bs) (W : World) : Prop where
 bel : Below w.heap.size w W
 x3 : W.cell? ⟨xb, 3, none⟩ = some kv
 k0 : W.cell? ⟨g, 0, none⟩ = some (St p)
 k1 : W.cell? ⟨g, 1, none⟩ = some (St q)
 sz : xb < W.heap.size ∧ g < W.heap.size
theorem KK.below {w : World} {xb g : Nat} {kv : Value} {p q : Bs} {W W' : World} (h : KK w xb g kv p q W) (hb : Below W.heap.size W W') : KK w xb g kv p q W' :=
 ⟨h.bel.trans (hb.mono h.bel.size), (hb.cell (p := ⟨xb, 3, none⟩) h.sz.1).trans h.x3, (hb.cell (p := ⟨g, 0, none⟩) h.sz.2).trans h.k0, (hb.cell (p := ⟨g, 1, none⟩) h.sz.2).trans h.k1,
   Nat.lt_of_lt_of_le h.sz.1 hb.size, Nat.lt_of_lt_of_le h.sz.2 hb.size⟩
theorem KK.below' {w : World} {xb g : Nat} {kv : Value} {p q : Bs} {W W' : World} (h : KK w xb g kv p q W) (hb : Below W.drew.heap.size W.drew W') : KK w xb g kv p q W' :=
 h.below ⟨hb.os, hb.tape, hb.output, hb.size, hb.block⟩
theorem KK.new {w w1 : World} {g cap : Nat} {p q : Bs} {op N : Int} {X : ByteArray} (hb : Below w.heap.size w w1) (g0 : w1.cell? ⟨g, 0, none⟩ = some (St p)) (g1 : w1.cell? ⟨g, 1, none⟩ = some (St q)) (gs : g < w1.heap.size) :
   KK w w1.heap.size g (.slice (some ⟨g, 0, none⟩) 2 cap) p q (w1.alloc (.cells #[.int .u8 op, .int .i64 N, .string X, .slice (some ⟨g, 0, none⟩) 2 cap] 82)) :=
 ⟨hb.alloc hb.size _, by rw [cell_of_heap (heap_alloc_new w1 _)]; rfl, ((below_alloc_self' w1 _).cell (p := ⟨g, 0, none⟩) gs).trans g0, ((below_alloc_self' w1 _).cell (p := ⟨g, 1, none⟩) gs).trans g1, by simp, by simp; omega⟩
set_option maxHeartbeats 1000000 in
set_option maxRecDepth 100000 in
theorem rkey_join (p q : Bs) (hd : Tm.deep (86 :: (p ++ q)) ≠ 0) (hk : Tm.kidsOf 63 (86 :: (p ++ q)) = [p, q]) (hr : Tm.pk (86 :: (p ++ q)) = 87 :: (Tm.pk p ++ Tm.pk q))
   (hlp : (Tm.pk p).length ≤ 40000) (hlq : (Tm.pk q).length ≤ 40000) (kp : KeyY p) (kq : KeyY q) : KeyY (86 :: (p ++ q)) := by
 intro w
 have HR := hid hr
 have HO := hid (ropen_yes 86 (p ++ q) hd)
 have HK := hid hk
 have KP := hid kp
 have KQ := hid kq
 unfold OpenY at HO
 unfold KeyY at KP KQ
 clear hd hr hk kp kq
 have hxv : ∃ X : ByteArray, X = setX (86 :: (p ++ q)) ⟨#[]⟩ := ⟨_, rfl⟩
 have hnv : ∃ N : Int, N = setN (86 :: (p ++ q)) 0 := ⟨_, rfl⟩
 obtain ⟨X, hX⟩ := hxv
 obtain ⟨N, hN⟩ := hnv
 rw [← hX, ← hN, HK.out] at HO
 clear hX hN HK
 generalize 86 :: (p ++ q) = t at *
 go_enter Tryz.func91, Tryz.ntmps91
 go_wp2_with fail
 refine (HO.out _).mono ?_
 rintro e w1 ⟨kids, rfl, hown, hb⟩
 obtain ⟨g, cap, rfl, g0, g1, gs⟩ := own_two hown
 have HSS := hid (KK.new (cap := cap) (op := 86) (N := N) (X := X) hb g0 g1 gs)
 clear hb hown g0 g1
 have hln : ¬ 9223372036854775807 < 1 + (Tm.pk p).length := by omega
 have hln2 : ¬ 9223372036854775807 < 1 + (Tm.pk p).length + (Tm.pk q).length := by omega
 go_wp2_with fail
 go_region_held3 (fun wx => wx.cell? ⟨w1.heap.size, 3, none⟩ = some (.slice (some ⟨g, 0, none⟩) 2 cap) ∧ wx.cell? ⟨g, 0, none⟩ = some (St p) ∧ wx.cell? ⟨g, 1, none⟩ = some (St q)) (exact ⟨HSS.out.x3, HSS.out.k0, HSS.out.k1⟩) (first | (go_at_call_of 91 (St p); refine (KP.out _).mono ?_; rintro e wN ⟨rfl, hb⟩; have hSN := (by first | exact HSS.out.below hb | exact HSS.out.below' hb : KK w w1.heap.size g (.slice (some ⟨g, 0, none⟩) 2 cap) p q wN); clear HSS hb; have HSS := hid hSN; clear hSN) | (go_at_call_of 91 (St q); refine (KQ.out _).mono ?_; rintro e wN ⟨rfl, hb⟩; have hSN := (by first | exact HSS.out.below hb | exact HSS.out.below' hb : KK w w1.heap.size g (.slice (some ⟨g, 0, none⟩) 2 cap) p q wN); clear HSS hb; have HSS := hid hSN; clear hSN))
 all_goals
   go_wp2_with fail
   go_ret
   refine ⟨(congrArg (fun x => Ending.returned (Value.string x)) (st_two 87 (Tm.pk p) (Tm.pk q))).trans (by rw [HR.out]), ?_⟩
   first | exact HSS.out.bel | exact (HSS.out.drewN _).bel
end Go.Proofs.YtkifchjpgdmcoaaGreatDoor

/- What the document's calls on keys and signatures answer: the rest. -/
namespace Go.Proofs.YtkifchjpgdmcoaaGreatDoor
open Go.RowKit
set_option maxHeartbeats 1000000 in
set_option maxRecDepth 100000 in
theorem rkey_bind (p q : Bs) (hd : Tm.deep (75 :: (p ++ q)) ≠ 0) (hk : Tm.kidsOf 63 (75 :: (p ++ q)) = [p, q]) (hr : Tm.pk (75 :: (p ++ q)) = 76 :: (Tm.pk p ++ q))
   (hlp : (Tm.pk p).length ≤ 40000) (hlq : q.length ≤ 40000) (kp : KeyY p) : KeyY (75 :: (p ++ q)) := by
 intro w
 have HR := hid hr
 have HO := hid (ropen_yes 75 (p ++ q) hd)
 have HK := hid hk
 have KP := hid kp
 unfold OpenY at HO
 unfold KeyY at KP
 clear hd hr hk kp
 have hxv : ∃ X : ByteArray, X = setX (75 :: (p ++ q)) ⟨#[]⟩ := ⟨_, rfl⟩
 have hnv : ∃ N : Int, N = setN (75 :: (p ++ q)) 0 := ⟨_, rfl⟩
 obtain ⟨X, hX⟩ := hxv
 obtain ⟨N, hN⟩ := hnv
 rw [← hX, ← hN, HK.out] at HO
 clear hX hN HK
 generalize 75 :: (p ++ q) = t at *
 go_enter Tryz.func91, Tryz.ntmps91
 go_wp2_with fail
 refine (HO.out _).mono ?_
 rintro e w1 ⟨kids, rfl, hown, hb⟩
 obtain ⟨g, cap, rfl, g0, g1, gs⟩ := own_two hown
 have HSS := hid (KK.new (cap := cap) (op := 75) (N := N) (X := X) hb g0 g1 gs)
 clear hb hown g0 g1
 have hln : ¬ 9223372036854775807 < 1 + (Tm.pk p).length := by omega
 have hln2 : ¬ 9223372036854775807 < 1 + (Tm.pk p).length + q.length := by omega
 go_wp2_with fail
 go_region_held3 (fun wx => wx.cell? ⟨w1.heap.size, 3, none⟩ = some (.slice (some ⟨g, 0, none⟩) 2 cap) ∧ wx.cell? ⟨g, 0, none⟩ = some (St p) ∧ wx.cell? ⟨g, 1, none⟩ = some (St q)) (exact ⟨HSS.out.x3, HSS.out.k0, HSS.out.k1⟩) (first | (go_at_call_of 91 (St p); refine (KP.out _).mono ?_; rintro e wN ⟨rfl, hb⟩; have hSN := (by first | exact HSS.out.below hb | exact HSS.out.below' hb : KK w w1.heap.size g (.slice (some ⟨g, 0, none⟩) 2 cap) p q wN); clear HSS hb; have HSS := hid hSN; clear hSN))
 all_goals
   go_wp2_with fail
   go_ret
   refine ⟨(congrArg (fun x => Ending.returned (Value.string x)) (st_two 76 (Tm.pk p) q)).trans (by rw [HR.out]), ?_⟩
   first | exact HSS.out.bel | exact (HSS.out.drewN _).bel
theorem rkey_all : ∀ (n : Nat) (k : Bs), k.length ≤ n → Tm.deep k ≠ 0 → KeyY k := by
 intro n
 induction n with
 | zero =>
   intro k hk hd
   have : k = [] := List.eq_nil_of_length_eq_zero (by omega)
   subst this
   exact absurd rfl hd
 | succ n ih =>
   intro k hk hd
   match k with
   | [] => exact absurd rfl hd
   | c :: l =>
     have hl := (Tm.deep_is hd).2
     by_cases h1 : c = 86
     · subst h1
       obtain ⟨p, q, a, b, hkk, rfl, hp, hq, ha, hb, _⟩ := kids_two hd (by decide)
       simp at hk hl
       have lp := (Tm.pk_of hp (by omega)).2.2.1
       have lq := (Tm.pk_of hq (by omega)).2.2.1
       exact rkey_join p q hd hkk (Tm.pk_join hp hq (by omega) (by omega)) (by omega) (by omega)
         (ih p (by omega) (is_right hp (by omega) (by omega))) (ih q (by omega) (is_right hq (by omega) (by omega)))
     · by_cases h2 : c = 75
       · subst h2
         obtain ⟨p, q, a, b, hkk, rfl, hp, hq, ha, hb, _⟩ := kids_two hd (by decide)
         simp at hk hl
         have lp := (Tm.pk_of hp (by omega)).2.2.1
         exact rkey_bind p q hd hkk (Tm.pk_bind hp hq (by omega) (by omega)) (by omega) (by omega)
           (ih p (by omega) (is_right hp (by omega) (by omega)))
       · exact rkey_else c l hd h1 h2
theorem rkey_any (k : Bs) (w : World) (hd : Tm.deep k ≠ 0) : Calls Tryz.prog 91 #[St k] w fun en w' => en = .returned (St (Tm.pk k)) ∧ Below w.heap.size w w' := rkey_all k.length k (Nat.le_refl _) hd w
set_option maxHeartbeats 1000000 in
set_option maxRecDepth 100000 in
theorem rpubs_any (k : Bs) (w : World) : Calls Tryz.prog 66 #[St k] w fun en w' => en = made (pubRes k) ∧ Below w.heap.size w w' := by
 by_cases hk : Tm.deep k = 0
 · have HR : Hid (pubRes k = ([], 10)) := by apply hid; unfold pubRes; rw [if_pos hk]
   have HK := hid hk
   clear hk
   go_enter Tryz.func66, Tryz.ntmps66
   go_wp2_with fail
   refine (rright_any k _).mono ?_
   rintro e w1 ⟨rfl, hb⟩
   have HB := hid hb
   clear hb
   rw [HK.out]
   go_wp2_with fail
   go_ret2
   exact ⟨by rw [HR.out]; rfl, HB.out⟩
 · have HR : Hid (pubRes k = madeRes (Tm.pk k)) := by apply hid; unfold pubRes madeRes; rw [if_neg hk]
   have HK := hid hk
   have HKB : Hid ((Tm.deep k != 0) = true) := by apply hid; simpa using hk
   clear hk
   go_enter Tryz.func66, Tryz.ntmps66
   go_wp2_with fail
   refine (rright_any k _).mono ?_
   rintro e w1 ⟨rfl, hb⟩
   have HB := hid hb
   clear hb
   rw [HKB.out]
   go_wp2_with fail
   refine (rkey_any k _ HK.out).mono ?_
   rintro e w2 ⟨rfl, hb⟩
   have HB2 := hid (HB.out.trans (hb.mono HB.out.size))
   clear hb
   go_wp2_with fail
   refine (rmade_any (Tm.pk k) _).mono ?_
   rintro e w3 ⟨rfl, hb⟩
   have HB3 := hid (HB2.out.trans (hb.mono HB2.out.size))
   clear hb
   go_wp2_with fail
   go_ret2
   exact ⟨by rw [HR.out]; rfl, HB3.out⟩
end Go.Proofs.YtkifchjpgdmcoaaGreatDoor

/- What the document makes of keys, and that both make the same. -/
namespace Go.Proofs.YtkifchjpgdmcoaaGreatDoor
open Go.RowKit
theorem made_is {d : Nat} {l : Bs} (h : Tm.Is d l) : madeRes l = if 64 < d ∨ 16384 < l.length then ([], 3) else (l, 0) := by
 unfold madeRes
 by_cases hc : 64 < d ∨ 16384 < l.length
 · rw [if_pos hc, Tm.is_deep0 h hc, if_pos rfl]
 · rw [if_neg hc, Tm.is_deep h (by omega) (by omega), if_neg (by have := h.1; omega)]
theorem two_made {op : UInt8} {a b : Bs} (ha : Tm.deep a ≠ 0) (hb : Tm.deep b ≠ 0) (h : Tm.Is (max (Tm.deep a) (Tm.deep b) + 1) (op :: (a ++ b))) : madeRes (op :: (a ++ b)) = bRes op [] [a, b] := by
 rw [bRes_two, if_neg (by simp [ha, hb]), made_is h]
 have e : (op :: (a ++ b)).length = 1 + a.length + b.length := by simp; omega
 rw [e]
theorem twoRes_two {op : UInt8} (hop : Tm.isTwo op = true) (a b : Bs) : twoRes op a b = bRes op [] [a, b] := by
 unfold twoRes
 by_cases h : Tm.deep a = 0 ∨ Tm.deep b = 0
 · rw [if_pos h, bRes_two, if_pos h]
 · rw [if_neg h]
   rw [not_or] at h
   exact two_made h.1 h.2 (Tm.is_two (Tm.deep_is h.1).1 (Tm.deep_is h.2).1 hop)
theorem jointRes_no {a b : Bs} (h : Tm.deep a = 0 ∨ Tm.deep b = 0) : jointRes a b = ([], 10) := by
 unfold jointRes
 rw [bRes_two, if_pos h]
 split <;> rfl
theorem jointRes_pk {a b : Bs} (h : (Tm.isPk a.head? && Tm.isPk b.head?) = false) : jointRes a b = ([], 10) := by
 unfold jointRes
 rw [h]; rfl
theorem jointRes_yes {a b : Bs} (ha : Tm.deep a ≠ 0) (hb : Tm.deep b ≠ 0) (h1 : Tm.isPk a.head? = true) (h2 : Tm.isPk b.head? = true) : jointRes a b = twoRes 87 a b := by
 unfold jointRes twoRes
 rw [h1, h2, if_pos (by decide), if_neg (by simp [ha, hb])]
 exact (two_made ha hb (Tm.is_joint (Tm.deep_is ha).1 (Tm.deep_is hb).1 h1 h2)).symm
theorem boundRes_no {a b : Bs} (h : Tm.deep a = 0 ∨ Tm.deep b = 0) : boundRes a b = ([], 10) := by
 unfold boundRes
 rw [bRes_two, if_pos h]
 split <;> rfl
theorem boundRes_pk {a b : Bs} (h : Tm.isPk a.head? = false) : boundRes a b = ([], 10) := by
 unfold boundRes
 rw [h]; rfl
theorem boundRes_yes {a b : Bs} (ha : Tm.deep a ≠ 0) (hb : Tm.deep b ≠ 0) (h1 : Tm.isPk a.head? = true) : boundRes a b = twoRes 76 a b := by
 unfold boundRes twoRes
 rw [h1, if_pos rfl, if_neg (by simp [ha, hb])]
 exact (two_made ha hb (Tm.is_bound (Tm.deep_is ha).1 (Tm.deep_is hb).1 h1)).symm
theorem first_byte {a : Bs} (h : Tm.deep a ≠ 0) : ∃ c, a.head? = some c ∧ 0 < a.length ∧ ∀ h, (⟨a.toArray⟩ : ByteArray)[0]'h = c := by
 match a with
 | [] => exact absurd rfl h
 | c :: l => exact ⟨c, rfl, by simp, fun _ => rfl⟩
set_option maxHeartbeats 1000000 in
set_option maxRecDepth 100000 in
theorem rjoints_no (a b : Bs) (w : World) (h : Tm.deep a = 0 ∨ Tm.deep b = 0) : Calls Tryz.prog 68 #[St a, St b] w fun en w' => en = made (jointRes a b) ∧ Below w.heap.size w w' := by
 have HR := hid (jointRes_no h)
 by_cases ha : Tm.deep a = 0
 · have HA := hid ha
   clear ha h
   go_enter Tryz.func68, Tryz.ntmps68
   go_wp2_with fail
   refine (rright_any a _).mono ?_
   rintro e w1 ⟨rfl, hb⟩
   have HB := hid hb
   clear hb
   rw [HA.out]
   go_wp2_with fail
   go_ret2
   exact ⟨by rw [HR.out]; rfl, HB.out⟩
 · have HA : Hid ((Tm.deep a != 0) = true) := by apply hid; simpa using ha
   have HBB : Hid (Tm.deep b = 0) := by apply hid; rcases h with h | h; exact absurd h ha; exact h
   clear ha h
   go_enter Tryz.func68, Tryz.ntmps68
   go_wp2_with fail
   refine (rright_any a _).mono ?_
   rintro e w1 ⟨rfl, hb⟩
   have HB := hid hb
   clear hb
   rw [HA.out]
   go_wp2_with fail
   refine (rright_any b _).mono ?_
   rintro e w2 ⟨rfl, hb⟩
   have HB2 := hid (HB.out.trans (hb.mono HB.out.size))
   clear hb
   rw [HBB.out]
   go_wp2_with fail
   go_ret2
   exact ⟨by rw [HR.out]; rfl, HB2.out⟩
set_option maxHeartbeats 1000000 in
set_option maxRecDepth 100000 in
theorem rjoints_any (a b : Bs) (w : World) : Calls Tryz.prog 68 #[St a, St b] w fun en w' => en = made (jointRes a b) ∧ Below w.heap.size w w' := by
 by_cases h : Tm.deep a = 0 ∨ Tm.deep b = 0
 · exact rjoints_no a b w h
 · rw [not_or] at h
   have HA : Hid ((Tm.deep a != 0) = true) := by apply hid; simpa using h.1
   have HBB : Hid ((Tm.deep b != 0) = true) := by apply hid; simpa using h.2
   have HH := hid h
   obtain ⟨x, hx, la, ea⟩ := first_byte h.1
   obtain ⟨y, hy, lb, eb⟩ := first_byte h.2
   have HX := hid hx
   have HY := hid hy
   have hsa : (⟨a.toArray⟩ : ByteArray).size = a.length := st_size a
   have hsb : (⟨b.toArray⟩ : ByteArray).size = b.length := st_size b
   clear h hx hy
   cases h1 : Tm.isPk (some x)
   · have HR : Hid (jointRes a b = ([], 10)) := by apply hid; apply jointRes_pk; rw [HX.out, h1]; rfl
     have H1 := hid h1
     clear h1
     go_enter Tryz.func68, Tryz.ntmps68
     go_wp2_with fail
     refine (rright_any a _).mono ?_
     rintro e w1 ⟨rfl, hb⟩
     have HB := hid hb
     clear hb
     rw [HA.out]
     go_wp2_with fail
     refine (rright_any b _).mono ?_
     rintro e w2 ⟨rfl, hb⟩
     have HB2 := hid (HB.out.trans (hb.mono HB.out.size))
     clear hb
     rw [HBB.out]
     go_wp2_with fail
     refine (rpublic_any x _).mono ?_
     rintro e w3 ⟨rfl, rfl⟩
     rw [H1.out]
     go_wp2_with fail
     go_ret2
     exact ⟨by rw [HR.out]; rfl, HB2.out⟩
   · cases h2 : Tm.isPk (some y)
     · have HR : Hid (jointRes a b = ([], 10)) := by apply hid; apply jointRes_pk; rw [HY.out, h2, Bool.and_false]
       have H1 := hid h1
       have H2 := hid h2
       clear h1 h2
       go_enter Tryz.func68, Tryz.ntmps68
       go_wp2_with fail
       refine (rright_any a _).mono ?_
       rintro e w1 ⟨rfl, hb⟩
       have HB := hid hb
       clear hb
       rw [HA.out]
       go_wp2_with fail
       refine (rright_any b _).mono ?_
       rintro e w2 ⟨rfl, hb⟩
       have HB2 := hid (HB.out.trans (hb.mono HB.out.size))
       clear hb
       rw [HBB.out]
       go_wp2_with fail
       refine (rpublic_any x _).mono ?_
       rintro e w3 ⟨rfl, rfl⟩
       rw [H1.out]
       go_wp2_with fail
       refine (rpublic_any y _).mono ?_
       rintro e w3 ⟨rfl, rfl⟩
       rw [H2.out]
       go_wp2_with fail
       go_ret2
       exact ⟨by rw [HR.out]; rfl, HB2.out⟩
     · have HR : Hid (jointRes a b = twoRes 87 a b) := by apply hid; apply jointRes_yes HH.out.1 HH.out.2; rw [HX.out, h1]; rw [HY.out, h2]
       have H1 := hid h1
       have H2 := hid h2
       clear h1 h2
       go_enter Tryz.func68, Tryz.ntmps68
       go_wp2_with fail
       refine (rright_any a _).mono ?_
       rintro e w1 ⟨rfl, hb⟩
       have HB := hid hb
       clear hb
       rw [HA.out]
       go_wp2_with fail
       refine (rright_any b _).mono ?_
       rintro e w2 ⟨rfl, hb⟩
       have HB2 := hid (HB.out.trans (hb.mono HB.out.size))
       clear hb
       rw [HBB.out]
       go_wp2_with fail
       refine (rpublic_any x _).mono ?_
       rintro e w3 ⟨rfl, rfl⟩
       rw [H1.out]
       go_wp2_with fail
       refine (rpublic_any y _).mono ?_
       rintro e w3 ⟨rfl, rfl⟩
       rw [H2.out]
       go_wp2_with fail
       refine (rtwo_any 87 a b _).mono ?_
       rintro e w4 ⟨rfl, hb⟩
       have HB4 := hid (HB2.out.trans (hb.mono HB2.out.size))
       clear hb
       go_wp2_with fail
       go_ret2
       exact ⟨by rw [HR.out]; rfl, HB4.out⟩
set_option maxHeartbeats 1000000 in
set_option maxRecDepth 100000 in
theorem rbounds_any (a b : Bs) (w : World) : Calls Tryz.prog 69 #[St a, St b] w fun en w' => en = made (boundRes a b) ∧ Below w.heap.size w w' := by
 by_cases ha : Tm.deep a = 0
 · have HR := hid (boundRes_no (a := a) (b := b) (Or.inl ha))
   have HA := hid ha
   clear ha
   go_enter Tryz.func69, Tryz.ntmps69
   go_wp2_with fail
   refine (rright_any a _).mono ?_
   rintro e w1 ⟨rfl, hb⟩
   have HB := hid hb
   clear hb
   rw [HA.out]
   go_wp2_with fail
   go_ret2
   exact ⟨by rw [HR.out]; rfl, HB.out⟩
 · have HA : Hid ((Tm.deep a != 0) = true) := by apply hid; simpa using ha
   by_cases hbz : Tm.deep b = 0
   · have HR := hid (boundRes_no (a := a) (b := b) (Or.inr hbz))
     have HBB := hid hbz
     clear ha hbz
     go_enter Tryz.func69, Tryz.ntmps69
     go_wp2_with fail
     refine (rright_any a _).mono ?_
     rintro e w1 ⟨rfl, hb⟩
     have HB := hid hb
     clear hb
     rw [HA.out]
     go_wp2_with fail
     refine (rright_any b _).mono ?_
     rintro e w2 ⟨rfl, hb⟩
     have HB2 := hid (HB.out.trans (hb.mono HB.out.size))
     clear hb
     rw [HBB.out]
     go_wp2_with fail
     go_ret2
     exact ⟨by rw [HR.out]; rfl, HB2.out⟩
   · have HBB : Hid ((Tm.deep b != 0) = true) := by apply hid; simpa using hbz
     have HH := hid (And.intro ha hbz)
     obtain ⟨x, hx, la, ea⟩ := first_byte ha
     have HX := hid hx
     have hsa : (⟨a.toArray⟩ : ByteArray).size = a.length := st_size a
     clear ha hbz hx
     cases h1 : Tm.isPk (some x)
     · have HR : Hid (boundRes a b = ([], 10)) := by apply hid; apply boundRes_pk; rw [HX.out, h1]
       have H1 := hid h1
       clear h1
       go_enter Tryz.func69, Tryz.ntmps69
       go_wp2_with fail
       refine (rright_any a _).mono ?_
       rintro e w1 ⟨rfl, hb⟩
       have HB := hid hb
       clear hb
       rw [HA.out]
       go_wp2_with fail
       refine (rright_any b _).mono ?_
       rintro e w2 ⟨rfl, hb⟩
       have HB2 := hid (HB.out.trans (hb.mono HB.out.size))
       clear hb
       rw [HBB.out]
       go_wp2_with fail
       refine (rpublic_any x _).mono ?_
       rintro e w3 ⟨rfl, rfl⟩
       rw [H1.out]
       go_wp2_with fail
       go_ret2
       exact ⟨by rw [HR.out]; rfl, HB2.out⟩
     · have HR : Hid (boundRes a b = twoRes 76 a b) := by apply hid; apply boundRes_yes HH.out.1 HH.out.2; rw [HX.out, h1]
       have H1 := hid h1
       clear h1
       go_enter Tryz.func69, Tryz.ntmps69
       go_wp2_with fail
       refine (rright_any a _).mono ?_
       rintro e w1 ⟨rfl, hb⟩
       have HB := hid hb
       clear hb
       rw [HA.out]
       go_wp2_with fail
       refine (rright_any b _).mono ?_
       rintro e w2 ⟨rfl, hb⟩
       have HB2 := hid (HB.out.trans (hb.mono HB.out.size))
       clear hb
       rw [HBB.out]
       go_wp2_with fail
       refine (rpublic_any x _).mono ?_
       rintro e w3 ⟨rfl, rfl⟩
       rw [H1.out]
       go_wp2_with fail
       refine (rtwo_any 76 a b _).mono ?_
       rintro e w4 ⟨rfl, hb⟩
       have HB4 := hid (HB2.out.trans (hb.mono HB2.out.size))
       clear hb
       go_wp2_with fail
       go_ret2
       exact ⟨by rw [HR.out]; rfl, HB4.out⟩
end Go.Proofs.YtkifchjpgdmcoaaGreatDoor
