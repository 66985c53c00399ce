import Derived.Test.YtkifchjpgdmcoaaGreatDoorKyH
import Derived.Test.YtkifchjpgdmcoaaGreatDoorFollowFAll
/- Keys: the short calls; what the laws say of the makers. -/
namespace Go.Proofs.YtkifchjpgdmcoaaGreatDoor
open Go.RowKit

abbrev n1 : Bs := [110, 49, 59]
abbrev n2 : Bs := [110, 50, 59]
theorem k_node : kidRes n1 wNode 0 = ([68, 110, 49, 59, 84, 50, 58, 116, 52, 58, 110, 111, 100, 101, 116, 49, 58, 48], 0) := by decide +kernel
theorem k_chan0 : (chanRes n1 2).2 = 0 := by decide +kernel
theorem k_chanp : (chanRes n1 2).1.p = [68, 68, 110, 49, 59, 84, 50, 58, 116, 55, 58, 99, 104, 97, 110, 110, 101, 108, 116, 49, 58, 50, 84, 50, 58, 116, 51, 58, 112, 97, 121, 116, 49, 58, 48] := by decide +kernel
theorem k_rev : bRes 86 [] [n1, n2] = ([86, 110, 49, 59, 110, 50, 59], 0) := by decide +kernel
theorem k_pub : pubRes [86, 110, 49, 59, 110, 50, 59] = ([87, 80, 110, 49, 59, 80, 110, 50, 59], 0) := by decide +kernel
theorem k_coin : numRes n1 wCoin (-1) = ([], 2) := by decide +kernel

set_option maxHeartbeats 1000000 in
theorem works_any (w : World) (hp : Pw w) (hl : Lb w) : Calls Tryz.prog 14 #[] w fun e w' => e = .returned (.bool true) ∧ Below w.heap.size w w' := by
  have hn := node_any n1 w hp
  rw [k_node] at hn
  have HN := hid hn
  have HCH := hid (fun (W : World) (hb : Below w.heap.size w W) => channel_any n1 2 (by decide) W (hp.below hb) (hl.below hb))
  obtain ⟨⟨⟨c0, c1, c2, c3, c4, c5⟩, ce⟩, hR⟩ : ∃ R, chanRes n1 2 = R := ⟨_, rfl⟩
  have h1 := k_chan0
  have h2 := k_chanp
  rw [hR] at h1 h2 HCH
  obtain rfl : ce = 0 := h1
  obtain rfl : c2 = [68, 68, 110, 49, 59, 84, 50, 58, 116, 55, 58, 99, 104, 97, 110, 110, 101, 108, 116, 49, 58, 50, 84, 50, 58, 116, 51, 58, 112, 97, 121, 116, 49, 58, 48] := h2
  unfold S6.v at HCH
  have HRV := hid (fun (W : World) => revoke_any n1 n2 W)
  rw [k_rev] at HRV
  have HPB := hid (fun (W : World) => pubs_any [86, 110, 49, 59, 110, 50, 59] W)
  rw [k_pub] at HPB
  have HCO := hid (fun (W : World) (hb : Below w.heap.size w W) => coin_any n1 (-1) (by decide) W (hp.below hb))
  rw [k_coin] at HCO
  clear hR hp hl hn
  go_enter Tryz.func14, Tryz.ntmps14
  go_wp2_with fail
  refine HN.out.mono ?_
  rintro _ w1 ⟨rfl, hb1⟩
  have HB1 := hid hb1
  clear hb1 HN
  go_wp2_with fail
  refine (HCH.out w1 HB1.out).mono ?_
  rintro _ w2 ⟨rfl, hb2⟩
  have HB2 := hid (HB1.out.trans (hb2.mono HB1.out.size))
  clear hb2 HCH
  go_wp2_with fail
  obtain ⟨w3, hw3⟩ : ∃ w3, w3 = w2.alloc (.cells #[St c0, St c1, St [68, 68, 110, 49, 59, 84, 50, 58, 116, 55, 58, 99, 104, 97, 110, 110, 101, 108, 116, 49, 58, 50, 84, 50, 58, 116, 51, 58, 112, 97, 121, 116, 49, 58, 48], St c3, St c4, St c5] 24) := ⟨_, rfl⟩
  have HP3 := hid (show w3.heap[w2.heap.size]? = some (.cells #[St c0, St c1, St [68, 68, 110, 49, 59, 84, 50, 58, 116, 55, 58, 99, 104, 97, 110, 110, 101, 108, 116, 49, 58, 50, 84, 50, 58, 116, 51, 58, 112, 97, 121, 116, 49, 58, 48], St c3, St c4, St c5] 24 (0, 0)) by rw [hw3]; exact heap_alloc_new w2 _)
  have HB3 := hid (show Below w.heap.size w w3 by rw [hw3]; exact HB2.out.alloc HB2.out.size _)
  have hrv := HRV.out w3
  rw [hw3] at hrv
  refine hrv.mono ?_
  rintro _ w4 ⟨rfl, hb4⟩
  rw [← hw3] at hb4
  clear hrv hw3 HRV HB2 HB1
  have HB4 := hid (HB3.out.trans (hb4.mono HB3.out.size))
  have HP4 := hid ((hb4.block _ (heap_lt HP3.out)).trans HP3.out)
  clear hb4 HP3 HB3
  go_wp2_with fail
  refine (HPB.out w4).mono ?_
  rintro _ w5 ⟨rfl, hb5⟩
  have HB5 := hid (HB4.out.trans (hb5.mono HB4.out.size))
  have HP5 := hid ((hb5.block _ (heap_lt HP4.out)).trans HP4.out)
  clear hb5 HP4 HB4 HPB
  go_wp2_with fail
  refine (HCO.out w5 HB5.out).mono ?_
  rintro _ w6 ⟨rfl, hb6⟩
  have HB6 := hid (HB5.out.trans (hb6.mono HB5.out.size))
  have hp6 := (hb6.block _ (heap_lt HP5.out)).trans HP5.out
  have cp : w6.cell? ⟨w2.heap.size, 2, none⟩ = some (St [68, 68, 110, 49, 59, 84, 50, 58, 116, 55, 58, 99, 104, 97, 110, 110, 101, 108, 116, 49, 58, 50, 84, 50, 58, 116, 51, 58, 112, 97, 121, 116, 49, 58, 48]) := by rw [cell_of_heap hp6]; rfl
  clear hb6 hp6 HP5 HB5 HCO
  go_wp2_with fail
  go_ret
  exact ⟨rfl, HB6.out⟩
end Go.Proofs.YtkifchjpgdmcoaaGreatDoor

/- What can be made, and how it depends on the notes. -/
namespace Go.Proofs.YtkifchjpgdmcoaaGreatDoor

theorem mk_fuel (N : NM) : ∀ (n m : Nat) (t : Bs), Tm.deep t ≤ n → Tm.deep t ≤ m → makesF N n t = makesF N m t
  | 0, 0, _, _, _ => rfl
  | 0, m + 1, t, h, _ => by
    have h0 : Tm.deep t = 0 := by omega
    simp [makesF, h0]
  | n + 1, 0, t, _, h => by
    have h0 : Tm.deep t = 0 := by omega
    simp [makesF, h0]
  | n + 1, m + 1, t, h1, h2 => by
    by_cases h0 : Tm.deep t = 0
    · simp [makesF, h0]
    · have hk : ∀ k ∈ Tm.kidsOf 63 t, makesF N n k = makesF N m k := fun k hk => by
        have := (Tm.kids_right h0 hk).2.1
        exact mk_fuel N n m k (by omega) (by omega)
      have hall : (Tm.kidsOf 63 t).all (makesF N n) = (Tm.kidsOf 63 t).all (makesF N m) := by
        rw [Bool.eq_iff_iff, List.all_eq_true, List.all_eq_true]
        exact ⟨fun h k hk' => by rw [← hk k hk']; exact h k hk', fun h k hk' => by rw [hk k hk']; exact h k hk'⟩
      rw [makesF, makesF, hall]
      generalize hks : Tm.kidsOf 63 t = ks at hk
      match ks, hk with
      | [], _ => rfl
      | [_], _ => rfl
      | [a, b], hk =>
        simp only [hk a (by simp), hk b (by simp)]
      | _ :: _ :: _ :: _, _ => rfl

theorem kid_mk (N : NM) {t k : Bs} (h : Tm.deep t ≠ 0) (hk : k ∈ Tm.kidsOf 63 t) : makesF N 63 k = mkF N k := by
  have h1 := (Tm.kids_right h hk).2.1
  have h2 := Tm.deep_le t
  exact mk_fuel N 63 64 k (by omega) (by omega)
/-- a term that has parts, and is no agreed secret -/
theorem mkF_else (N : NM) {t : Bs} (h : Tm.deep t ≠ 0) (h1 : t.head? ≠ some 110) (h2 : t.head? ≠ some 88) : mkF N t = ((N t).isSome || (Tm.kidsOf 63 t).all (mkF N)) := by
  have hall : (Tm.kidsOf 63 t).all (makesF N 63) = (Tm.kidsOf 63 t).all (mkF N) := by
    rw [Bool.eq_iff_iff, List.all_eq_true, List.all_eq_true]
    exact ⟨fun h' k hk => by rw [← kid_mk N h hk]; exact h' k hk, fun h' k hk => by rw [kid_mk N h hk]; exact h' k hk⟩
  show makesF N (63 + 1) t = _
  have hd : (Tm.deep t != 0) = true := by simpa using h
  rw [makesF, if_neg h1, if_neg h2, hall, hd, Bool.true_and]
theorem mkF_name (N : NM) {t : Bs} (h1 : t.head? = some 110) : mkF N t = (N t).isSome := by
  show makesF N (63 + 1) t = _
  rw [makesF, if_pos h1]
  simp
theorem mkF_agree (N : NM) {t a b : Bs} (h : Tm.deep t ≠ 0) (h2 : t.head? = some 88) (hk : Tm.kidsOf 63 t = [a, b]) :
    mkF N t = ((N t).isSome || ((mkF N a && hasKeyF N b (mkF N b)) || (mkF N b && hasKeyF N a (mkF N a)))) := by
  show makesF N (63 + 1) t = _
  have hd : (Tm.deep t != 0) = true := by simpa using h
  rw [makesF, if_neg (by rw [h2]; decide), if_pos h2, hk, hd, Bool.true_and]
  show (_ || ((makesF N 63 a && hasKeyF N b (makesF N 63 b)) || (makesF N 63 b && hasKeyF N a (makesF N 63 a)))) = _
  rw [kid_mk N h (by rw [hk]; simp : a ∈ _), kid_mk N h (by rw [hk]; simp : b ∈ _)]
theorem mkF_wrong (N : NM) {t : Bs} (h : Tm.deep t = 0) : mkF N t = (N t).isSome := by
  show makesF N (63 + 1) t = _
  rw [makesF, h]
  simp
theorem mkF_noted (N : NM) {t : Bs} (h : (N t).isSome = true) : mkF N t = true := by
  show makesF N (63 + 1) t = _
  rw [makesF, h]; rfl
/-- the parts of an agreed secret -/
theorem agree_kids {t : Bs} (h : Tm.deep t ≠ 0) (h2 : t.head? = some 88) : ∃ a b, Tm.kidsOf 63 t = [a, b] := by
  match t, h, h2 with
  | c :: l, h, h2 =>
    simp at h2
    subst h2
    exact Tm.kids_pair h (by decide) (by decide) (by decide) (by decide) (by decide)

/-- no fewer notes -/
def Le (N M : NM) : Prop := ∀ t, (N t).isSome = true → (M t).isSome = true
theorem hasKey_mono {N M : NM} (h : Le N M) {x : Bs} {a b : Bool} (hab : a = true → b = true) (hx : hasKeyF N x a = true) : hasKeyF M x b = true := by
  unfold hasKeyF at *
  simp only [Bool.and_eq_true, Bool.or_eq_true] at *
  exact ⟨hx.1, hx.2.imp hab (h _)⟩
theorem mkF_mono {N M : NM} (h : Le N M) : ∀ (n : Nat) (t : Bs), t.length ≤ n → mkF N t = true → mkF M t = true := by
  intro n
  induction n with
  | zero =>
    intro t ht hm
    have e : t = [] := List.length_eq_zero_iff.1 (by omega)
    subst e
    rw [mkF_wrong N (by rfl)] at hm
    exact mkF_noted M (h _ hm)
  | succ n ih =>
    intro t ht hm
    by_cases hN : (N t).isSome = true
    · exact mkF_noted M (h _ hN)
    · by_cases h0 : Tm.deep t = 0
      · rw [mkF_wrong N h0] at hm; exact absurd hm hN
      · have hlk : ∀ k ∈ Tm.kidsOf 63 t, mkF N k = true → mkF M k = true := fun k hk => ih k (by have := (Tm.kids_right h0 hk).2.2.1; omega)
        by_cases h1 : t.head? = some 110
        · rw [mkF_name N h1] at hm; exact absurd hm hN
        · by_cases h2 : t.head? = some 88
          · obtain ⟨a, b, hk⟩ := agree_kids h0 h2
            rw [mkF_agree N h0 h2 hk] at hm
            rw [mkF_agree M h0 h2 hk]
            rw [hk] at hlk
            simp only [Bool.or_eq_true, Bool.and_eq_true] at hm ⊢
            rcases hm with hm | hm | hm
            · exact absurd hm hN
            · exact Or.inr (Or.inl ⟨hlk a (by simp) hm.1, hasKey_mono h (hlk b (by simp)) hm.2⟩)
            · exact Or.inr (Or.inr ⟨hlk b (by simp) hm.1, hasKey_mono h (hlk a (by simp)) hm.2⟩)
          · rw [mkF_else N h0 h1 h2] at hm
            rw [mkF_else M h0 h1 h2]
            simp only [Bool.or_eq_true, List.all_eq_true] at hm ⊢
            rcases hm with hm | hm
            · exact absurd hm hN
            · exact Or.inr (fun k hk => hlk k hk (hm k hk))
theorem mk_mono {N M : NM} (h : Le N M) {t : Bs} (hm : mkF N t = true) : mkF M t = true := mkF_mono h _ t (Nat.le_refl _) hm

/-- a public key that begins with its letter is that of its secret -/
theorem pub_plain {x : Bs} (h0 : (pubRes x).2 = 0) (h : (pubRes x).1.head? = some 80) : (pubRes x).1 = 80 :: x := by
  unfold pubRes at *
  by_cases h1 : Tm.deep x = 0
  · rw [if_pos h1] at h0; cases h0
  · rw [if_neg h1] at h0 h ⊢
    by_cases h2 : Tm.deep (Tm.pk x) = 0
    · rw [if_pos h2] at h0; cases h0
    · rw [if_neg h2] at h ⊢
      obtain ⟨hi, _⟩ := Tm.deep_is h1
      have hl := Tm.deep_le x
      refine Tm.pk_else hi hl (fun e => ?_) (fun e => ?_)
      · match x, e with
        | c :: l, e =>
          simp at e
          subst e
          simp [Tm.pk, Tm.pkA] at h
      · match x, e with
        | c :: l, e =>
          simp at e
          subst e
          simp only [Tm.pk, Tm.pkA, reduceIte, show ((75 : UInt8) = 86) = False from by decide] at h
          split at h <;> simp at h

/-- the notes but some -/
def minus (N : NM) (l : List Bs) : NM := fun t => if t ∈ l then none else N t
theorem minus_le (N : NM) (l : List Bs) : Le (minus N l) N := fun t h => by
  unfold minus at h
  split at h
  · cases h
  · exact h
theorem minus_new {N : NM} {l : List Bs} {t : Bs} (h : (N t).isSome = true) (hm : (minus N l t).isSome = false) : t ∈ l := by
  unfold minus at hm
  split at hm
  · assumption
  · rw [h] at hm; cases hm
/-- what stands in a text -/
def Sub (x t : Bs) : Prop := ∃ a b, t = a ++ (x ++ b)
theorem Sub.trans {x y t : Bs} (h : Sub x y) (h2 : Sub y t) : Sub x t := by
  obtain ⟨a, b, rfl⟩ := h
  obtain ⟨c, d, rfl⟩ := h2
  exact ⟨c ++ a, b ++ d, by simp⟩
theorem Sub.kid {t k : Bs} (h : Tm.deep t ≠ 0) (hk : k ∈ Tm.kidsOf 63 t) : Sub k t := by
  obtain ⟨_, _, _, a, b, e, _⟩ := Tm.kids_right h hk
  exact ⟨a, b, e⟩
theorem bare_sub (x : Bs) : Sub (bare x) x := by
  unfold bare
  split
  · match x with
    | [] => exact ⟨[], [], rfl⟩
    | c :: l => exact ⟨[c], [], by simp⟩
  · exact ⟨[], [], by simp⟩
/-- what can newly be made has something new in it -/
theorem mk_new {N : NM} {l : List Bs} : ∀ (n : Nat) (t : Bs), t.length ≤ n → mkF N t = true → mkF (minus N l) t = false → ∃ x ∈ l, Sub (bare x) t := by
  intro n
  induction n with
  | zero =>
    intro t ht hm hf
    have e : t = [] := List.length_eq_zero_iff.1 (by omega)
    subst e
    rw [mkF_wrong N (by rfl)] at hm
    rw [mkF_wrong _ (by rfl)] at hf
    exact ⟨[], minus_new hm hf, bare_sub _⟩
  | succ n ih =>
    intro t ht hm hf
    by_cases hN : (N t).isSome = true
    · cases hq : (minus N l t).isSome with
      | true => rw [mkF_noted _ hq] at hf; cases hf
      | false => exact ⟨t, minus_new hN hq, bare_sub t⟩
    · have hq : (minus N l t).isSome = false := by
        cases hq : (minus N l t).isSome with
        | true => exact absurd (minus_le N l t hq) hN
        | false => rfl
      by_cases h0 : Tm.deep t = 0
      · rw [mkF_wrong N h0] at hm; exact absurd hm hN
      · have hlk : ∀ k ∈ Tm.kidsOf 63 t, mkF N k = true → mkF (minus N l) k = false → ∃ x ∈ l, Sub (bare x) t := fun k hk a b => by
          obtain ⟨x, hx, hs⟩ := ih k (by have := (Tm.kids_right h0 hk).2.2.1; omega) a b
          exact ⟨x, hx, hs.trans (Sub.kid h0 hk)⟩
        by_cases h1 : t.head? = some 110
        · rw [mkF_name N h1] at hm; exact absurd hm hN
        · by_cases h2 : t.head? = some 88
          · obtain ⟨a, b, hk⟩ := agree_kids h0 h2
            rw [mkF_agree N h0 h2 hk] at hm
            rw [mkF_agree _ h0 h2 hk, hq] at hf
            rw [hk] at hlk
            have hsa : Sub a t := Sub.kid h0 (by rw [hk]; simp)
            have hsb : Sub b t := Sub.kid h0 (by rw [hk]; simp)
            simp only [Bool.or_eq_true, Bool.and_eq_true] at hm
            simp only [Bool.or_eq_false_iff, Bool.false_or] at hf
            have one : ∀ x y : Bs, Sub x t → Sub y t → (mkF N x = true → mkF (minus N l) x = false → ∃ z ∈ l, Sub (bare z) t) → (mkF N y = true → mkF (minus N l) y = false → ∃ z ∈ l, Sub (bare z) t) →
                mkF N x = true → hasKeyF N y (mkF N y) = true → (mkF (minus N l) x && hasKeyF (minus N l) y (mkF (minus N l) y)) = false → ∃ z ∈ l, Sub (bare z) t := by
              intro x y hsx hsy hx hy h3 h4 h5
              cases hqx : mkF (minus N l) x with
              | false => exact hx h3 hqx
              | true =>
                rw [hqx, Bool.true_and] at h5
                cases hqy : mkF (minus N l) y with
                | true =>
                  rw [hqy] at h5
                  unfold hasKeyF at h4 h5
                  simp only [Bool.and_eq_true, Bool.true_or, Bool.and_true] at h4 h5
                  rw [h4.1.1, h4.1.2] at h5
                  cases h5
                | false =>
                  cases hy' : mkF N y with
                  | true => exact hy hy' hqy
                  | false =>
                    rw [hqy] at h5
                    rw [hy'] at h4
                    unfold hasKeyF at h4 h5
                    simp only [Bool.and_eq_true, Bool.false_or] at h4 h5
                    rw [h4.1.1, h4.1.2, Bool.true_and, Bool.true_and] at h5
                    have hin := minus_new h4.2 h5
                    have e := pub_plain (by simpa using h4.1.1) (by simpa using h4.1.2)
                    rw [e] at hin
                    exact ⟨_, hin, by simpa [bare] using hsy⟩
            rcases hm with hm | hm | hm
            · exact absurd hm hN
            · exact one a b hsa hsb (hlk a (by simp)) (hlk b (by simp)) hm.1 hm.2 hf.1
            · exact one b a hsb hsa (hlk b (by simp)) (hlk a (by simp)) hm.1 hm.2 hf.2
          · rw [mkF_else N h0 h1 h2] at hm
            rw [mkF_else _ h0 h1 h2, hq, Bool.false_or] at hf
            simp only [Bool.or_eq_true, List.all_eq_true] at hm
            rcases hm with hm | hm
            · exact absurd hm hN
            · obtain ⟨k, hk, hkf⟩ := List.all_eq_false.1 hf
              exact hlk k hk (hm k hk) (by simpa using hkf)
theorem contains_sub {x t : Bs} (h : Sub x t) : Lib.contains t x = true := by
  obtain ⟨a, b, rfl⟩ := h
  unfold Lib.contains
  rcases Lib.index_spec (a ++ (x ++ b)) x with ⟨h1, h2⟩ | ⟨i, h1, _⟩
  · have h3 := h2 a.length (by simp)
    have h4 : x.isPrefixOf (x ++ b) = true := List.isPrefixOf_iff_prefix.2 (List.prefix_append _ _)
    unfold Lib.occAt at h3
    rw [List.drop_left, h4] at h3
    cases h3
  · rw [h1]; simp
/-- what no news concern can be made of the rest, or not at all -/
theorem concern_new {N : NM} {news : List Bs} {box k : Bs} (hs : Sub k box) (hc : concernF news box = false) (hm : mkF (minus N news) k = false) : mkF N k = false := by
  cases h : mkF N k with
  | false => rfl
  | true =>
    obtain ⟨x, hx, hsub⟩ := mk_new _ k (Nat.le_refl _) h hm
    unfold concernF at hc
    rw [Bool.or_eq_false_iff] at hc
    have := List.any_eq_false.1 hc.2 x hx
    rw [contains_sub (hsub.trans hs)] at this
    exact absurd rfl this
end Go.Proofs.YtkifchjpgdmcoaaGreatDoor

/- What taking a term does to the notes. -/
namespace Go.Proofs.YtkifchjpgdmcoaaGreatDoor

abbrev Hld (N : NM) (s : Bs) : Prop := (nget N s).held = true
abbrev VK (t : Bs) : Prop := t.head? = some 86 ∨ t.head? = some 75
/-- all that one that is held gives by itself is there -/
structure Cl (N : NM) (s : Bs) : Prop where
  tup : s.head? = some 84 → ∀ k ∈ Tm.kidsOf 63 s, Hld N k
  pub : VK s → (pubRes s).2 = 0 → (N (pubRes s).1).isSome = true
  box : s.head? = some 66 → ∀ k m, Tm.kidsOf 63 s = [k, m] → (nget N s).key = k ∨ ((nget N s).key = [] ∧ Hld N m)
/-- notes grow, with the row of what is new -/
structure Gr (e : Bs → Prop) (N : NM) (l : List Bs) (M : NM) (r : List Bs) : Prop where
  le : Le N M
  held : ∀ s, Hld N s → Hld M s
  key : ∀ s, Hld N s → (nget M s).key = (nget N s).key
  heard : ∀ s, (nget M s).heard = (nget N s).heard
  clos : ∀ s, Hld M s → Hld N s ∨ e s ∨ Cl M s
  news : ∀ s, (M s).isSome = true → (N s).isSome = true ∨ s ∈ r
  newsH : ∀ s, Hld M s → Hld N s ∨ s ∈ r
  ext : ∀ s ∈ l, s ∈ r
  odd : ∀ s, (M s).isSome = true → ¬ Hld M s → ((N s).isSome = true ∧ ¬ Hld N s) ∨ ∃ x, Hld M x ∧ VK x ∧ pubRes x = (s, 0)
  kz : (∀ s, (nget N s).key ≠ [] → Hld N s) → ∀ s, (nget M s).key ≠ [] → Hld M s
theorem Cl.mono {N M : NM} {s : Bs} (h : Cl N s) (hl : Le N M) (hh : ∀ s, Hld N s → Hld M s) (hk : (nget M s).key = (nget N s).key) : Cl M s :=
  ⟨fun a k b => hh k (h.tup a k b), fun a b => hl _ (h.pub a b), fun a k m b => by
    rw [hk]
    exact (h.box a k m b).imp id (fun c => ⟨c.1, hh m c.2⟩)⟩
theorem Gr.refl (N : NM) (l : List Bs) : Gr (fun _ => False) N l N l :=
  ⟨fun _ h => h, fun _ h => h, fun _ _ => rfl, fun _ => rfl, fun _ h => Or.inl h, fun _ h => Or.inl h, fun _ h => Or.inl h, fun _ h => h, fun _ h h2 => Or.inl ⟨h, h2⟩, fun h => h⟩
theorem Gr.trans {e : Bs → Prop} {N M P : NM} {l r q : List Bs} (h : Gr e N l M r) (g : Gr (fun _ => False) M r P q) : Gr e N l P q where
  le := fun s a => g.le s (h.le s a)
  held := fun s a => g.held s (h.held s a)
  key := fun s a => (g.key s (h.held s a)).trans (h.key s a)
  heard := fun s => (g.heard s).trans (h.heard s)
  clos := fun s a => by
    rcases g.clos s a with b | b | b
    · rcases h.clos s b with c | c | c
      · exact Or.inl c
      · exact Or.inr (Or.inl c)
      · exact Or.inr (Or.inr (c.mono g.le g.held (g.key s b)))
    · exact absurd b (fun x => x)
    · exact Or.inr (Or.inr b)
  news := fun s a => by
    rcases g.news s a with b | b
    · exact (h.news s b).imp id (g.ext s)
    · exact Or.inr b
  newsH := fun s a => by
    rcases g.newsH s a with b | b
    · exact (h.newsH s b).imp id (g.ext s)
    · exact Or.inr b
  ext := fun s a => g.ext s (h.ext s a)
  odd := fun s a b => by
    rcases g.odd s a b with ⟨c, d⟩ | c
    · rcases h.odd s c d with x | ⟨x, hx, hv, hp⟩
      · exact Or.inl x
      · exact Or.inr ⟨x, g.held x hx, hv, hp⟩
    · exact Or.inr c
  kz := fun a => g.kz (h.kz a)
theorem Gr.done {e : Bs → Prop} {N M : NM} {l r : List Bs} (h : Gr e N l M r) (he : ∀ s, e s → Cl M s) : Gr (fun _ => False) N l M r :=
  ⟨h.le, h.held, h.key, h.heard, fun s a => by
    rcases h.clos s a with b | b | b
    · exact Or.inl b
    · exact Or.inr (Or.inr (he s b))
    · exact Or.inr (Or.inr b), h.news, h.newsH, h.ext, h.odd, h.kz⟩
theorem isSome_put (N : NM) (t : Bs) (n : Note) (s : Bs) : (nput N t n s).isSome = true ↔ s = t ∨ (N s).isSome = true := by
  unfold nput
  by_cases h : s = t <;> simp [h]
theorem noted_of_held {N : NM} {s : Bs} (h : Hld N s) : (N s).isSome = true := by
  unfold Hld nget at h
  cases hn : N s with
  | none => rw [hn] at h; cases h
  | some _ => rfl
/-- one is held that was not -/
theorem gr_put {N : NM} {l : List Bs} {t k : Bs} (h : ¬ Hld N t) : Gr (fun s => s = t) N l (nput N t ⟨(nget N t).heard, true, k⟩) (l ++ [t]) where
  le := fun s a => (isSome_put _ _ _ _).2 (Or.inr a)
  held := fun s a => by unfold Hld; rw [nget_put]; split; rfl; exact a
  key := fun s a => by
    have e : s ≠ t := fun e => h (by rw [← e]; exact a)
    rw [nget_put, if_neg e]
  heard := fun s => by
    rw [nget_put]
    split
    · rename_i e; rw [e]
    · rfl
  clos := fun s a => by
    unfold Hld at a
    rw [nget_put] at a
    by_cases e : s = t
    · exact Or.inr (Or.inl e)
    · rw [if_neg e] at a; exact Or.inl a
  news := fun s a => by
    rcases (isSome_put _ _ _ _).1 a with e | e
    · exact Or.inr (by simp [e])
    · exact Or.inl e
  newsH := fun s a => by
    unfold Hld at a
    rw [nget_put] at a
    by_cases e : s = t
    · exact Or.inr (by simp [e])
    · rw [if_neg e] at a; exact Or.inl a
  ext := fun s a => by simp [a]
  odd := fun s a b => by
    unfold Hld at b
    rw [nget_put] at b
    by_cases e : s = t
    · rw [if_pos e] at b; exact absurd rfl b
    · rw [if_neg e] at b
      rcases (isSome_put _ _ _ _).1 a with c | c
      · exact absurd c e
      · exact Or.inl ⟨c, b⟩
  kz := fun a s b => by
    unfold Hld
    rw [nget_put] at b ⊢
    by_cases e : s = t
    · rw [if_pos e]
    · rw [if_neg e] at b ⊢; exact a s b
theorem hld_put (N : NM) (t : Bs) (a : Bool) (k : Bs) : Hld (nput N t ⟨a, true, k⟩) t := by unfold Hld; rw [nget_put, if_pos rfl]
/-- what takeKey does -/
theorem gr_key {N : NM} {l : List Bs} {t : Bs} (ht : Hld N t) (hv : VK t) : Gr (fun _ => False) N l (takeKeyF (N, l) t).1 (takeKeyF (N, l) t).2 ∧ ((pubRes t).2 = 0 → ((takeKeyF (N, l) t).1 (pubRes t).1).isSome = true) := by
  unfold takeKeyF
  split
  · rename_i h
    refine ⟨Gr.refl N l, fun h0 => h.elim id (fun h1 => absurd h0 h1)⟩
  · rename_i h
    have hn : (N (pubRes t).1).isSome = false := by
      cases hq : (N (pubRes t).1).isSome with
      | false => rfl
      | true => exact absurd (Or.inl hq) h
    have hp0 : (pubRes t).2 = 0 := by
      by_cases hq : (pubRes t).2 = 0
      · exact hq
      · exact absurd (Or.inr hq) h
    have hnh : ¬ Hld N (pubRes t).1 := fun a => by rw [noted_of_held a] at hn; cases hn
    have hne : ∀ s, Hld N s → s ≠ (pubRes t).1 := fun s a e => hnh (by rw [← e]; exact a)
    have hsame : ∀ s, s ≠ (pubRes t).1 → nget (nput N (pubRes t).1 nz) s = nget N s := fun s e => by rw [nget_put, if_neg e]
    have hat : nget (nput N (pubRes t).1 nz) (pubRes t).1 = nz := by rw [nget_put, if_pos rfl]
    have hz : nget N (pubRes t).1 = nz := by
      unfold nget
      cases hq : N (pubRes t).1 with
      | none => rfl
      | some _ => rw [hq] at hn; cases hn
    have hall : ∀ s, nget (nput N (pubRes t).1 nz) s = nget N s := fun s => by
      by_cases e : s = (pubRes t).1
      · rw [e, hat, hz]
      · exact hsame s e
    refine ⟨⟨fun s a => (isSome_put _ _ _ _).2 (Or.inr a), fun s a => by unfold Hld; rw [hall]; exact a, fun s _ => by rw [hall], fun s => by rw [hall], fun s a => Or.inl (by unfold Hld at a; rw [hall] at a; exact a), fun s a => ?_, fun s a => Or.inl (by unfold Hld at a; rw [hall] at a; exact a), fun s a => by simp [a], fun s a b => ?_, fun a s b => ?_⟩, fun _ => (isSome_put _ _ _ _).2 (Or.inl rfl)⟩
    · rcases (isSome_put _ _ _ _).1 a with e | e
      · exact Or.inr (by simp [e])
      · exact Or.inl e
    · unfold Hld at b
      rw [hall] at b
      rcases (isSome_put _ _ _ _).1 a with e | e
      · exact Or.inr ⟨t, by unfold Hld; rw [hall]; exact ht, hv, by rw [e, ← hp0]⟩
      · exact Or.inl ⟨e, b⟩
    · unfold Hld
      rw [hall] at b ⊢
      exact a s b

/-- what taking does -/
theorem take_gr : ∀ (n : Nat) (N : NM) (l : List Bs) (t : Bs), Tm.deep t ≠ 0 → Tm.deep t ≤ n → Gr (fun _ => False) N l (takeF n (N, l) t).1 (takeF n (N, l) t).2 ∧ Hld (takeF n (N, l) t).1 t
  | 0, _, _, _, h, h0 => absurd (Nat.le_zero.1 h0) h
  | n + 1, N, l, t, h, hn => by
    rw [takeF]
    split
    · rename_i hh
      exact ⟨Gr.refl N l, hh⟩
    · rename_i hh
      split
      · rename_i ht
        have fold : ∀ (ks : List Bs) (s : NM × List Bs), (∀ k ∈ ks, Tm.deep k ≠ 0 ∧ Tm.deep k ≤ n) → Gr (fun _ => False) s.1 s.2 (ks.foldl (takeF n) s).1 (ks.foldl (takeF n) s).2 ∧ ∀ k ∈ ks, Hld (ks.foldl (takeF n) s).1 k := by
          intro ks
          induction ks with
          | nil => intro s _; exact ⟨Gr.refl _ _, fun _ h => by cases h⟩
          | cons k ks ih =>
            intro s hk
            obtain ⟨g1, g2⟩ := take_gr n s.1 s.2 k (hk k (by simp)).1 (hk k (by simp)).2
            obtain ⟨g3, g4⟩ := ih (takeF n s k) (fun x hx => hk x (by simp [hx]))
            refine ⟨g1.trans g3, fun x hx => ?_⟩
            rcases List.mem_cons.1 hx with e | e
            · subst e; exact g3.held _ g2
            · exact g4 x e
        obtain ⟨g1, g2⟩ := fold (Tm.kidsOf 63 t) (nput N t ⟨(nget N t).heard, true, (nget N t).key⟩, l ++ [t]) (fun k hk => by
          have := Tm.kids_right h hk
          exact ⟨this.1, by omega⟩)
        have g := (gr_put (l := l) (k := (nget N t).key) hh).trans g1
        refine ⟨g.done (fun s e => ?_), g1.held _ (hld_put _ _ _ _)⟩
        subst e
        exact ⟨fun _ k hk => g2 k hk, fun hv => by rcases hv with hv | hv <;> rw [ht] at hv <;> exact absurd hv (by decide), fun hb => by rw [ht] at hb; exact absurd hb (by decide)⟩
      · rename_i ht
        split
        · rename_i hv
          obtain ⟨g1, g2⟩ := gr_key (N := nput N t ⟨(nget N t).heard, true, (nget N t).key⟩) (l := l ++ [t]) (hld_put _ _ _ _) hv
          have g := (gr_put (l := l) (k := (nget N t).key) hh).trans g1
          refine ⟨g.done (fun s e => ?_), g1.held _ (hld_put _ _ _ _)⟩
          subst e
          exact ⟨fun a => absurd a ht, fun _ => g2, fun hb => by rcases hv with hv | hv <;> rw [hb] at hv <;> exact absurd hv (by decide)⟩
        · rename_i hv
          split
          · rename_i hb
            refine ⟨(gr_put (l := l) (k := (Tm.kidsOf 63 t).headD []) hh).done (fun s e => ?_), hld_put _ _ _ _⟩
            subst e
            refine ⟨fun a => absurd a ht, fun a => absurd a hv, fun _ k m hk => Or.inl ?_⟩
            rw [nget_put, if_pos rfl, hk]; rfl
          · rename_i hb
            refine ⟨(gr_put (l := l) (k := (nget N t).key) hh).done (fun s e => ?_), hld_put _ _ _ _⟩
            subst e
            exact ⟨fun a => absurd a ht, fun a => absurd a hv, fun a => absurd a hb⟩
end Go.Proofs.YtkifchjpgdmcoaaGreatDoor
