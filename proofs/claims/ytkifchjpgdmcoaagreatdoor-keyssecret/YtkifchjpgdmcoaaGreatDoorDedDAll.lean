import Derived.Test.YtkifchjpgdmcoaaGreatDoorDedC
/- What can be made of what was heard, as the document's rules say it; that a mind's notes tell just that. -/
namespace Go.Proofs.YtkifchjpgdmcoaaGreatDoor

theorem kids_of_two {c : UInt8} {a b : Nat} {p q : Bs} (hp : Tm.Is a p) (hq : Tm.Is b q) (ha : a ≤ 63) (hb : b ≤ 63) (c1 : c ≠ 110) (c2 : c ≠ 116) (c3 : c ≠ 84) (c4 : c ≠ 80) (c5 : c ≠ 72) : Tm.kidsOf 63 (c :: (p ++ q)) = [p, q] := by
  show (if c = 84 then Tm.tupleK (Tm.rd 63) (p ++ q) else if c = 80 ∨ c = 72 then Tm.kids1 (Tm.rd 63) (p ++ q) else if c = 110 ∨ c = 116 then [] else Tm.kids2 (Tm.rd 63) (p ++ q)) = _
  rw [if_neg c3, if_neg (by simp [c4, c5]), if_neg (by simp [c1, c2])]
  have h1 := hp.2.2 63 q ha
  have h2 := hq.2.2 63 [] hb
  rw [List.append_nil] at h2
  have e1 := Tm.used_app p q
  have e2 := Tm.used_app q []
  rw [List.append_nil] at e2
  unfold Tm.kids2 Tm.twoA
  rw [h1]
  simp only [h2, e1, e2]
theorem kids_of_one {c : UInt8} {a : Nat} {p : Bs} (hp : Tm.Is a p) (ha : a ≤ 63) (hc : c = 80 ∨ c = 72) : Tm.kidsOf 63 (c :: p) = [p] := by
  show (if c = 84 then Tm.tupleK (Tm.rd 63) p else if c = 80 ∨ c = 72 then Tm.kids1 (Tm.rd 63) p else if c = 110 ∨ c = 116 then [] else Tm.kids2 (Tm.rd 63) p) = _
  rw [if_neg (by rcases hc with h | h <;> rw [h] <;> decide), if_pos hc]
  have h1 := hp.2.2 63 [] ha
  rw [List.append_nil] at h1
  have e1 := Tm.used_app p []
  rw [List.append_nil] at e1
  unfold Tm.kids1
  rw [h1]
  simp only [e1]
/-- the secret of a public key that is right -/
theorem pub_kid {b : Bs} (h : Tm.deep (80 :: b) ≠ 0) : Tm.kidsOf 63 (80 :: b) = [b] ∧ Tm.deep b ≠ 0 ∧ b.head? ≠ some 86 ∧ b.head? ≠ some 75 := by
  obtain ⟨hi, hl⟩ := Tm.deep_is h
  have hr := hi.2.2 64 [] (Tm.deep_le _)
  rw [List.append_nil, Tm.rd_cons, if_neg (by decide), if_neg (by decide), if_neg (by decide), if_pos rfl] at hr
  unfold Tm.pubA at hr
  match hg : Tm.rd 63 b with
  | none => rw [hg] at hr; cases hr
  | some (d, r) =>
    rw [hg] at hr
    simp only at hr
    split at hr
    · cases hr
    · rename_i hn
      simp at hr
      obtain ⟨hd, hr⟩ := hr
      subst hr
      have hk : Tm.kidsOf 63 (80 :: b) = [b] := by
        show Tm.kids1 (Tm.rd 63) b = _
        unfold Tm.kids1
        have e1 := Tm.used_app b []
        rw [List.append_nil] at e1
        rw [hg]
        simp only [e1]
      exact ⟨hk, (Tm.kids_right h (by rw [hk]; simp : b ∈ _)).1, fun e => hn (Or.inl e), fun e => hn (Or.inr e)⟩
theorem pub_of_plain {b : Bs} (h : Tm.deep (80 :: b) ≠ 0) : pubRes b = (80 :: b, 0) := by
  obtain ⟨_, hb, h1, h2⟩ := pub_kid h
  have e : Tm.pk b = 80 :: b := Tm.pk_else (Tm.deep_is hb).1 (Tm.deep_le _) h1 h2
  unfold pubRes
  rw [if_neg hb, e, if_neg h]
theorem pub_right {x : Bs} (h : (pubRes x).2 = 0) : Tm.deep x ≠ 0 ∧ Tm.deep (Tm.pk x) ≠ 0 ∧ (pubRes x).1 = Tm.pk x := by
  unfold pubRes at h ⊢
  by_cases h1 : Tm.deep x = 0
  · rw [if_pos h1] at h; cases h
  · rw [if_neg h1] at h ⊢
    by_cases h2 : Tm.deep (Tm.pk x) = 0
    · rw [if_pos h2] at h; cases h
    · rw [if_neg h2]; exact ⟨h1, h2, rfl⟩
theorem pub_ok {x : Bs} (h1 : Tm.deep x ≠ 0) (h2 : Tm.deep (Tm.pk x) ≠ 0) : pubRes x = (Tm.pk x, 0) := by unfold pubRes; rw [if_neg h1, if_neg h2]
theorem pub_head {x : Bs} (h : (pubRes x).2 = 0) : Tm.isPk (pubRes x).1.head? = true := by
  obtain ⟨h1, _, h3⟩ := pub_right h
  rw [h3]
  exact (Tm.pk_of (Tm.deep_is h1).1 (Tm.deep_le _)).2.2.2
/-- the two parts of a term that has two -/
theorem two_parts {c : UInt8} {l : Bs} (h : Tm.deep (c :: l) ≠ 0) (hc : c = 86 ∨ c = 75) : ∃ p q, l = p ++ q ∧ Tm.deep p ≠ 0 ∧ Tm.deep q ≠ 0 ∧ Tm.deep p ≤ 63 ∧ Tm.deep q ≤ 63 ∧ Tm.kidsOf 63 (c :: l) = [p, q] := by
  obtain ⟨hi, hl⟩ := Tm.deep_is h
  have hr := hi.2.2 64 [] (Tm.deep_le _)
  rw [List.append_nil, Tm.rd_cons, if_neg (by rcases hc with h | h <;> rw [h] <;> decide), if_neg (by rcases hc with h | h <;> rw [h] <;> decide), if_neg (by rcases hc with h | h <;> rw [h] <;> decide), if_neg (by rcases hc with h | h <;> rw [h] <;> decide), if_neg (by rcases hc with h | h <;> rw [h] <;> decide), if_pos (by rcases hc with h | h <;> rw [h] <;> decide)] at hr
  unfold Tm.two2 Tm.twoA at hr
  match hg : Tm.rd 63 l with
  | none => rw [hg] at hr; cases hr
  | some (d, r) =>
    rw [hg] at hr
    simp only at hr
    match hg2 : Tm.rd 63 r with
    | none => rw [hg2] at hr; cases hr
    | some (e, r') =>
      rw [hg2] at hr
      simp only [Option.some.injEq, Prod.mk.injEq] at hr
      obtain ⟨_, hr⟩ := hr
      subst hr
      obtain ⟨p, rfl, _⟩ := rd_front l d r hg
      have ek : Tm.kidsOf 63 (c :: (p ++ r)) = [p, r] := by
        have e1 := Tm.used_app p r
        have e2 := Tm.used_app r []
        rw [List.append_nil] at e2
        show (if c = 84 then Tm.tupleK (Tm.rd 63) (p ++ r) else if c = 80 ∨ c = 72 then Tm.kids1 (Tm.rd 63) (p ++ r) else if c = 110 ∨ c = 116 then [] else Tm.kids2 (Tm.rd 63) (p ++ r)) = _
        rw [if_neg (by rcases hc with h | h <;> rw [h] <;> decide), if_neg (by rcases hc with h | h <;> rw [h] <;> decide), if_neg (by rcases hc with h | h <;> rw [h] <;> decide)]
        unfold Tm.kids2 Tm.twoA
        rw [hg]
        simp only [hg2, e1, e2]
      have k1 := Tm.kids_right h (by rw [ek]; simp : p ∈ _)
      have k2 := Tm.kids_right h (by rw [ek]; simp : r ∈ _)
      have h64 := Tm.deep_le (c :: (p ++ r))
      exact ⟨p, r, rfl, k1.1, k2.1, by omega, by omega, ek⟩

theorem is_uniq {a n d : Nat} {p x r : Bs} (hp : Tm.Is a p) (h : Tm.rd n (p ++ x) = some (d, r)) : d = a ∧ r = x ∧ a ≤ n := by
  obtain ⟨p', e, _, hi⟩ := Tm.rd_good n _ _ _ h
  have h1 := hp.2.2 (max a d) x (by omega)
  have h2 := hi.2.2 (max a d) r (by omega)
  rw [← e, h1] at h2
  simp only [Option.some.injEq, Prod.mk.injEq] at h2
  have := (Tm.rd_len h).2.2.1
  exact ⟨h2.1.symm, h2.2.symm, by omega⟩
/-- the parts of a joint or bound key -/
theorem joint_kids {c : UInt8} {a b : Nat} {p q : Bs} (h : Tm.deep (c :: (p ++ q)) ≠ 0) (hc : c = 87 ∨ c = 76) (hp : Tm.Is a p) (hq : Tm.Is b q) : Tm.kidsOf 63 (c :: (p ++ q)) = [p, q] := by
  obtain ⟨hi, _⟩ := Tm.deep_is h
  have hr := hi.2.2 64 [] (Tm.deep_le _)
  rw [List.append_nil, Tm.rd_cons, if_neg (by rcases hc with h | h <;> rw [h] <;> decide), if_neg (by rcases hc with h | h <;> rw [h] <;> decide), if_neg (by rcases hc with h | h <;> rw [h] <;> decide), if_neg (by rcases hc with h | h <;> rw [h] <;> decide), if_neg (by rcases hc with h | h <;> rw [h] <;> decide), if_neg (by rcases hc with h | h <;> rw [h] <;> decide), if_neg (by rcases hc with h | h <;> rw [h] <;> decide)] at hr
  have hs : ∃ z, Tm.twoA (Tm.rd 63) (p ++ q) = some z := by
    cases ht : Tm.twoA (Tm.rd 63) (p ++ q) with
    | some z => exact ⟨z, rfl⟩
    | none =>
      unfold Tm.jointA Tm.boundA at hr
      rw [ht] at hr
      rcases hc with e | e
      · rw [if_pos e] at hr; cases hr
      · rw [if_neg (by rw [e]; decide), if_pos e] at hr; cases hr
  obtain ⟨z, hz⟩ := hs
  unfold Tm.twoA at hz
  match hg : Tm.rd 63 (p ++ q) with
  | none => rw [hg] at hz; cases hz
  | some (d, r) =>
    obtain ⟨_, e2, e3⟩ := is_uniq hp hg
    subst e2
    rw [hg] at hz
    simp only at hz
    match hg2 : Tm.rd 63 r with
    | none => rw [hg2] at hz; cases hz
    | some (d2, r2) =>
      have hg3 : Tm.rd 63 (r ++ []) = some (d2, r2) := by rw [List.append_nil]; exact hg2
      obtain ⟨_, _, e4⟩ := is_uniq hq hg3
      exact kids_of_two hp hq e3 e4 (by rcases hc with h | h <;> rw [h] <;> decide) (by rcases hc with h | h <;> rw [h] <;> decide) (by rcases hc with h | h <;> rw [h] <;> decide) (by rcases hc with h | h <;> rw [h] <;> decide) (by rcases hc with h | h <;> rw [h] <;> decide)

/-- what can be made of what was heard: the document's rules -/
inductive Can (H : Bs → Prop) : Bs → Prop
  | heard {t : Bs} : H t → Can H t
  | whole {t : Bs} : Tm.deep t ≠ 0 → t.head? ≠ some 110 → t.head? ≠ some 88 → (∀ k ∈ Tm.kidsOf 63 t, Can H k) → Can H t
  | agree1 {t a b : Bs} : Tm.deep t ≠ 0 → t.head? = some 88 → Tm.kidsOf 63 t = [a, b] → Can H a → Tm.deep (80 :: b) ≠ 0 → Can H (80 :: b) → Can H t
  | agree2 {t a b : Bs} : Tm.deep t ≠ 0 → t.head? = some 88 → Tm.kidsOf 63 t = [a, b] → Can H b → Tm.deep (80 :: a) ≠ 0 → Can H (80 :: a) → Can H t
  | pub {x : Bs} : Can H x → (pubRes x).2 = 0 → Can H (pubRes x).1
  | part {t k : Bs} : Can H t → t.head? = some 84 → k ∈ Tm.kidsOf 63 t → Can H k
  | opened {t k m : Bs} : Can H t → t.head? = some 66 → Tm.kidsOf 63 t = [k, m] → Can H k → Can H m
/-- what is held: what was heard, and what that gives, taken apart -/
inductive Hd (H : Bs → Prop) : Bs → Prop
  | heard {t : Bs} : H t → Hd H t
  | part {t k : Bs} : Hd H t → t.head? = some 84 → k ∈ Tm.kidsOf 63 t → Hd H k
  | opened {t k m : Bs} : Hd H t → t.head? = some 66 → Tm.kidsOf 63 t = [k, m] → Can H k → Hd H m
theorem Hd.can {H : Bs → Prop} {t : Bs} (h : Hd H t) : Can H t := by
  induction h with
  | heard h => exact .heard h
  | part _ h1 h2 ih => exact .part ih h1 h2
  | opened _ h1 h2 h3 ih => exact .opened ih h1 h2 h3

/-- what can be made of notes that are sound can be made -/
theorem mk_can {H : Bs → Prop} {N : NM} (hN : ∀ s, (N s).isSome = true → Can H s) : ∀ (n : Nat) (t : Bs), t.length ≤ n → mkF N t = true → Can H t := by
  intro n
  induction n with
  | zero =>
    intro t ht hm
    have e : t = [] := List.length_eq_zero_iff.1 (by omega)
    subst e
    rw [mkF_wrong N (by rfl)] at hm
    exact hN _ hm
  | succ n ih =>
    intro t ht hm
    by_cases hq : (N t).isSome = true
    · exact hN _ hq
    · by_cases h0 : Tm.deep t = 0
      · rw [mkF_wrong N h0] at hm; exact absurd hm hq
      · have hlk : ∀ k ∈ Tm.kidsOf 63 t, mkF N k = true → Can H k := fun k hk => ih k (by have := (Tm.kids_right h0 hk).2.2.1; omega)
        by_cases h1 : t.head? = some 110
        · rw [mkF_name N h1] at hm; exact absurd hm hq
        · by_cases h2 : t.head? = some 88
          · obtain ⟨a, b, hk⟩ := agree_kids h0 h2
            rw [mkF_agree N h0 h2 hk] at hm
            rw [hk] at hlk
            have one : ∀ y, (mkF N y = true → Can H y) → hasKeyF N y (mkF N y) = true → Tm.deep (80 :: y) ≠ 0 ∧ Can H (80 :: y) := by
              intro y hy hh
              unfold hasKeyF at hh
              simp only [Bool.and_eq_true, Bool.or_eq_true] at hh
              have e0 : (pubRes y).2 = 0 := by simpa using hh.1.1
              have e := pub_plain e0 (by simpa using hh.1.2)
              have hr := pub_right e0
              refine ⟨by rw [← e, hr.2.2]; exact hr.2.1, ?_⟩
              rcases hh.2 with a | a
              · have := Can.pub (hy a) e0
                rw [e] at this
                exact this
              · rw [e] at a; exact hN _ a
            simp only [Bool.or_eq_true, Bool.and_eq_true] at hm
            rcases hm with hm | hm | hm
            · exact absurd hm hq
            · have := one b (hlk b (by simp)) hm.2
              exact .agree1 h0 h2 hk (hlk a (by simp) hm.1) this.1 this.2
            · have := one a (hlk a (by simp)) hm.2
              exact .agree2 h0 h2 hk (hlk b (by simp) hm.1) this.1 this.2
          · rw [mkF_else N h0 h1 h2] at hm
            simp only [Bool.or_eq_true, List.all_eq_true] at hm
            rcases hm with hm | hm
            · exact absurd hm hq
            · exact .whole h0 h1 h2 (fun k hk => hlk k hk (hm k hk))

/-- notes that hold all that they should -/
structure Full (N : NM) : Prop where
  sat : Sat N
  shut : Shut N
  right : ∀ s, (N s).isSome = true → Tm.deep s ≠ 0
theorem Full.mk_right {N : NM} (h : Full N) {t : Bs} (hm : mkF N t = true) : Tm.deep t ≠ 0 := fun h0 => by
  rw [mkF_wrong N h0] at hm
  exact h.right t hm h0
theorem Full.held {N : NM} (h : Full N) {t : Bs} (hn : (N t).isSome = true) (hp : Tm.isPk t.head? = false) : Hld N t := by
  apply Classical.byContradiction
  intro hh
  obtain ⟨x, _, _, hx⟩ := h.sat.odd t hn hh
  have := pub_head (x := x) (by rw [hx])
  rw [hx, hp] at this
  cases this
theorem Full.pub {N : NM} (h : Full N) : ∀ (n : Nat) (x : Bs), x.length ≤ n → (pubRes x).2 = 0 → mkF N x = true → mkF N (pubRes x).1 = true := by
  intro n
  induction n with
  | zero =>
    intro x hx h0 _
    have e : x = [] := List.length_eq_zero_iff.1 (by omega)
    subst e
    exact absurd rfl (pub_right h0).1
  | succ n ih =>
    intro x hx h0 hm
    obtain ⟨hr, hpr, he⟩ := pub_right h0
    have two : ∀ (c : UInt8) (l : Bs), x = c :: l → VK x → (∀ p q, l = p ++ q → mkF N p = true → mkF N q = true → Tm.deep p ≠ 0 → Tm.deep q ≠ 0 → Tm.deep p ≤ 63 → Tm.deep q ≤ 63 → Tm.kidsOf 63 x = [p, q] → mkF N (Tm.pk x) = true) → mkF N (pubRes x).1 = true := by
      intro c l hxl hv hcase
      have hc : c = 86 ∨ c = 75 := by rw [hxl] at hv; simpa [VK] using hv
      have hnp : Tm.isPk x.head? = false := by rw [hxl]; rcases hc with e | e <;> rw [e] <;> rfl
      by_cases hn : (N x).isSome = true
      · exact mkF_noted N ((h.sat.cl x (h.held hn hnp)).pub hv h0)
      · rw [hxl] at hr
        obtain ⟨p, q, hl, hp, hq, hp3, hq3, hk⟩ := two_parts hr hc
        rw [← hxl] at hk hr
        rw [mkF_else N hr (by rw [hxl]; rcases hc with e | e <;> simp [e]) (by rw [hxl]; rcases hc with e | e <;> simp [e])] at hm
        simp only [Bool.or_eq_true, List.all_eq_true] at hm
        rcases hm with hm | hm
        · exact absurd hm hn
        · rw [hk] at hm
          rw [he]
          exact hcase p q hl (hm p (by simp)) (hm q (by simp)) hp hq hp3 hq3 hk
    by_cases h1 : x.head? = some 86
    · match x, h1 with
      | c :: l, h1 =>
        simp at h1
        subst h1
        refine two 86 l rfl (Or.inl rfl) (fun p q hl mp mq hp hq hp3 hq3 hk => ?_)
        subst hl
        have ip := (Tm.deep_is hp).1
        have iq := (Tm.deep_is hq).1
        have e := Tm.pk_join ip iq (by omega) (by omega)
        rw [e] at hpr ⊢
        obtain ⟨_, ⟨dp, ipp, hdp⟩, _, _⟩ := Tm.pk_of ip (by omega)
        obtain ⟨_, ⟨dq, iqq, hdq⟩, _, _⟩ := Tm.pk_of iq (by omega)
        have hkk := joint_kids hpr (Or.inl rfl) ipp iqq
        have rp := (Tm.kids_right hpr (by rw [hkk]; simp : Tm.pk p ∈ _)).1
        have rq := (Tm.kids_right hpr (by rw [hkk]; simp : Tm.pk q ∈ _)).1
        have kp := ih p (by simp at hx; omega) (by rw [pub_ok hp rp]) mp
        have kq := ih q (by simp at hx; omega) (by rw [pub_ok hq rq]) mq
        rw [pub_ok hp rp] at kp
        rw [pub_ok hq rq] at kq
        rw [mkF_else N hpr (by simp) (by simp), hkk]
        simp [kp, kq]
    · by_cases h2 : x.head? = some 75
      · match x, h2 with
        | c :: l, h2 =>
          simp at h2
          subst h2
          refine two 75 l rfl (Or.inr rfl) (fun p q hl mp mq hp hq hp3 hq3 hk => ?_)
          subst hl
          have ip := (Tm.deep_is hp).1
          have iq := (Tm.deep_is hq).1
          have e := Tm.pk_bind ip iq (by omega) (by omega)
          rw [e] at hpr ⊢
          obtain ⟨_, ⟨dp, ipp, hdp⟩, _, _⟩ := Tm.pk_of ip (by omega)
          have hkk := joint_kids hpr (Or.inr rfl) ipp iq
          have rp := (Tm.kids_right hpr (by rw [hkk]; simp : Tm.pk p ∈ _)).1
          have kp := ih p (by simp at hx; omega) (by rw [pub_ok hp rp]) mp
          rw [pub_ok hp rp] at kp
          rw [mkF_else N hpr (by simp) (by simp), hkk]
          simp [kp, mq]
      · have e := Tm.pk_else (Tm.deep_is hr).1 (Tm.deep_le _) h1 h2
        rw [he, e]
        rw [e] at hpr
        rw [mkF_else N hpr (by simp) (by simp), (pub_kid hpr).1]
        simp [hm]

/-- all that can be made can be made of notes that are full -/
theorem can_mk {H : Bs → Prop} {N : NM} (h : Full N) (hH : ∀ t, H t → (N t).isSome = true) {t : Bs} (hc : Can H t) : mkF N t = true := by
  have key : ∀ y, Tm.deep (80 :: y) ≠ 0 → mkF N (80 :: y) = true → hasKeyF N y (mkF N y) = true := by
    intro y hd hm
    rw [mkF_else N hd (by simp) (by simp), (pub_kid hd).1] at hm
    unfold hasKeyF
    rw [pub_of_plain hd]
    simp at hm ⊢
    exact hm.symm
  induction hc with
  | heard a => exact mkF_noted N (hH _ a)
  | whole h0 h1 h2 _ ih =>
    rw [mkF_else N h0 h1 h2, Bool.or_eq_true, List.all_eq_true]
    exact Or.inr ih
  | agree1 h0 h2 hk _ hd _ ih1 ih2 =>
    rw [mkF_agree N h0 h2 hk, ih1, key _ hd ih2]
    simp
  | agree2 h0 h2 hk _ hd _ ih1 ih2 =>
    rw [mkF_agree N h0 h2 hk, ih1, key _ hd ih2]
    simp
  | pub _ h0 ih => exact h.pub _ _ (Nat.le_refl _) h0 ih
  | @part t k _ ht hk ih =>
    have h0 := h.mk_right ih
    by_cases hn : (N t).isSome = true
    · exact mkF_noted N (noted_of_held ((h.sat.cl t (h.held hn (by rw [ht]; rfl))).tup ht k hk))
    · rw [mkF_else N h0 (by rw [ht]; decide) (by rw [ht]; decide)] at ih
      simp only [Bool.or_eq_true, List.all_eq_true] at ih
      exact ih.elim (fun a => absurd a hn) (fun a => a k hk)
  | @opened t k m _ ht hk _ ih ihk =>
    have h0 := h.mk_right ih
    by_cases hn : (N t).isSome = true
    · rcases (h.sat.cl t (h.held hn (by rw [ht]; rfl))).box ht k m hk with a | a
      · have hkr := h.mk_right ihk
        have hne : (nget N t).key ≠ [] := by
          rw [a]
          intro e
          rw [e] at hkr
          exact hkr rfl
        have := h.shut t hne
        rw [a, ihk] at this
        cases this
      · exact mkF_noted N (noted_of_held a.2)
    · rw [mkF_else N h0 (by rw [ht]; decide) (by rw [ht]; decide), hk] at ih
      simp only [Bool.or_eq_true, List.all_eq_true] at ih
      exact ih.elim (fun a => absurd a hn) (fun a => a m (by simp))
end Go.Proofs.YtkifchjpgdmcoaaGreatDoor

/- A mind that has heard terms: what it makes is what can be made, what it holds is what can be taken apart. -/
namespace Go.Proofs.YtkifchjpgdmcoaaGreatDoor

theorem Can.mono {H G : Bs → Prop} (h : ∀ t, H t → G t) {t : Bs} (c : Can H t) : Can G t := by
  induction c with
  | heard a => exact .heard (h _ a)
  | whole a b c _ ih => exact .whole a b c ih
  | agree1 a b c _ e _ ih1 ih2 => exact .agree1 a b c ih1 e ih2
  | agree2 a b c _ e _ ih1 ih2 => exact .agree2 a b c ih1 e ih2
  | pub _ a ih => exact .pub ih a
  | part _ a b ih => exact .part ih a b
  | opened _ a b _ ih1 ih2 => exact .opened ih1 a b ih2
theorem Hd.mono {H G : Bs → Prop} (h : ∀ t, H t → G t) {t : Bs} (c : Hd H t) : Hd G t := by
  induction c with
  | heard a => exact .heard (h _ a)
  | part _ a b ih => exact .part ih a b
  | opened _ a b c ih => exact .opened ih a b (c.mono h)
/-- what taking notes are parts of what is taken -/
theorem take_sound {Q : Bs → Prop} (hQ : ∀ t k, Q t → t.head? = some 84 → k ∈ Tm.kidsOf 63 t → Q k) : ∀ (n : Nat) (N : NM) (l : List Bs) (t : Bs), (∀ s, Hld N s → Q s) → Q t → ∀ s, Hld (takeF n (N, l) t).1 s → Q s
  | 0, _, _, _, h, _ => h
  | n + 1, N, l, t, h, ht => by
    have put : ∀ k, ∀ s, Hld (nput N t ⟨(nget N t).heard, true, k⟩) s → Q s := fun k s a => by
      unfold Hld at a
      rw [nget_put] at a
      by_cases e : s = t
      · rw [e]; exact ht
      · rw [if_neg e] at a; exact h s a
    rw [takeF]
    split
    · exact h
    · split
      · rename_i h84
        have fold : ∀ (ks : List Bs) (s : NM × List Bs), (∀ k ∈ ks, Q k) → (∀ x, Hld s.1 x → Q x) → ∀ x, Hld (ks.foldl (takeF n) s).1 x → Q x := by
          intro ks
          induction ks with
          | nil => intro s _ hs; exact hs
          | cons k ks ih =>
            intro s hk hs
            exact ih (takeF n s k) (fun x hx => hk x (by simp [hx])) (take_sound hQ n s.1 s.2 k hs (hk k (by simp)))
        exact fold _ _ (fun k hk => hQ t k ht h84 hk) (put _)
      · split
        · unfold takeKeyF
          split
          · exact put _
          · intro s a
            unfold Hld at a
            rw [nget_put] at a
            by_cases e : s = (pubRes t).1
            · rw [if_pos e] at a; cases a
            · rw [if_neg e] at a; exact put _ s a
        · split
          · exact put _
          · exact put _
/-- notes that are sound -/
theorem noted_can {H : Bs → Prop} {N : NM} (hS : Sat N) (h : ∀ s, Hld N s → Hd H s) (s : Bs) (hn : (N s).isSome = true) : Can H s := by
  by_cases hh : Hld N s
  · exact (h s hh).can
  · obtain ⟨x, hx, _, hp⟩ := hS.odd s hn hh
    have := Can.pub (h x hx).can (by rw [hp])
    rw [hp] at this
    exact this
theorem open_sound {U : List Bs} (hU : Uni U) {H : Bs → Prop} (N : NM) (l : List Bs) (box : Bs) (hO : Ok U N) (hS : Sat N) (hb : box ∈ U) (hm : mkF N (nget N box).key = true) (h : ∀ s, Hld N s → Hd H s) : ∀ s, Hld (openF (N, l) box).1 s → Hd H s := by
  obtain ⟨hk, h66, m, hks⟩ := box_of hU hO hm
  have hd := hU.right box hb
  have hub : (unboxRes (nget N box).key box).1 = m := by unfold unboxRes; rw [if_pos ⟨hd, h66⟩, hks]; simp
  have hE : openF (N, l) box = takeF 64 (nput N box ⟨(nget N box).heard, (nget N box).held, []⟩, l) m := by unfold openF; rw [hub]
  rw [hE]
  refine take_sound (fun t k a b c => .part a b c) 64 _ l m (fun s a => ?_) (.opened (h box (hS.kz box hk)) h66 hks (mk_can (noted_can hS h) _ _ (Nat.le_refl _) hm))
  unfold Hld at a
  rw [nget_put] at a
  by_cases e : s = box
  · rw [if_pos e] at a; rw [e]; exact h box a
  · rw [if_neg e] at a; exact h s a

/-- a mind that has heard H -/
structure Mind (H : Bs → Prop) (N : NM) : Prop where
  full : Full N
  heard : ∀ t, H t ↔ (nget N t).heard = true
  held : ∀ t, H t → Hld N t
  snd : ∀ s, Hld N s → Hd H s
theorem Mind.new : Mind (fun _ => False) (fun _ => none) :=
  ⟨⟨⟨fun _ a => (by cases a), fun _ a => (by cases a), fun _ a => absurd rfl a⟩, fun _ a => absurd rfl a, fun _ a => (by cases a)⟩, fun t => ⟨fun a => a.elim, fun a => (by cases a)⟩, fun _ a => a.elim, fun _ a => (by cases a)⟩
theorem Mind.knows {H : Bs → Prop} {N : NM} (h : Mind H N) (t : Bs) : mkF N t = true ↔ Can H t :=
  ⟨mk_can (noted_can h.full.sat h.snd) _ _ (Nat.le_refl _), can_mk h.full (fun t a => noted_of_held (h.held t a))⟩
theorem Mind.holds {H : Bs → Prop} {N : NM} (h : Mind H N) (t : Bs) : Hld N t ↔ Hd H t := by
  refine ⟨h.snd t, fun a => ?_⟩
  induction a with
  | heard a => exact h.held _ a
  | part _ a b ih => exact (h.full.sat.cl _ ih).tup a _ b
  | @opened t k m _ a b c ih =>
    rcases (h.full.sat.cl _ ih).box a k m b with e | e
    · have hk := (h.knows k).2 c
      have hne : (nget N t).key ≠ [] := by
        rw [e]
        intro e2
        have := h.full.mk_right hk
        rw [e2] at this
        exact this rfl
      have := h.full.shut t hne
      rw [e, hk] at this
      cases this
    · exact e.2
theorem mk_same {N M : NM} (h : ∀ s, (M s).isSome = (N s).isSome) (t : Bs) : mkF M t = mkF N t := by
  rw [Bool.eq_iff_iff]
  exact ⟨mk_mono (fun s a => by rw [← h]; exact a), mk_mono (fun s a => by rw [h]; exact a)⟩
/-- notes that differ in what was heard alone -/
theorem Full.same {N M : NM} (h : Full N) (h1 : ∀ s, (M s).isSome = (N s).isSome) (h2 : ∀ s, (nget M s).held = (nget N s).held) (h3 : ∀ s, (nget M s).key = (nget N s).key) : Full M where
  sat := by
    refine ⟨fun s a => ?_, fun s a b => ?_, fun s a => ?_⟩
    · have hs : Hld N s := by unfold Hld; rw [← h2]; exact a
      exact (h.sat.cl s hs).mono (fun t x => by rw [h1]; exact x) (fun t x => by unfold Hld; rw [h2]; exact x) (h3 s)
    · obtain ⟨x, hx, hp⟩ := h.sat.odd s (by rw [← h1]; exact a) (fun y => b (by unfold Hld; rw [h2]; exact y))
      exact ⟨x, by unfold Hld; rw [h2]; exact hx, hp⟩
    · unfold Hld; rw [h2]; rw [h3] at a; exact h.sat.kz s a
  shut := fun s a => by rw [h3] at a ⊢; rw [mk_same h1]; exact h.shut s a
  right := fun s a => h.right s (by rw [← h1]; exact a)
/-- a mind learns -/
theorem Mind.learn {U : List Bs} (hU : Uni U) {H : Bs → Prop} {N : NM} (hO : Ok U N) (h : Mind H N) {t : Bs} (ht : t ∈ U) {L : List (Bs × Note)} (hL : Over N L) {M : NM}
    (hF : Follow (takeF 64 (N, []) t).1 (takeF 64 (N, []) t).2 (shutL L) M) : Mind (fun x => x = t ∨ H x) (nput M t ⟨true, (nget M t).held, (nget M t).key⟩) := by
  have hs0 : ∀ s, Hld (takeF 64 (N, []) t).1 s → Hd (fun x => x = t ∨ H x) s :=
    take_sound (fun t k a b c => .part a b c) 64 N [] t (fun s a => (h.snd s a).mono (fun _ => Or.inr)) (.heard (Or.inl rfl))
  obtain ⟨⟨l, r, p⟩, hS, hO2, hZ, htM, hs⟩ := learn_inv hU hO h.full.sat h.full.shut ht hL hF (P := fun N => ∀ s, Hld N s → Hd (fun x => x = t ∨ H x) s) (fun N l box => open_sound hU N l box) hs0
  have g1 : ∀ s, (nput M t ⟨true, (nget M t).held, (nget M t).key⟩ s).isSome = (M s).isSome := fun s => by
    rw [Bool.eq_iff_iff, isSome_put]
    exact ⟨fun a => a.elim (fun e => by rw [e]; exact noted_of_held htM) id, Or.inr⟩
  have g2 : ∀ s, (nget (nput M t ⟨true, (nget M t).held, (nget M t).key⟩) s).held = (nget M s).held := fun s => by
    rw [nget_put]
    split
    · rename_i e; rw [e]
    · rfl
  have g3 : ∀ s, (nget (nput M t ⟨true, (nget M t).held, (nget M t).key⟩) s).key = (nget M s).key := fun s => by
    rw [nget_put]
    split
    · rename_i e; rw [e]
    · rfl
  refine ⟨Full.same ⟨hS, hZ, fun s a => hU.right s (hO2.dom s a)⟩ g1 g2 g3, fun s => ?_, fun s a => ?_, fun s a => hs s (by unfold Hld; rw [← g2]; exact a)⟩
  · rw [nget_put]
    by_cases e : s = t
    · rw [if_pos e]; exact ⟨fun _ => rfl, fun _ => Or.inl e⟩
    · rw [if_neg e, p.heard s, ← h.heard s]
      exact ⟨fun a => a.elim (fun x => absurd x e) id, Or.inr⟩
  · unfold Hld
    rw [g2]
    rcases a with e | a
    · rw [e]; exact htM
    · exact p.held s (h.held s a)
end Go.Proofs.YtkifchjpgdmcoaaGreatDoor
