import Derived.Test.YtkifchjpgdmcoaaGreatDoorFolAll
/- What can be made, and how it depends on the notes. -/
namespace Go.Proofs.YtkifchjpgdmcoaaGreatDoor
theorem mk_fuel (N : NM) : ∀ (n m : Nat) (t : Bs), Tm.deep t ≤ n → Tm.deep t ≤ m → makesF N n t = makesF N m t
 | 0, 0, _, _, _ => rfl
 | 0, m + 1, t, h, _ => by
   have h0 : Tm.deep t = 0 := by omega
   simp [makesF, h0]
 | n + 1, 0, t, _, h => by
   have h0 : Tm.deep t = 0 := by omega
   simp [makesF, h0]
 | n + 1, m + 1, t, h1, h2 => by
   by_cases h0 : Tm.deep t = 0
   · simp [makesF, h0]
   · have hk : ∀ k ∈ Tm.kidsOf 63 t, makesF N n k = makesF N m k := fun k hk => by
       have := (Tm.kids_right h0 hk).2.1
       exact mk_fuel N n m k (by omega) (by omega)
     have hall : (Tm.kidsOf 63 t).all (makesF N n) = (Tm.kidsOf 63 t).all (makesF N m) := by
       rw [Bool.eq_iff_iff, List.all_eq_true, List.all_eq_true]
       exact ⟨fun h k hk' => by rw [← hk k hk']; exact h k hk', fun h k hk' => by rw [hk k hk']; exact h k hk'⟩
     rw [makesF, makesF, hall]
     generalize hks : Tm.kidsOf 63 t = ks at hk
     match ks, hk with
     | [], _ => rfl
     | [_], _ => rfl
     | [a, b], hk =>
       simp only [hk a (by simp), hk b (by simp)]
     | _ :: _ :: _ :: _, _ => rfl
theorem kid_mk (N : NM) {t k : Bs} (h : Tm.deep t ≠ 0) (hk : k ∈ Tm.kidsOf 63 t) : makesF N 63 k = mkF N k := by
 have h1 := (Tm.kids_right h hk).2.1
 have h2 := Tm.deep_le t
 exact mk_fuel N 63 64 k (by omega) (by omega)
theorem mkF_else (N : NM) {t : Bs} (h : Tm.deep t ≠ 0) (h1 : t.head? ≠ some 110) (h2 : t.head? ≠ some 88) : mkF N t = ((N t).isSome || (Tm.kidsOf 63 t).all (mkF N)) := by
 have hall : (Tm.kidsOf 63 t).all (makesF N 63) = (Tm.kidsOf 63 t).all (mkF N) := by
   rw [Bool.eq_iff_iff, List.all_eq_true, List.all_eq_true]
   exact ⟨fun h' k hk => by rw [← kid_mk N h hk]; exact h' k hk, fun h' k hk => by rw [kid_mk N h hk]; exact h' k hk⟩
 show makesF N (63 + 1) t = _
 have hd : (Tm.deep t != 0) = true := by simpa using h
 rw [makesF, if_neg h1, if_neg h2, hall, hd, Bool.true_and]
theorem mkF_name (N : NM) {t : Bs} (h1 : t.head? = some 110) : mkF N t = (N t).isSome := by
 show makesF N (63 + 1) t = _
 rw [makesF, if_pos h1]
 simp
theorem mkF_agree (N : NM) {t a b : Bs} (h : Tm.deep t ≠ 0) (h2 : t.head? = some 88) (hk : Tm.kidsOf 63 t = [a, b]) :
   mkF N t = ((N t).isSome || ((mkF N a && hasKeyF N b (mkF N b)) || (mkF N b && hasKeyF N a (mkF N a)))) := by
 show makesF N (63 + 1) t = _
 have hd : (Tm.deep t != 0) = true := by simpa using h
 rw [makesF, if_neg (by rw [h2]; decide), if_pos h2, hk, hd, Bool.true_and]
 show (_ || ((makesF N 63 a && hasKeyF N b (makesF N 63 b)) || (makesF N 63 b && hasKeyF N a (makesF N 63 a)))) = _
 rw [kid_mk N h (by rw [hk]; simp : a ∈ _), kid_mk N h (by rw [hk]; simp : b ∈ _)]
theorem mkF_wrong (N : NM) {t : Bs} (h : Tm.deep t = 0) : mkF N t = (N t).isSome := by
 show makesF N (63 + 1) t = _
 rw [makesF, h]
 simp
theorem mkF_noted (N : NM) {t : Bs} (h : (N t).isSome = true) : mkF N t = true := by
 show makesF N (63 + 1) t = _
 rw [makesF, h]; rfl
theorem agree_kids {t : Bs} (h : Tm.deep t ≠ 0) (h2 : t.head? = some 88) : ∃ a b, Tm.kidsOf 63 t = [a, b] := by
 match t, h, h2 with
 | c :: l, h, h2 =>
   simp at h2
   subst h2
   exact Tm.kids_pair h (by decide) (by decide) (by decide) (by decide) (by decide)
def Le (N M : NM) : Prop := ∀ t, (N t).isSome = true → (M t).isSome = true
theorem hasKey_mono {N M : NM} (h : Le N M) {x : Bs} {a b : Bool} (hab : a = true → b = true) (hx : hasKeyF N x a = true) : hasKeyF M x b = true := by
 unfold hasKeyF at *
 simp only [Bool.and_eq_true, Bool.or_eq_true] at *
 exact ⟨hx.1, hx.2.imp hab (h _)⟩
theorem mkF_mono {N M : NM} (h : Le N M) : ∀ (n : Nat) (t : Bs), t.length ≤ n → mkF N t = true → mkF M t = true := by
 intro n
 induction n with
 | zero =>
   intro t ht hm
   have e : t = [] := List.length_eq_zero_iff.1 (by omega)
   subst e
   rw [mkF_wrong N (by rfl)] at hm
   exact mkF_noted M (h _ hm)
 | succ n ih =>
   intro t ht hm
   by_cases hN : (N t).isSome = true
   · exact mkF_noted M (h _ hN)
   · by_cases h0 : Tm.deep t = 0
     · rw [mkF_wrong N h0] at hm; exact absurd hm hN
     · have hlk : ∀ k ∈ Tm.kidsOf 63 t, mkF N k = true → mkF M k = true := fun k hk => ih k (by have := (Tm.kids_right h0 hk).2.2.1; omega)
       by_cases h1 : t.head? = some 110
       · rw [mkF_name N h1] at hm; exact absurd hm hN
       · by_cases h2 : t.head? = some 88
         · obtain ⟨a, b, hk⟩ := agree_kids h0 h2
           rw [mkF_agree N h0 h2 hk] at hm
           rw [mkF_agree M h0 h2 hk]
           rw [hk] at hlk
           simp only [Bool.or_eq_true, Bool.and_eq_true] at hm ⊢
           rcases hm with hm | hm | hm
           · exact absurd hm hN
           · exact Or.inr (Or.inl ⟨hlk a (by simp) hm.1, hasKey_mono h (hlk b (by simp)) hm.2⟩)
           · exact Or.inr (Or.inr ⟨hlk b (by simp) hm.1, hasKey_mono h (hlk a (by simp)) hm.2⟩)
         · rw [mkF_else N h0 h1 h2] at hm
           rw [mkF_else M h0 h1 h2]
           simp only [Bool.or_eq_true, List.all_eq_true] at hm ⊢
           rcases hm with hm | hm
           · exact absurd hm hN
           · exact Or.inr (fun k hk => hlk k hk (hm k hk))
theorem mk_mono {N M : NM} (h : Le N M) {t : Bs} (hm : mkF N t = true) : mkF M t = true := mkF_mono h _ t (Nat.le_refl _) hm
theorem pub_plain {x : Bs} (h0 : (pubRes x).2 = 0) (h : (pubRes x).1.head? = some 80) : (pubRes x).1 = 80 :: x := by
 unfold pubRes at *
 by_cases h1 : Tm.deep x = 0
 · rw [if_pos h1] at h0; cases h0
 · rw [if_neg h1] at h0 h ⊢
   by_cases h2 : Tm.deep (Tm.pk x) = 0
   · rw [if_pos h2] at h0; cases h0
   · rw [if_neg h2] at h ⊢
     obtain ⟨hi, _⟩ := Tm.deep_is h1
     have hl := Tm.deep_le x
     refine Tm.pk_else hi hl (fun e => ?_) (fun e => ?_)
     · match x, e with
       | c :: l, e =>
         simp at e
         subst e
         simp [Tm.pk, Tm.pkA] at h
     · match x, e with
       | c :: l, e =>
         simp at e
         subst e
         simp only [Tm.pk, Tm.pkA, reduceIte, show ((75 : UInt8) = 86) = False from by decide] at h
         split at h <;> simp at h
def minus (N : NM) (l : List Bs) : NM := fun t => if t ∈ l then none else N t
theorem minus_le (N : NM) (l : List Bs) : Le (minus N l) N := fun t h => by
 unfold minus at h
 split at h
 · cases h
 · exact h
theorem minus_new {N : NM} {l : List Bs} {t : Bs} (h : (N t).isSome = true) (hm : (minus N l t).isSome = false) : t ∈ l := by
 unfold minus at hm
 split at hm
 · assumption
 · rw [h] at hm; cases hm
def Sub (x t : Bs) : Prop := ∃ a b, t = a ++ (x ++ b)
theorem Sub.trans {x y t : Bs} (h : Sub x y) (h2 : Sub y t) : Sub x t := by
 obtain ⟨a, b, rfl⟩ := h
 obtain ⟨c, d, rfl⟩ := h2
 exact ⟨c ++ a, b ++ d, by simp⟩
theorem Sub.kid {t k : Bs} (h : Tm.deep t ≠ 0) (hk : k ∈ Tm.kidsOf 63 t) : Sub k t := by
 obtain ⟨_, _, _, a, b, e, _⟩ := Tm.kids_right h hk
 exact ⟨a, b, e⟩
theorem bare_sub (x : Bs) : Sub (bare x) x := by
 unfold bare
 split
 · match x with
   | [] => exact ⟨[], [], rfl⟩
   | c :: l => exact ⟨[c], [], by simp⟩
 · exact ⟨[], [], by simp⟩
theorem mk_new {N : NM} {l : List Bs} : ∀ (n : Nat) (t : Bs), t.length ≤ n → mkF N t = true → mkF (minus N l) t = false → ∃ x ∈ l, Sub (bare x) t := by
 intro n
 induction n with
 | zero =>
   intro t ht hm hf
   have e : t = [] := List.length_eq_zero_iff.1 (by omega)
   subst e
   rw [mkF_wrong N (by rfl)] at hm
   rw [mkF_wrong _ (by rfl)] at hf
   exact ⟨[], minus_new hm hf, bare_sub _⟩
 | succ n ih =>
   intro t ht hm hf
   by_cases hN : (N t).isSome = true
   · cases hq : (minus N l t).isSome with
     | true => rw [mkF_noted _ hq] at hf; cases hf
     | false => exact ⟨t, minus_new hN hq, bare_sub t⟩
   · have hq : (minus N l t).isSome = false := by
       cases hq : (minus N l t).isSome with
       | true => exact absurd (minus_le N l t hq) hN
       | false => rfl
     by_cases h0 : Tm.deep t = 0
     · rw [mkF_wrong N h0] at hm; exact absurd hm hN
     · have hlk : ∀ k ∈ Tm.kidsOf 63 t, mkF N k = true → mkF (minus N l) k = false → ∃ x ∈ l, Sub (bare x) t := fun k hk a b => by
         obtain ⟨x, hx, hs⟩ := ih k (by have := (Tm.kids_right h0 hk).2.2.1; omega) a b
         exact ⟨x, hx, hs.trans (Sub.kid h0 hk)⟩
       by_cases h1 : t.head? = some 110
       · rw [mkF_name N h1] at hm; exact absurd hm hN
       · by_cases h2 : t.head? = some 88
         · obtain ⟨a, b, hk⟩ := agree_kids h0 h2
           rw [mkF_agree N h0 h2 hk] at hm
           rw [mkF_agree _ h0 h2 hk, hq] at hf
           rw [hk] at hlk
           have hsa : Sub a t := Sub.kid h0 (by rw [hk]; simp)
           have hsb : Sub b t := Sub.kid h0 (by rw [hk]; simp)
           simp only [Bool.or_eq_true, Bool.and_eq_true] at hm
           simp only [Bool.or_eq_false_iff, Bool.false_or] at hf
           have one : ∀ x y : Bs, Sub x t → Sub y t → (mkF N x = true → mkF (minus N l) x = false → ∃ z ∈ l, Sub (bare z) t) → (mkF N y = true → mkF (minus N l) y = false → ∃ z ∈ l, Sub (bare z) t) →
               mkF N x = true → hasKeyF N y (mkF N y) = true → (mkF (minus N l) x && hasKeyF (minus N l) y (mkF (minus N l) y)) = false → ∃ z ∈ l, Sub (bare z) t := by
             intro x y hsx hsy hx hy h3 h4 h5
             cases hqx : mkF (minus N l) x with
             | false => exact hx h3 hqx
             | true =>
               rw [hqx, Bool.true_and] at h5
               cases hqy : mkF (minus N l) y with
               | true =>
                 rw [hqy] at h5
                 unfold hasKeyF at h4 h5
                 simp only [Bool.and_eq_true, Bool.true_or, Bool.and_true] at h4 h5
                 rw [h4.1.1, h4.1.2] at h5
                 cases h5
               | false =>
                 cases hy' : mkF N y with
                 | true => exact hy hy' hqy
                 | false =>
                   rw [hqy] at h5
                   rw [hy'] at h4
                   unfold hasKeyF at h4 h5
                   simp only [Bool.and_eq_true, Bool.false_or] at h4 h5
                   rw [h4.1.1, h4.1.2, Bool.true_and, Bool.true_and] at h5
                   have hin := minus_new h4.2 h5
                   have e := pub_plain (by simpa using h4.1.1) (by simpa using h4.1.2)
                   rw [e] at hin
                   exact ⟨_, hin, by simpa [bare] using hsy⟩
           rcases hm with hm | hm | hm
           · exact absurd hm hN
           · exact one a b hsa hsb (hlk a (by simp)) (hlk b (by simp)) hm.1 hm.2 hf.1
           · exact one b a hsb hsa (hlk b (by simp)) (hlk a (by simp)) hm.1 hm.2 hf.2
         · rw [mkF_else N h0 h1 h2] at hm
           rw [mkF_else _ h0 h1 h2, hq, Bool.false_or] at hf
           simp only [Bool.or_eq_true, List.all_eq_true] at hm
           rcases hm with hm | hm
           · exact absurd hm hN
           · obtain ⟨k, hk, hkf⟩ := List.all_eq_false.1 hf
             exact hlk k hk (hm k hk) (by simpa using hkf)
theorem contains_sub {x t : Bs} (h : Sub x t) : Lib.contains t x = true := by
 obtain ⟨a, b, rfl⟩ := h
 unfold Lib.contains
 rcases Lib.index_spec (a ++ (x ++ b)) x with ⟨h1, h2⟩ | ⟨i, h1, _⟩
 · have h3 := h2 a.length (by simp)
   have h4 : x.isPrefixOf (x ++ b) = true := List.isPrefixOf_iff_prefix.2 (List.prefix_append _ _)
   unfold Lib.occAt at h3
   rw [List.drop_left, h4] at h3
   cases h3
 · rw [h1]; simp
theorem concern_new {N : NM} {news : List Bs} {box k : Bs} (hs : Sub k box) (hc : concernF news box = false) (hm : mkF (minus N news) k = false) : mkF N k = false := by
 cases h : mkF N k with
 | false => rfl
 | true =>
   obtain ⟨x, hx, hsub⟩ := mk_new _ k (Nat.le_refl _) h hm
   unfold concernF at hc
   rw [Bool.or_eq_false_iff] at hc
   have := List.any_eq_false.1 hc.2 x hx
   rw [contains_sub (hsub.trans hs)] at this
   exact absurd rfl this
end Go.Proofs.YtkifchjpgdmcoaaGreatDoor

/- What taking a term does to the notes. -/
namespace Go.Proofs.YtkifchjpgdmcoaaGreatDoor
abbrev Hld (N : NM) (s : Bs) : Prop := (nget N s).held = true
abbrev VK (t : Bs) : Prop := t.head? = some 86 ∨ t.head? = some 75
structure Cl (N : NM) (s : Bs) : Prop where
 tup : s.head? = some 84 → ∀ k ∈ Tm.kidsOf 63 s, Hld N k
 pub : VK s → (pubRes s).2 = 0 → (N (pubRes s).1).isSome = true
 box : s.head? = some 66 → ∀ k m, Tm.kidsOf 63 s = [k, m] → (nget N s).key = k ∨ ((nget N s).key = [] ∧ Hld N m)
structure Gr (e : Bs → Prop) (N : NM) (l : List Bs) (M : NM) (r : List Bs) : Prop where
 le : Le N M
 held : ∀ s, Hld N s → Hld M s
 key : ∀ s, Hld N s → (nget M s).key = (nget N s).key
 heard : ∀ s, (nget M s).heard = (nget N s).heard
 clos : ∀ s, Hld M s → Hld N s ∨ e s ∨ Cl M s
 news : ∀ s, (M s).isSome = true → (N s).isSome = true ∨ s ∈ r
 newsH : ∀ s, Hld M s → Hld N s ∨ s ∈ r
 ext : ∀ s ∈ l, s ∈ r
 odd : ∀ s, (M s).isSome = true → ¬ Hld M s → ((N s).isSome = true ∧ ¬ Hld N s) ∨ ∃ x, Hld M x ∧ VK x ∧ pubRes x = (s, 0)
 kz : (∀ s, (nget N s).key ≠ [] → Hld N s) → ∀ s, (nget M s).key ≠ [] → Hld M s
theorem Cl.mono {N M : NM} {s : Bs} (h : Cl N s) (hl : Le N M) (hh : ∀ s, Hld N s → Hld M s) (hk : (nget M s).key = (nget N s).key) : Cl M s :=
 ⟨fun a k b => hh k (h.tup a k b), fun a b => hl _ (h.pub a b), fun a k m b => by
   rw [hk]
   exact (h.box a k m b).imp id (fun c => ⟨c.1, hh m c.2⟩)⟩
theorem Gr.refl (N : NM) (l : List Bs) : Gr (fun _ => False) N l N l :=
 ⟨fun _ h => h, fun _ h => h, fun _ _ => rfl, fun _ => rfl, fun _ h => Or.inl h, fun _ h => Or.inl h, fun _ h => Or.inl h, fun _ h => h, fun _ h h2 => Or.inl ⟨h, h2⟩, fun h => h⟩
theorem Gr.trans {e : Bs → Prop} {N M P : NM} {l r q : List Bs} (h : Gr e N l M r) (g : Gr (fun _ => False) M r P q) : Gr e N l P q where
 le := fun s a => g.le s (h.le s a)
 held := fun s a => g.held s (h.held s a)
 key := fun s a => (g.key s (h.held s a)).trans (h.key s a)
 heard := fun s => (g.heard s).trans (h.heard s)
 clos := fun s a => by
   rcases g.clos s a with b | b | b
   · rcases h.clos s b with c | c | c
     · exact Or.inl c
     · exact Or.inr (Or.inl c)
     · exact Or.inr (Or.inr (c.mono g.le g.held (g.key s b)))
   · exact absurd b (fun x => x)
   · exact Or.inr (Or.inr b)
 news := fun s a => by
   rcases g.news s a with b | b
   · exact (h.news s b).imp id (g.ext s)
   · exact Or.inr b
 newsH := fun s a => by
   rcases g.newsH s a with b | b
   · exact (h.newsH s b).imp id (g.ext s)
   · exact Or.inr b
 ext := fun s a => g.ext s (h.ext s a)
 odd := fun s a b => by
   rcases g.odd s a b with ⟨c, d⟩ | c
   · rcases h.odd s c d with x | ⟨x, hx, hv, hp⟩
     · exact Or.inl x
     · exact Or.inr ⟨x, g.held x hx, hv, hp⟩
   · exact Or.inr c
 kz := fun a => g.kz (h.kz a)
theorem Gr.done {e : Bs → Prop} {N M : NM} {l r : List Bs} (h : Gr e N l M r) (he : ∀ s, e s → Cl M s) : Gr (fun _ => False) N l M r :=
 ⟨h.le, h.held, h.key, h.heard, fun s a => by
   rcases h.clos s a with b | b | b
   · exact Or.inl b
   · exact Or.inr (Or.inr (he s b))
   · exact Or.inr (Or.inr b), h.news, h.newsH, h.ext, h.odd, h.kz⟩
theorem isSome_put (N : NM) (t : Bs) (n : Note) (s : Bs) : (nput N t n s).isSome = true ↔ s = t ∨ (N s).isSome = true := by
 unfold nput
 by_cases h : s = t <;> simp [h]
theorem noted_of_held {N : NM} {s : Bs} (h : Hld N s) : (N s).isSome = true := by
 unfold Hld nget at h
 cases hn : N s with
 | none => rw [hn] at h; cases h
 | some _ => rfl
theorem gr_put {N : NM} {l : List Bs} {t k : Bs} (h : ¬ Hld N t) : Gr (fun s => s = t) N l (nput N t ⟨(nget N t).heard, true, k⟩) (l ++ [t]) where
 le := fun s a => (isSome_put _ _ _ _).2 (Or.inr a)
 held := fun s a => by unfold Hld; rw [nget_put]; split; rfl; exact a
 key := fun s a => by
   have e : s ≠ t := fun e => h (by rw [← e]; exact a)
   rw [nget_put, if_neg e]
 heard := fun s => by
   rw [nget_put]
   split
   · rename_i e; rw [e]
   · rfl
 clos := fun s a => by
   unfold Hld at a
   rw [nget_put] at a
   by_cases e : s = t
   · exact Or.inr (Or.inl e)
   · rw [if_neg e] at a; exact Or.inl a
 news := fun s a => by
   rcases (isSome_put _ _ _ _).1 a with e | e
   · exact Or.inr (by simp [e])
   · exact Or.inl e
 newsH := fun s a => by
   unfold Hld at a
   rw [nget_put] at a
   by_cases e : s = t
   · exact Or.inr (by simp [e])
   · rw [if_neg e] at a; exact Or.inl a
 ext := fun s a => by simp [a]
 odd := fun s a b => by
   unfold Hld at b
   rw [nget_put] at b
   by_cases e : s = t
   · rw [if_pos e] at b; exact absurd rfl b
   · rw [if_neg e] at b
     rcases (isSome_put _ _ _ _).1 a with c | c
     · exact absurd c e
     · exact Or.inl ⟨c, b⟩
 kz := fun a s b => by
   unfold Hld
   rw [nget_put] at b ⊢
   by_cases e : s = t
   · rw [if_pos e]
   · rw [if_neg e] at b ⊢; exact a s b
theorem hld_put (N : NM) (t : Bs) (a : Bool) (k : Bs) : Hld (nput N t ⟨a, true, k⟩) t := by unfold Hld; rw [nget_put, if_pos rfl]
theorem gr_key {N : NM} {l : List Bs} {t : Bs} (ht : Hld N t) (hv : VK t) : Gr (fun _ => False) N l (takeKeyF (N, l) t).1 (takeKeyF (N, l) t).2 ∧ ((pubRes t).2 = 0 → ((takeKeyF (N, l) t).1 (pubRes t).1).isSome = true) := by
 unfold takeKeyF
 split
 · rename_i h
   refine ⟨Gr.refl N l, fun h0 => h.elim id (fun h1 => absurd h0 h1)⟩
 · rename_i h
   have hn : (N (pubRes t).1).isSome = false := by
     cases hq : (N (pubRes t).1).isSome with
     | false => rfl
     | true => exact absurd (Or.inl hq) h
   have hp0 : (pubRes t).2 = 0 := by
     by_cases hq : (pubRes t).2 = 0
     · exact hq
     · exact absurd (Or.inr hq) h
   have hnh : ¬ Hld N (pubRes t).1 := fun a => by rw [noted_of_held a] at hn; cases hn
   have hne : ∀ s, Hld N s → s ≠ (pubRes t).1 := fun s a e => hnh (by rw [← e]; exact a)
   have hsame : ∀ s, s ≠ (pubRes t).1 → nget (nput N (pubRes t).1 nz) s = nget N s := fun s e => by rw [nget_put, if_neg e]
   have hat : nget (nput N (pubRes t).1 nz) (pubRes t).1 = nz := by rw [nget_put, if_pos rfl]
   have hz : nget N (pubRes t).1 = nz := by
     unfold nget
     cases hq : N (pubRes t).1 with
     | none => rfl
     | some _ => rw [hq] at hn; cases hn
   have hall : ∀ s, nget (nput N (pubRes t).1 nz) s = nget N s := fun s => by
     by_cases e : s = (pubRes t).1
     · rw [e, hat, hz]
     · exact hsame s e
   refine ⟨⟨fun s a => (isSome_put _ _ _ _).2 (Or.inr a), fun s a => by unfold Hld; rw [hall]; exact a, fun s _ => by rw [hall], fun s => by rw [hall], fun s a => Or.inl (by unfold Hld at a; rw [hall] at a; exact a), fun s a => ?_, fun s a => Or.inl (by unfold Hld at a; rw [hall] at a; exact a), fun s a => by simp [a], fun s a b => ?_, fun a s b => ?_⟩, fun _ => (isSome_put _ _ _ _).2 (Or.inl rfl)⟩
   · rcases (isSome_put _ _ _ _).1 a with e | e
     · exact Or.inr (by simp [e])
     · exact Or.inl e
   · unfold Hld at b
     rw [hall] at b
     rcases (isSome_put _ _ _ _).1 a with e | e
     · exact Or.inr ⟨t, by unfold Hld; rw [hall]; exact ht, hv, by rw [e, ← hp0]⟩
     · exact Or.inl ⟨e, b⟩
   · unfold Hld
     rw [hall] at b ⊢
     exact a s b
theorem take_gr : ∀ (n : Nat) (N : NM) (l : List Bs) (t : Bs), Tm.deep t ≠ 0 → Tm.deep t ≤ n → Gr (fun _ => False) N l (takeF n (N, l) t).1 (takeF n (N, l) t).2 ∧ Hld (takeF n (N, l) t).1 t
 | 0, _, _, _, h, h0 => absurd (Nat.le_zero.1 h0) h
 | n + 1, N, l, t, h, hn => by
   rw [takeF]
   split
   · rename_i hh
     exact ⟨Gr.refl N l, hh⟩
   · rename_i hh
     split
     · rename_i ht
       have fold : ∀ (ks : List Bs) (s : NM × List Bs), (∀ k ∈ ks, Tm.deep k ≠ 0 ∧ Tm.deep k ≤ n) → Gr (fun _ => False) s.1 s.2 (ks.foldl (takeF n) s).1 (ks.foldl (takeF n) s).2 ∧ ∀ k ∈ ks, Hld (ks.foldl (takeF n) s).1 k := by
         intro ks
         induction ks with
         | nil => intro s _; exact ⟨Gr.refl _ _, fun _ h => by cases h⟩
         | cons k ks ih =>
           intro s hk
           obtain ⟨g1, g2⟩ := take_gr n s.1 s.2 k (hk k (by simp)).1 (hk k (by simp)).2
           obtain ⟨g3, g4⟩ := ih (takeF n s k) (fun x hx => hk x (by simp [hx]))
           refine ⟨g1.trans g3, fun x hx => ?_⟩
           rcases List.mem_cons.1 hx with e | e
           · subst e; exact g3.held _ g2
           · exact g4 x e
       obtain ⟨g1, g2⟩ := fold (Tm.kidsOf 63 t) (nput N t ⟨(nget N t).heard, true, (nget N t).key⟩, l ++ [t]) (fun k hk => by
         have := Tm.kids_right h hk
         exact ⟨this.1, by omega⟩)
       have g := (gr_put (l := l) (k := (nget N t).key) hh).trans g1
       refine ⟨g.done (fun s e => ?_), g1.held _ (hld_put _ _ _ _)⟩
       subst e
       exact ⟨fun _ k hk => g2 k hk, fun hv => by rcases hv with hv | hv <;> rw [ht] at hv <;> exact absurd hv (by decide), fun hb => by rw [ht] at hb; exact absurd hb (by decide)⟩
     · rename_i ht
       split
       · rename_i hv
         obtain ⟨g1, g2⟩ := gr_key (N := nput N t ⟨(nget N t).heard, true, (nget N t).key⟩) (l := l ++ [t]) (hld_put _ _ _ _) hv
         have g := (gr_put (l := l) (k := (nget N t).key) hh).trans g1
         refine ⟨g.done (fun s e => ?_), g1.held _ (hld_put _ _ _ _)⟩
         subst e
         exact ⟨fun a => absurd a ht, fun _ => g2, fun hb => by rcases hv with hv | hv <;> rw [hb] at hv <;> exact absurd hv (by decide)⟩
       · rename_i hv
         split
         · rename_i hb
           refine ⟨(gr_put (l := l) (k := (Tm.kidsOf 63 t).headD []) hh).done (fun s e => ?_), hld_put _ _ _ _⟩
           subst e
           refine ⟨fun a => absurd a ht, fun a => absurd a hv, fun _ k m hk => Or.inl ?_⟩
           rw [nget_put, if_pos rfl, hk]; rfl
         · rename_i hb
           refine ⟨(gr_put (l := l) (k := (nget N t).key) hh).done (fun s e => ?_), hld_put _ _ _ _⟩
           subst e
           exact ⟨fun a => absurd a ht, fun a => absurd a hv, fun a => absurd a hb⟩
end Go.Proofs.YtkifchjpgdmcoaaGreatDoor

/- What following does to the notes: at the end no key of a shut box can be made. -/
namespace Go.Proofs.YtkifchjpgdmcoaaGreatDoor
structure Sat (N : NM) : Prop where
 cl : ∀ s, Hld N s → Cl N s
 odd : ∀ s, (N s).isSome = true → ¬ Hld N s → ∃ x, Hld N x ∧ VK x ∧ pubRes x = (s, 0)
 kz : ∀ s, (nget N s).key ≠ [] → Hld N s
theorem Sat.gr {N M : NM} {l r : List Bs} (h : Sat N) (g : Gr (fun _ => False) N l M r) : Sat M where
 cl := fun s a => by
   rcases g.clos s a with b | b | b
   · exact (h.cl s b).mono g.le g.held (g.key s b)
   · exact absurd b (fun x => x)
   · exact b
 odd := fun s a b => by
   rcases g.odd s a b with ⟨c, d⟩ | c
   · obtain ⟨x, hx, hv⟩ := h.odd s c d
     exact ⟨x, g.held x hx, hv⟩
   · exact c
 kz := g.kz h.kz
structure Ps (N : NM) (l : List Bs) (M : NM) (r : List Bs) : Prop where
 le : Le N M
 held : ∀ s, Hld N s → Hld M s
 heard : ∀ s, (nget M s).heard = (nget N s).heard
 key : ∀ s, Hld N s → (nget M s).key = (nget N s).key ∨ (nget M s).key = []
 news : ∀ s, (M s).isSome = true → (N s).isSome = true ∨ s ∈ r
 newsH : ∀ s, Hld M s → Hld N s ∨ s ∈ r
 ext : ∀ s ∈ l, s ∈ r
theorem Ps.refl (N : NM) (l : List Bs) : Ps N l N l := ⟨fun _ h => h, fun _ h => h, fun _ => rfl, fun _ _ => Or.inl rfl, fun _ h => Or.inl h, fun _ h => Or.inl h, fun _ h => h⟩
theorem Ps.trans {N M P : NM} {l r q : List Bs} (h : Ps N l M r) (g : Ps M r P q) : Ps N l P q where
 le := fun s a => g.le s (h.le s a)
 held := fun s a => g.held s (h.held s a)
 heard := fun s => (g.heard s).trans (h.heard s)
 key := fun s a => by
   rcases g.key s (h.held s a) with b | b
   · rw [b]; exact h.key s a
   · exact Or.inr b
 news := fun s a => by
   rcases g.news s a with b | b
   · exact (h.news s b).imp id (g.ext s)
   · exact Or.inr b
 newsH := fun s a => by
   rcases g.newsH s a with b | b
   · exact (h.newsH s b).imp id (g.ext s)
   · exact Or.inr b
 ext := fun s a => g.ext s (h.ext s a)
theorem Gr.ps {N M : NM} {l r : List Bs} (g : Gr (fun _ => False) N l M r) : Ps N l M r := ⟨g.le, g.held, g.heard, fun s a => Or.inl (g.key s a), g.news, g.newsH, g.ext⟩
theorem open_ps {U : List Bs} (hU : Uni U) {N : NM} {l : List Bs} (hO : Ok U N) (h : Sat N) {box : Bs} (hb : box ∈ U) (hm : mkF N (nget N box).key = true) :
   Ps N l (openF (N, l) box).1 (openF (N, l) box).2 ∧ Sat (openF (N, l) box).1 ∧ (nget (openF (N, l) box).1 box).key = [] := by
 obtain ⟨hk, h66, m, hks⟩ := box_of hU hO hm
 have hd := hU.right box hb
 have hh := h.kz box hk
 have hub : (unboxRes (nget N box).key box).1 = m := by unfold unboxRes; rw [if_pos ⟨hd, h66⟩, hks]; simp
 have hE : openF (N, l) box = takeF 64 (nput N box ⟨(nget N box).heard, (nget N box).held, []⟩, l) m := by unfold openF; rw [hub]
 rw [hE]
 have hmr := Tm.kids_right hd (by rw [hks]; simp : m ∈ Tm.kidsOf 63 box)
 have hsome : ∀ s, (nput N box ⟨(nget N box).heard, (nget N box).held, []⟩ s).isSome = true ↔ (N s).isSome = true := fun s => by
   rw [isSome_put]
   exact ⟨fun a => a.elim (fun e => by rw [e]; exact noted_of_held hh) id, Or.inr⟩
 have hg : ∀ s, s ≠ box → nget (nput N box ⟨(nget N box).heard, (nget N box).held, []⟩) s = nget N s := fun s e => by rw [nget_put, if_neg e]
 have hgb : nget (nput N box ⟨(nget N box).heard, (nget N box).held, []⟩) box = ⟨(nget N box).heard, (nget N box).held, []⟩ := by rw [nget_put, if_pos rfl]
 have hhl : ∀ s, Hld (nput N box ⟨(nget N box).heard, (nget N box).held, []⟩) s ↔ Hld N s := fun s => by
   unfold Hld
   by_cases e : s = box
   · rw [e, hgb]
   · rw [hg s e]
 have hhd : ∀ s, (nget (nput N box ⟨(nget N box).heard, (nget N box).held, []⟩) s).heard = (nget N s).heard := fun s => by
   by_cases e : s = box
   · rw [e, hgb]
   · rw [hg s e]
 obtain ⟨g, gm⟩ := take_gr 64 (nput N box ⟨(nget N box).heard, (nget N box).held, []⟩) l m hmr.1 (Tm.deep_le _)
 generalize takeF 64 (nput N box ⟨(nget N box).heard, (nget N box).held, []⟩, l) m = R at g gm ⊢
 have hkb : (nget R.1 box).key = [] := by rw [g.key box ((hhl box).2 hh), hgb]
 have hkn : ∀ s, s ≠ box → Hld N s → (nget R.1 s).key = (nget N s).key := fun s e a => by rw [g.key s ((hhl s).2 a), hg s e]
 have hle : Le N R.1 := fun s a => g.le s ((hsome s).2 a)
 have hhe : ∀ s, Hld N s → Hld R.1 s := fun s a => g.held s ((hhl s).2 a)
 refine ⟨⟨hle, hhe, fun s => (g.heard s).trans (hhd s), fun s a => ?_, fun s a => (g.news s a).imp (hsome s).1 id, fun s a => (g.newsH s a).imp (hhl s).1 id, g.ext⟩, ⟨fun s a => ?_, fun s a b => ?_, g.kz (fun s a => ?_)⟩, hkb⟩
 · by_cases e : s = box
   · rw [e]; exact Or.inr hkb
   · exact Or.inl (hkn s e a)
 · rcases g.clos s a with b | b | b
   · by_cases e : s = box
     · subst e
       refine ⟨fun x => ?_, fun x => ?_, fun _ k m' hk' => Or.inr ⟨hkb, ?_⟩⟩
       · rw [h66] at x; exact absurd x (by decide)
       · rcases x with x | x <;> rw [h66] at x <;> exact absurd x (by decide)
       · rw [hks] at hk'
         simp at hk'
         rw [← hk'.2]; exact gm
     · exact (h.cl s ((hhl s).1 b)).mono hle hhe (hkn s e ((hhl s).1 b))
   · exact absurd b (fun x => x)
   · exact b
 · rcases g.odd s a b with ⟨c, d⟩ | c
   · obtain ⟨x, hx, hv⟩ := h.odd s ((hsome s).1 c) (fun y => d ((hhl s).2 y))
     exact ⟨x, hhe x hx, hv⟩
   · exact c
 · by_cases e : s = box
   · rw [e, hgb] at a; exact absurd rfl a
   · rw [hg s e] at a; exact (hhl s).2 (h.kz s a)
theorem pass_inv {U : List Bs} (hU : Uni U) (news : List Bs) : ∀ (bs : List Bs) (s : (NM × List Bs) × List Bs), Ok U s.1.1 → Sat s.1.1 → (∀ x ∈ bs, x ∈ U ∧ Hld s.1.1 x) →
   Ps s.1.1 s.1.2 (bs.foldl (passStep news) s).1.1 (bs.foldl (passStep news) s).1.2 ∧ Ok U (bs.foldl (passStep news) s).1.1 ∧ Sat (bs.foldl (passStep news) s).1.1 ∧ (∀ x ∈ s.2, x ∈ (bs.foldl (passStep news) s).2) ∧
   (∀ x ∈ (bs.foldl (passStep news) s).2, x ∈ s.2 ∨ x ∈ bs) ∧
   ∀ x ∈ bs, (nget (bs.foldl (passStep news) s).1.1 x).key = [] ∨ (x ∈ (bs.foldl (passStep news) s).2 ∧ ∃ C : NM, Le s.1.1 C ∧ (concernF news x && mkF C (nget C x).key) = false ∧ (nget C x).key = (nget (bs.foldl (passStep news) s).1.1 x).key) := by
 intro bs
 induction bs with
 | nil => intro s hO h _; exact ⟨Ps.refl _ _, hO, h, fun _ a => a, fun _ a => Or.inl a, fun _ a => by cases a⟩
 | cons b bs ih =>
   intro s hO h hb
   rw [List.foldl_cons]
   have hbU := (hb b (by simp)).1
   have hbH := (hb b (by simp)).2
   by_cases hc : (concernF news b && mkF s.1.1 (nget s.1.1 b).key) = true
   · have hst : passStep news s b = (openF s.1 b, s.2) := by unfold passStep; rw [if_pos hc]
     have hm : mkF s.1.1 (nget s.1.1 b).key = true := by rw [Bool.and_eq_true] at hc; exact hc.2
     obtain ⟨p1, p2, p3⟩ := open_ps (l := s.1.2) hU hO h hbU hm
     have hO2 := (openF_ok hU (l := s.1.2) hO hbU hm).1
     rw [hst]
     obtain ⟨q1, q2, q3, q4, q6, q5⟩ := ih (openF s.1 b, s.2) hO2 p2 (fun x hx => ⟨(hb x (by simp [hx])).1, p1.held x (hb x (by simp [hx])).2⟩)
     refine ⟨p1.trans q1, q2, q3, q4, fun x hx => (q6 x hx).imp id (by intro a; simp [a]), fun x hx => ?_⟩
     rcases List.mem_cons.1 hx with e | e
     · subst e
       left
       rcases q1.key _ (p1.held _ hbH) with a | a
       · rw [a]; exact p3
       · exact a
     · rcases q5 x e with a | ⟨a, C, hC, a2⟩
       · exact Or.inl a
       · exact Or.inr ⟨a, C, fun t ht => hC t (p1.le t ht), a2⟩
   · have hc' : (concernF news b && mkF s.1.1 (nget s.1.1 b).key) = false := by simpa using hc
     have hst : passStep news s b = (s.1, s.2 ++ [b]) := by unfold passStep; rw [if_neg hc]
     rw [hst]
     obtain ⟨q1, q2, q3, q4, q6, q5⟩ := ih (s.1, s.2 ++ [b]) hO h (fun x hx => hb x (by simp [hx]))
     refine ⟨q1, q2, q3, fun x hx => q4 x (by simp [hx]), fun x hx => ?_, fun x hx => ?_⟩
     · rcases q6 x hx with a | a
       · rcases List.mem_append.1 a with c | c
         · exact Or.inl c
         · right; simp at c; simp [c]
       · right; simp [a]
     · rcases List.mem_cons.1 hx with e | e
       · subst e
         rcases q1.key _ hbH with a | a
         · exact Or.inr ⟨q4 _ (by simp), s.1.1, fun _ t => t, hc', a.symm⟩
         · exact Or.inl a
       · exact q5 x e
theorem pass_P {U : List Bs} (hU : Uni U) (news : List Bs) {P : NM → Prop} (hP : ∀ (N : NM) (l : List Bs) (box : Bs), Ok U N → Sat N → box ∈ U → mkF N (nget N box).key = true → P N → P (openF (N, l) box).1) :
   ∀ (bs : List Bs) (s : (NM × List Bs) × List Bs), Ok U s.1.1 → Sat s.1.1 → (∀ x ∈ bs, x ∈ U) → P s.1.1 → P (bs.foldl (passStep news) s).1.1 := by
 intro bs
 induction bs with
 | nil => intro s _ _ _ h; exact h
 | cons b bs ih =>
   intro s hO h hb hp
   rw [List.foldl_cons]
   have hbU := hb b (by simp)
   by_cases hc : (concernF news b && mkF s.1.1 (nget s.1.1 b).key) = true
   · have hst : passStep news s b = (openF s.1 b, s.2) := by unfold passStep; rw [if_pos hc]
     have hm : mkF s.1.1 (nget s.1.1 b).key = true := by rw [Bool.and_eq_true] at hc; exact hc.2
     rw [hst]
     exact ih (openF s.1 b, s.2) (openF_ok hU (l := s.1.2) hO hbU hm).1 (open_ps (l := s.1.2) hU hO h hbU hm).2.1 (fun x hx => hb x (by simp [hx])) (hP s.1.1 s.1.2 b hO h hbU hm hp)
   · have hst : passStep news s b = (s.1, s.2 ++ [b]) := by unfold passStep; rw [if_neg hc]
     rw [hst]
     exact ih (s.1, s.2 ++ [b]) hO h (fun x hx => hb x (by simp [hx])) hp
structure Fv (U : List Bs) (N : NM) (news shut : List Bs) : Prop where
 ok : Ok U N
 sat : Sat N
 su : ∀ x ∈ shut, x ∈ U ∧ Hld N x
 nu : ∀ x ∈ news, x ∈ U
 cover : ∀ s, (nget N s).key ≠ [] → s ∈ shut ∨ s ∈ news
 wait : ∀ s, (nget N s).key ≠ [] → s ∉ news → mkF (minus N news) (nget N s).key = false
def Shut (N : NM) : Prop := ∀ s, (nget N s).key ≠ [] → mkF N (nget N s).key = false
theorem mk_less {N M : NM} (h : Le N M) {t : Bs} (hm : mkF M t = false) : mkF N t = false := by
 cases hq : mkF N t with
 | false => rfl
 | true => rw [mk_mono h hq] at hm; cases hm
theorem follow_inv {U : List Bs} (hU : Uni U) {P : NM → Prop} (hP : ∀ (N : NM) (l : List Bs) (box : Bs), Ok U N → Sat N → box ∈ U → mkF N (nget N box).key = true → P N → P (openF (N, l) box).1) {N : NM} {news shut : List Bs} {M : NM} (h : Follow N news shut M) : Fv U N news shut → P N → (∃ l r, Ps N l M r) ∧ Sat M ∧ Ok U M ∧ Shut M ∧ P M := by
 induction h with
 | done N shut =>
   intro hv hp
   refine ⟨⟨[], [], Ps.refl _ _⟩, hv.sat, hv.ok, fun s hs => ?_, hp⟩
   have := hv.wait s hs (by simp)
   have e : minus N [] = N := by funext t; simp [minus]
   rw [e] at this
   exact this
 | @step N news shut M hn _ ih =>
   intro hv hp
   have hbs : ∀ x ∈ shut ++ boxesF N news, x ∈ U ∧ Hld N x := fun x hx => by
     rcases List.mem_append.1 hx with a | a
     · exact hv.su x a
     · have a' := List.mem_filter.1 a
       exact ⟨hv.nu x a'.1, hv.sat.kz x (by simpa using a'.2)⟩
   obtain ⟨p1, p2, p3, _, p6, p5⟩ := pass_inv hU news (shut ++ boxesF N news) ((N, []), []) hv.ok hv.sat hbs
   have pm := pass_mem hU news (shut ++ boxesF N news) ((N, []), []) (fun x hx => (hbs x hx).1) hv.ok (by simp) (by simp)
   have hp2 := pass_P hU news hP (shut ++ boxesF N news) ((N, []), []) hv.ok hv.sat (fun x hx => (hbs x hx).1) hp
   generalize (shut ++ boxesF N news).foldl (passStep news) ((N, []), []) = R at *
   simp only at p1 p5 p6
   have hle : Le (minus R.1.1 R.1.2) N := fun t ht => by
     unfold minus at ht
     split at ht
     · cases ht
     · rename_i hx
       rcases p1.news t ht with a | a
       · exact a
       · exact absurd a hx
   have hfate : ∀ s, (nget R.1.1 s).key ≠ [] → Hld N s → s ∈ R.2 ∧ mkF (minus R.1.1 R.1.2) (nget R.1.1 s).key = false := by
     intro s hs hh
     have hkey : (nget R.1.1 s).key = (nget N s).key := (p1.key s hh).elim id (fun a => absurd a hs)
     have hkN : (nget N s).key ≠ [] := by rw [← hkey]; exact hs
     have hin : s ∈ shut ++ boxesF N news := by
       rcases hv.cover s hkN with a | a
       · simp [a]
       · exact List.mem_append.2 (Or.inr (List.mem_filter.2 ⟨a, by simpa using hkN⟩))
     rcases p5 s hin with a | ⟨a, C, hC, hcm, hkC⟩
     · exact absurd a hs
     · refine ⟨a, ?_⟩
       rw [Bool.and_eq_false_iff] at hcm
       rcases hcm with hcf | hmf
       · have hsn : s ∉ news := fun hx => by
           unfold concernF at hcf
           rw [Bool.or_eq_false_iff] at hcf
           have := List.any_eq_false.1 hcf.2 s hx
           rw [contains_sub (bare_sub s)] at this
           exact absurd rfl this
         obtain ⟨h66, m, hks⟩ := hv.ok.key s hkN
         have hsub : Sub (nget N s).key s := Sub.kid (hU.right s (hbs s hin).1) (by rw [hks]; simp)
         rw [hkey]
         exact mk_less hle (concern_new hsub hcf (hv.wait s hkN hsn))
       · rw [← hkC]
         exact mk_less (fun t ht => hC t (hle t ht)) hmf
   have hv2 : Fv U R.1.1 R.1.2 R.2 := by
     refine ⟨p2, p3, fun x hx => ?_, pm.1, fun s hs => ?_, fun s hs hx => ?_⟩
     · have := p6 x hx
       rcases this with a | a
       · cases a
       · exact ⟨(hbs x a).1, p1.held x (hbs x a).2⟩
     · by_cases hh : Hld N s
       · exact Or.inl (hfate s hs hh).1
       · rcases p1.newsH s (p3.kz s hs) with a | a
         · exact absurd a hh
         · exact Or.inr a
     · by_cases hh : Hld N s
       · exact (hfate s hs hh).2
       · rcases p1.newsH s (p3.kz s hs) with a | a
         · exact absurd a hh
         · exact absurd a hx
   obtain ⟨⟨l, r, q1⟩, q2, q3, q4⟩ := ih hv2 hp2
   refine ⟨⟨[], R.1.2 ++ r, ?_⟩, q2, q3, q4⟩
   exact ⟨fun t a => q1.le t (p1.le t a), fun t a => q1.held t (p1.held t a), fun t => (q1.heard t).trans (p1.heard t), fun t a => by
         rcases q1.key t (p1.held t a) with b | b
         · rw [b]; exact p1.key t a
         · exact Or.inr b, fun t a => by
         rcases q1.news t a with b | b
         · exact (p1.news t b).imp id (by intro c; simp [c])
         · exact Or.inr (by simp [b]), fun t a => by
         rcases q1.newsH t a with b | b
         · exact (p1.newsH t b).imp id (by intro c; simp [c])
         · exact Or.inr (by simp [b]), fun t a => by cases a⟩
theorem learn_inv {U : List Bs} (hU : Uni U) {N : NM} (hO : Ok U N) (hS : Sat N) (hZ : Shut N) {t : Bs} (ht : t ∈ U) {L : List (Bs × Note)} (hL : Over N L) {M : NM}
   (h : Follow (takeF 64 (N, []) t).1 (takeF 64 (N, []) t).2 (shutL L) M) {P : NM → Prop} (hP : ∀ (N : NM) (l : List Bs) (box : Bs), Ok U N → Sat N → box ∈ U → mkF N (nget N box).key = true → P N → P (openF (N, l) box).1) (hp : P (takeF 64 (N, []) t).1) :
   (∃ l r, Ps N l M r) ∧ Sat M ∧ Ok U M ∧ Shut M ∧ Hld M t ∧ P M := by
 obtain ⟨g, gt⟩ := take_gr 64 N [] t (hU.right t ht) (Tm.deep_le _)
 have hO1 : Ok U (takeF 64 (N, []) t).1 := ⟨(take_bound hU 64 N [] t hO.dom ht).1, takeF_key hU 64 N [] t ht hO.key⟩
 have hmem := takeF_mem hU 64 N [] t ht (by simp)
 generalize takeF 64 (N, []) t = R at *
 have hsh : ∀ x, x ∈ shutL L ↔ (nget N x).key ≠ [] := fun x => by
   unfold shutL
   rw [List.mem_map]
   constructor
   · rintro ⟨y, hy, rfl⟩
     have hy' := List.mem_filter.1 hy
     have := (hL.mem y.1 y.2).1 hy'.1
     rw [nget, this]
     simpa using hy'.2
   · intro hk
     cases hn : N x with
     | none => rw [nget, hn] at hk; exact absurd rfl hk
     | some n => exact ⟨(x, n), List.mem_filter.2 ⟨(hL.mem x n).2 hn, by rw [nget, hn] at hk; simpa using hk⟩, rfl⟩
 have hv : Fv U R.1 R.2 (shutL L) := by
   refine ⟨hO1, hS.gr g, fun x hx => ?_, hmem, fun s hs => ?_, fun s hs hx => ?_⟩
   · have h1 := hS.kz x ((hsh x).1 hx)
     exact ⟨hO.dom x (noted_of_held h1), g.held x h1⟩
   · rcases g.newsH s ((hS.gr g).kz s hs) with a | a
     · left; rw [hsh, ← g.key s a]; exact hs
     · exact Or.inr a
   · rcases g.newsH s ((hS.gr g).kz s hs) with a | a
     · rw [g.key s a] at hs ⊢
       refine mk_less (fun z hz => ?_) (hZ s hs)
       unfold minus at hz
       split at hz
       · cases hz
       · rename_i hx2
         exact (g.news z hz).elim id (fun c => absurd c hx2)
     · exact absurd a hx
 obtain ⟨⟨l, r, q1⟩, q2, q3, q4, q5⟩ := follow_inv hU hP h hv hp
 refine ⟨⟨[], R.2 ++ r, ?_⟩, q2, q3, q4, q1.held _ gt, q5⟩
 have p1 := g.ps
 exact ⟨fun t a => q1.le t (p1.le t a), fun t a => q1.held t (p1.held t a), fun t => (q1.heard t).trans (p1.heard t), fun t a => by
     rcases q1.key t (p1.held t a) with b | b
     · rw [b]; exact p1.key t a
     · exact Or.inr b, fun t a => by
     rcases q1.news t a with b | b
     · exact (p1.news t b).imp id (by intro c; simp [c])
     · exact Or.inr (by simp [b]), fun t a => by
     rcases q1.newsH t a with b | b
     · exact (p1.newsH t b).imp id (by intro c; simp [c])
     · exact Or.inr (by simp [b]), fun t a => by cases a⟩
end Go.Proofs.YtkifchjpgdmcoaaGreatDoor

/- What can be made of what was heard, as the document's rules say it; that a mind's notes tell just that. -/
namespace Go.Proofs.YtkifchjpgdmcoaaGreatDoor
theorem kids_of_two {c : UInt8} {a b : Nat} {p q : Bs} (hp : Tm.Is a p) (hq : Tm.Is b q) (ha : a ≤ 63) (hb : b ≤ 63) (c1 : c ≠ 110) (c2 : c ≠ 116) (c3 : c ≠ 84) (c4 : c ≠ 80) (c5 : c ≠ 72) : Tm.kidsOf 63 (c :: (p ++ q)) = [p, q] := by
 show (if c = 84 then Tm.tupleK (Tm.rd 63) (p ++ q) else if c = 80 ∨ c = 72 then Tm.kids1 (Tm.rd 63) (p ++ q) else if c = 110 ∨ c = 116 then [] else Tm.kids2 (Tm.rd 63) (p ++ q)) = _
 rw [if_neg c3, if_neg (by simp [c4, c5]), if_neg (by simp [c1, c2])]
 have h1 := hp.2.2 63 q ha
 have h2 := hq.2.2 63 [] hb
 rw [List.append_nil] at h2
 have e1 := Tm.used_app p q
 have e2 := Tm.used_app q []
 rw [List.append_nil] at e2
 unfold Tm.kids2 Tm.twoA
 rw [h1]
 simp only [h2, e1, e2]
theorem pub_kid {b : Bs} (h : Tm.deep (80 :: b) ≠ 0) : Tm.kidsOf 63 (80 :: b) = [b] ∧ Tm.deep b ≠ 0 ∧ b.head? ≠ some 86 ∧ b.head? ≠ some 75 := by
 obtain ⟨hi, hl⟩ := Tm.deep_is h
 have hr := hi.2.2 64 [] (Tm.deep_le _)
 rw [List.append_nil, Tm.rd_cons, if_neg (by decide), if_neg (by decide), if_neg (by decide), if_pos rfl] at hr
 unfold Tm.pubA at hr
 match hg : Tm.rd 63 b with
 | none => rw [hg] at hr; cases hr
 | some (d, r) =>
   rw [hg] at hr
   simp only at hr
   split at hr
   · cases hr
   · rename_i hn
     simp at hr
     obtain ⟨hd, hr⟩ := hr
     subst hr
     have hk : Tm.kidsOf 63 (80 :: b) = [b] := by
       show Tm.kids1 (Tm.rd 63) b = _
       unfold Tm.kids1
       have e1 := Tm.used_app b []
       rw [List.append_nil] at e1
       rw [hg]
       simp only [e1]
     exact ⟨hk, (Tm.kids_right h (by rw [hk]; simp : b ∈ _)).1, fun e => hn (Or.inl e), fun e => hn (Or.inr e)⟩
theorem pub_of_plain {b : Bs} (h : Tm.deep (80 :: b) ≠ 0) : pubRes b = (80 :: b, 0) := by
 obtain ⟨_, hb, h1, h2⟩ := pub_kid h
 have e : Tm.pk b = 80 :: b := Tm.pk_else (Tm.deep_is hb).1 (Tm.deep_le _) h1 h2
 unfold pubRes
 rw [if_neg hb, e, if_neg h]
theorem pub_right {x : Bs} (h : (pubRes x).2 = 0) : Tm.deep x ≠ 0 ∧ Tm.deep (Tm.pk x) ≠ 0 ∧ (pubRes x).1 = Tm.pk x := by
 unfold pubRes at h ⊢
 by_cases h1 : Tm.deep x = 0
 · rw [if_pos h1] at h; cases h
 · rw [if_neg h1] at h ⊢
   by_cases h2 : Tm.deep (Tm.pk x) = 0
   · rw [if_pos h2] at h; cases h
   · rw [if_neg h2]; exact ⟨h1, h2, rfl⟩
theorem pub_ok {x : Bs} (h1 : Tm.deep x ≠ 0) (h2 : Tm.deep (Tm.pk x) ≠ 0) : pubRes x = (Tm.pk x, 0) := by unfold pubRes; rw [if_neg h1, if_neg h2]
theorem pub_head {x : Bs} (h : (pubRes x).2 = 0) : Tm.isPk (pubRes x).1.head? = true := by
 obtain ⟨h1, _, h3⟩ := pub_right h
 rw [h3]
 exact (Tm.pk_of (Tm.deep_is h1).1 (Tm.deep_le _)).2.2.2
theorem two_parts {c : UInt8} {l : Bs} (h : Tm.deep (c :: l) ≠ 0) (hc : c = 86 ∨ c = 75) : ∃ p q, l = p ++ q ∧ Tm.deep p ≠ 0 ∧ Tm.deep q ≠ 0 ∧ Tm.deep p ≤ 63 ∧ Tm.deep q ≤ 63 ∧ Tm.kidsOf 63 (c :: l) = [p, q] := by
 obtain ⟨hi, hl⟩ := Tm.deep_is h
 have hr := hi.2.2 64 [] (Tm.deep_le _)
 rw [List.append_nil, Tm.rd_cons, if_neg (by rcases hc with h | h <;> rw [h] <;> decide), if_neg (by rcases hc with h | h <;> rw [h] <;> decide), if_neg (by rcases hc with h | h <;> rw [h] <;> decide), if_neg (by rcases hc with h | h <;> rw [h] <;> decide), if_neg (by rcases hc with h | h <;> rw [h] <;> decide), if_pos (by rcases hc with h | h <;> rw [h] <;> decide)] at hr
 unfold Tm.two2 Tm.twoA at hr
 match hg : Tm.rd 63 l with
 | none => rw [hg] at hr; cases hr
 | some (d, r) =>
   rw [hg] at hr
   simp only at hr
   match hg2 : Tm.rd 63 r with
   | none => rw [hg2] at hr; cases hr
   | some (e, r') =>
     rw [hg2] at hr
     simp only [Option.some.injEq, Prod.mk.injEq] at hr
     obtain ⟨_, hr⟩ := hr
     subst hr
     obtain ⟨p, rfl, _⟩ := rd_front l d r hg
     have ek : Tm.kidsOf 63 (c :: (p ++ r)) = [p, r] := by
       have e1 := Tm.used_app p r
       have e2 := Tm.used_app r []
       rw [List.append_nil] at e2
       show (if c = 84 then Tm.tupleK (Tm.rd 63) (p ++ r) else if c = 80 ∨ c = 72 then Tm.kids1 (Tm.rd 63) (p ++ r) else if c = 110 ∨ c = 116 then [] else Tm.kids2 (Tm.rd 63) (p ++ r)) = _
       rw [if_neg (by rcases hc with h | h <;> rw [h] <;> decide), if_neg (by rcases hc with h | h <;> rw [h] <;> decide), if_neg (by rcases hc with h | h <;> rw [h] <;> decide)]
       unfold Tm.kids2 Tm.twoA
       rw [hg]
       simp only [hg2, e1, e2]
     have k1 := Tm.kids_right h (by rw [ek]; simp : p ∈ _)
     have k2 := Tm.kids_right h (by rw [ek]; simp : r ∈ _)
     have h64 := Tm.deep_le (c :: (p ++ r))
     exact ⟨p, r, rfl, k1.1, k2.1, by omega, by omega, ek⟩
theorem is_uniq {a n d : Nat} {p x r : Bs} (hp : Tm.Is a p) (h : Tm.rd n (p ++ x) = some (d, r)) : d = a ∧ r = x ∧ a ≤ n := by
 obtain ⟨p', e, _, hi⟩ := Tm.rd_good n _ _ _ h
 have h1 := hp.2.2 (max a d) x (by omega)
 have h2 := hi.2.2 (max a d) r (by omega)
 rw [← e, h1] at h2
 simp only [Option.some.injEq, Prod.mk.injEq] at h2
 have := (Tm.rd_len h).2.2.1
 exact ⟨h2.1.symm, h2.2.symm, by omega⟩
theorem joint_kids {c : UInt8} {a b : Nat} {p q : Bs} (h : Tm.deep (c :: (p ++ q)) ≠ 0) (hc : c = 87 ∨ c = 76) (hp : Tm.Is a p) (hq : Tm.Is b q) : Tm.kidsOf 63 (c :: (p ++ q)) = [p, q] := by
 obtain ⟨hi, _⟩ := Tm.deep_is h
 have hr := hi.2.2 64 [] (Tm.deep_le _)
 rw [List.append_nil, Tm.rd_cons, if_neg (by rcases hc with h | h <;> rw [h] <;> decide), if_neg (by rcases hc with h | h <;> rw [h] <;> decide), if_neg (by rcases hc with h | h <;> rw [h] <;> decide), if_neg (by rcases hc with h | h <;> rw [h] <;> decide), if_neg (by rcases hc with h | h <;> rw [h] <;> decide), if_neg (by rcases hc with h | h <;> rw [h] <;> decide), if_neg (by rcases hc with h | h <;> rw [h] <;> decide)] at hr
 have hs : ∃ z, Tm.twoA (Tm.rd 63) (p ++ q) = some z := by
   cases ht : Tm.twoA (Tm.rd 63) (p ++ q) with
   | some z => exact ⟨z, rfl⟩
   | none =>
     unfold Tm.jointA Tm.boundA at hr
     rw [ht] at hr
     rcases hc with e | e
     · rw [if_pos e] at hr; cases hr
     · rw [if_neg (by rw [e]; decide), if_pos e] at hr; cases hr
 obtain ⟨z, hz⟩ := hs
 unfold Tm.twoA at hz
 match hg : Tm.rd 63 (p ++ q) with
 | none => rw [hg] at hz; cases hz
 | some (d, r) =>
   obtain ⟨_, e2, e3⟩ := is_uniq hp hg
   subst e2
   rw [hg] at hz
   simp only at hz
   match hg2 : Tm.rd 63 r with
   | none => rw [hg2] at hz; cases hz
   | some (d2, r2) =>
     have hg3 : Tm.rd 63 (r ++ []) = some (d2, r2) := by rw [List.append_nil]; exact hg2
     obtain ⟨_, _, e4⟩ := is_uniq hq hg3
     exact kids_of_two hp hq e3 e4 (by rcases hc with h | h <;> rw [h] <;> decide) (by rcases hc with h | h <;> rw [h] <;> decide) (by rcases hc with h | h <;> rw [h] <;> decide) (by rcases hc with h | h <;> rw [h] <;> decide) (by rcases hc with h | h <;> rw [h] <;> decide)
inductive Can (H : Bs → Prop) : Bs → Prop
 | heard {t : Bs} : H t → Can H t
 | whole {t : Bs} : Tm.deep t ≠ 0 → t.head? ≠ some 110 → t.head? ≠ some 88 → (∀ k ∈ Tm.kidsOf 63 t, Can H k) → Can H t
 | agree1 {t a b : Bs} : Tm.deep t ≠ 0 → t.head? = some 88 → Tm.kidsOf 63 t = [a, b] → Can H a → Tm.deep (80 :: b) ≠ 0 → Can H (80 :: b) → Can H t
 | agree2 {t a b : Bs} : Tm.deep t ≠ 0 → t.head? = some 88 → Tm.kidsOf 63 t = [a, b] → Can H b → Tm.deep (80 :: a) ≠ 0 → Can H (80 :: a) → Can H t
 | pub {x : Bs} : Can H x → (pubRes x).2 = 0 → Can H (pubRes x).1
 | part {t k : Bs} : Can H t → t.head? = some 84 → k ∈ Tm.kidsOf 63 t → Can H k
 | opened {t k m : Bs} : Can H t → t.head? = some 66 → Tm.kidsOf 63 t = [k, m] → Can H k → Can H m
inductive Hd (H : Bs → Prop) : Bs → Prop
 | heard {t : Bs} : H t → Hd H t
 | part {t k : Bs} : Hd H t → t.head? = some 84 → k ∈ Tm.kidsOf 63 t → Hd H k
 | opened {t k m : Bs} : Hd H t → t.head? = some 66 → Tm.kidsOf 63 t = [k, m] → Can H k → Hd H m
theorem Hd.can {H : Bs → Prop} {t : Bs} (h : Hd H t) : Can H t := by
 induction h with
 | heard h => exact .heard h
 | part _ h1 h2 ih => exact .part ih h1 h2
 | opened _ h1 h2 h3 ih => exact .opened ih h1 h2 h3
theorem mk_can {H : Bs → Prop} {N : NM} (hN : ∀ s, (N s).isSome = true → Can H s) : ∀ (n : Nat) (t : Bs), t.length ≤ n → mkF N t = true → Can H t := by
 intro n
 induction n with
 | zero =>
   intro t ht hm
   have e : t = [] := List.length_eq_zero_iff.1 (by omega)
   subst e
   rw [mkF_wrong N (by rfl)] at hm
   exact hN _ hm
 | succ n ih =>
   intro t ht hm
   by_cases hq : (N t).isSome = true
   · exact hN _ hq
   · by_cases h0 : Tm.deep t = 0
     · rw [mkF_wrong N h0] at hm; exact absurd hm hq
     · have hlk : ∀ k ∈ Tm.kidsOf 63 t, mkF N k = true → Can H k := fun k hk => ih k (by have := (Tm.kids_right h0 hk).2.2.1; omega)
       by_cases h1 : t.head? = some 110
       · rw [mkF_name N h1] at hm; exact absurd hm hq
       · by_cases h2 : t.head? = some 88
         · obtain ⟨a, b, hk⟩ := agree_kids h0 h2
           rw [mkF_agree N h0 h2 hk] at hm
           rw [hk] at hlk
           have one : ∀ y, (mkF N y = true → Can H y) → hasKeyF N y (mkF N y) = true → Tm.deep (80 :: y) ≠ 0 ∧ Can H (80 :: y) := by
             intro y hy hh
             unfold hasKeyF at hh
             simp only [Bool.and_eq_true, Bool.or_eq_true] at hh
             have e0 : (pubRes y).2 = 0 := by simpa using hh.1.1
             have e := pub_plain e0 (by simpa using hh.1.2)
             have hr := pub_right e0
             refine ⟨by rw [← e, hr.2.2]; exact hr.2.1, ?_⟩
             rcases hh.2 with a | a
             · have := Can.pub (hy a) e0
               rw [e] at this
               exact this
             · rw [e] at a; exact hN _ a
           simp only [Bool.or_eq_true, Bool.and_eq_true] at hm
           rcases hm with hm | hm | hm
           · exact absurd hm hq
           · have := one b (hlk b (by simp)) hm.2
             exact .agree1 h0 h2 hk (hlk a (by simp) hm.1) this.1 this.2
           · have := one a (hlk a (by simp)) hm.2
             exact .agree2 h0 h2 hk (hlk b (by simp) hm.1) this.1 this.2
         · rw [mkF_else N h0 h1 h2] at hm
           simp only [Bool.or_eq_true, List.all_eq_true] at hm
           rcases hm with hm | hm
           · exact absurd hm hq
           · exact .whole h0 h1 h2 (fun k hk => hlk k hk (hm k hk))
structure Full (N : NM) : Prop where
 sat : Sat N
 shut : Shut N
 right : ∀ s, (N s).isSome = true → Tm.deep s ≠ 0
theorem Full.mk_right {N : NM} (h : Full N) {t : Bs} (hm : mkF N t = true) : Tm.deep t ≠ 0 := fun h0 => by
 rw [mkF_wrong N h0] at hm
 exact h.right t hm h0
theorem Full.held {N : NM} (h : Full N) {t : Bs} (hn : (N t).isSome = true) (hp : Tm.isPk t.head? = false) : Hld N t := by
 apply Classical.byContradiction
 intro hh
 obtain ⟨x, _, _, hx⟩ := h.sat.odd t hn hh
 have := pub_head (x := x) (by rw [hx])
 rw [hx, hp] at this
 cases this
theorem Full.pub {N : NM} (h : Full N) : ∀ (n : Nat) (x : Bs), x.length ≤ n → (pubRes x).2 = 0 → mkF N x = true → mkF N (pubRes x).1 = true := by
 intro n
 induction n with
 | zero =>
   intro x hx h0 _
   have e : x = [] := List.length_eq_zero_iff.1 (by omega)
   subst e
   exact absurd rfl (pub_right h0).1
 | succ n ih =>
   intro x hx h0 hm
   obtain ⟨hr, hpr, he⟩ := pub_right h0
   have two : ∀ (c : UInt8) (l : Bs), x = c :: l → VK x → (∀ p q, l = p ++ q → mkF N p = true → mkF N q = true → Tm.deep p ≠ 0 → Tm.deep q ≠ 0 → Tm.deep p ≤ 63 → Tm.deep q ≤ 63 → Tm.kidsOf 63 x = [p, q] → mkF N (Tm.pk x) = true) → mkF N (pubRes x).1 = true := by
     intro c l hxl hv hcase
     have hc : c = 86 ∨ c = 75 := by rw [hxl] at hv; simpa [VK] using hv
     have hnp : Tm.isPk x.head? = false := by rw [hxl]; rcases hc with e | e <;> rw [e] <;> rfl
     by_cases hn : (N x).isSome = true
     · exact mkF_noted N ((h.sat.cl x (h.held hn hnp)).pub hv h0)
     · rw [hxl] at hr
       obtain ⟨p, q, hl, hp, hq, hp3, hq3, hk⟩ := two_parts hr hc
       rw [← hxl] at hk hr
       rw [mkF_else N hr (by rw [hxl]; rcases hc with e | e <;> simp [e]) (by rw [hxl]; rcases hc with e | e <;> simp [e])] at hm
       simp only [Bool.or_eq_true, List.all_eq_true] at hm
       rcases hm with hm | hm
       · exact absurd hm hn
       · rw [hk] at hm
         rw [he]
         exact hcase p q hl (hm p (by simp)) (hm q (by simp)) hp hq hp3 hq3 hk
   by_cases h1 : x.head? = some 86
   · match x, h1 with
     | c :: l, h1 =>
       simp at h1
       subst h1
       refine two 86 l rfl (Or.inl rfl) (fun p q hl mp mq hp hq hp3 hq3 hk => ?_)
       subst hl
       have ip := (Tm.deep_is hp).1
       have iq := (Tm.deep_is hq).1
       have e := Tm.pk_join ip iq (by omega) (by omega)
       rw [e] at hpr ⊢
       obtain ⟨_, ⟨dp, ipp, hdp⟩, _, _⟩ := Tm.pk_of ip (by omega)
       obtain ⟨_, ⟨dq, iqq, hdq⟩, _, _⟩ := Tm.pk_of iq (by omega)
       have hkk := joint_kids hpr (Or.inl rfl) ipp iqq
       have rp := (Tm.kids_right hpr (by rw [hkk]; simp : Tm.pk p ∈ _)).1
       have rq := (Tm.kids_right hpr (by rw [hkk]; simp : Tm.pk q ∈ _)).1
       have kp := ih p (by simp at hx; omega) (by rw [pub_ok hp rp]) mp
       have kq := ih q (by simp at hx; omega) (by rw [pub_ok hq rq]) mq
       rw [pub_ok hp rp] at kp
       rw [pub_ok hq rq] at kq
       rw [mkF_else N hpr (by simp) (by simp), hkk]
       simp [kp, kq]
   · by_cases h2 : x.head? = some 75
     · match x, h2 with
       | c :: l, h2 =>
         simp at h2
         subst h2
         refine two 75 l rfl (Or.inr rfl) (fun p q hl mp mq hp hq hp3 hq3 hk => ?_)
         subst hl
         have ip := (Tm.deep_is hp).1
         have iq := (Tm.deep_is hq).1
         have e := Tm.pk_bind ip iq (by omega) (by omega)
         rw [e] at hpr ⊢
         obtain ⟨_, ⟨dp, ipp, hdp⟩, _, _⟩ := Tm.pk_of ip (by omega)
         have hkk := joint_kids hpr (Or.inr rfl) ipp iq
         have rp := (Tm.kids_right hpr (by rw [hkk]; simp : Tm.pk p ∈ _)).1
         have kp := ih p (by simp at hx; omega) (by rw [pub_ok hp rp]) mp
         rw [pub_ok hp rp] at kp
         rw [mkF_else N hpr (by simp) (by simp), hkk]
         simp [kp, mq]
     · have e := Tm.pk_else (Tm.deep_is hr).1 (Tm.deep_le _) h1 h2
       rw [he, e]
       rw [e] at hpr
       rw [mkF_else N hpr (by simp) (by simp), (pub_kid hpr).1]
       simp [hm]
theorem can_mk {H : Bs → Prop} {N : NM} (h : Full N) (hH : ∀ t, H t → (N t).isSome = true) {t : Bs} (hc : Can H t) : mkF N t = true := by
 have key : ∀ y, Tm.deep (80 :: y) ≠ 0 → mkF N (80 :: y) = true → hasKeyF N y (mkF N y) = true := by
   intro y hd hm
   rw [mkF_else N hd (by simp) (by simp), (pub_kid hd).1] at hm
   unfold hasKeyF
   rw [pub_of_plain hd]
   simp at hm ⊢
   exact hm.symm
 induction hc with
 | heard a => exact mkF_noted N (hH _ a)
 | whole h0 h1 h2 _ ih =>
   rw [mkF_else N h0 h1 h2, Bool.or_eq_true, List.all_eq_true]
   exact Or.inr ih
 | agree1 h0 h2 hk _ hd _ ih1 ih2 =>
   rw [mkF_agree N h0 h2 hk, ih1, key _ hd ih2]
   simp
 | agree2 h0 h2 hk _ hd _ ih1 ih2 =>
   rw [mkF_agree N h0 h2 hk, ih1, key _ hd ih2]
   simp
 | pub _ h0 ih => exact h.pub _ _ (Nat.le_refl _) h0 ih
 | @part t k _ ht hk ih =>
   have h0 := h.mk_right ih
   by_cases hn : (N t).isSome = true
   · exact mkF_noted N (noted_of_held ((h.sat.cl t (h.held hn (by rw [ht]; rfl))).tup ht k hk))
   · rw [mkF_else N h0 (by rw [ht]; decide) (by rw [ht]; decide)] at ih
     simp only [Bool.or_eq_true, List.all_eq_true] at ih
     exact ih.elim (fun a => absurd a hn) (fun a => a k hk)
 | @opened t k m _ ht hk _ ih ihk =>
   have h0 := h.mk_right ih
   by_cases hn : (N t).isSome = true
   · rcases (h.sat.cl t (h.held hn (by rw [ht]; rfl))).box ht k m hk with a | a
     · have hkr := h.mk_right ihk
       have hne : (nget N t).key ≠ [] := by
         rw [a]
         intro e
         rw [e] at hkr
         exact hkr rfl
       have := h.shut t hne
       rw [a, ihk] at this
       cases this
     · exact mkF_noted N (noted_of_held a.2)
   · rw [mkF_else N h0 (by rw [ht]; decide) (by rw [ht]; decide), hk] at ih
     simp only [Bool.or_eq_true, List.all_eq_true] at ih
     exact ih.elim (fun a => absurd a hn) (fun a => a m (by simp))
end Go.Proofs.YtkifchjpgdmcoaaGreatDoor

/- A mind that has heard terms: what it makes is what can be made, what it holds is what can be taken apart. -/
namespace Go.Proofs.YtkifchjpgdmcoaaGreatDoor
theorem Can.mono {H G : Bs → Prop} (h : ∀ t, H t → G t) {t : Bs} (c : Can H t) : Can G t := by
 induction c with
 | heard a => exact .heard (h _ a)
 | whole a b c _ ih => exact .whole a b c ih
 | agree1 a b c _ e _ ih1 ih2 => exact .agree1 a b c ih1 e ih2
 | agree2 a b c _ e _ ih1 ih2 => exact .agree2 a b c ih1 e ih2
 | pub _ a ih => exact .pub ih a
 | part _ a b ih => exact .part ih a b
 | opened _ a b _ ih1 ih2 => exact .opened ih1 a b ih2
theorem Hd.mono {H G : Bs → Prop} (h : ∀ t, H t → G t) {t : Bs} (c : Hd H t) : Hd G t := by
 induction c with
 | heard a => exact .heard (h _ a)
 | part _ a b ih => exact .part ih a b
 | opened _ a b c ih => exact .opened ih a b (c.mono h)
theorem take_sound {Q : Bs → Prop} (hQ : ∀ t k, Q t → t.head? = some 84 → k ∈ Tm.kidsOf 63 t → Q k) : ∀ (n : Nat) (N : NM) (l : List Bs) (t : Bs), (∀ s, Hld N s → Q s) → Q t → ∀ s, Hld (takeF n (N, l) t).1 s → Q s
 | 0, _, _, _, h, _ => h
 | n + 1, N, l, t, h, ht => by
   have put : ∀ k, ∀ s, Hld (nput N t ⟨(nget N t).heard, true, k⟩) s → Q s := fun k s a => by
     unfold Hld at a
     rw [nget_put] at a
     by_cases e : s = t
     · rw [e]; exact ht
     · rw [if_neg e] at a; exact h s a
   rw [takeF]
   split
   · exact h
   · split
     · rename_i h84
       have fold : ∀ (ks : List Bs) (s : NM × List Bs), (∀ k ∈ ks, Q k) → (∀ x, Hld s.1 x → Q x) → ∀ x, Hld (ks.foldl (takeF n) s).1 x → Q x := by
         intro ks
         induction ks with
         | nil => intro s _ hs; exact hs
         | cons k ks ih =>
           intro s hk hs
           exact ih (takeF n s k) (fun x hx => hk x (by simp [hx])) (take_sound hQ n s.1 s.2 k hs (hk k (by simp)))
       exact fold _ _ (fun k hk => hQ t k ht h84 hk) (put _)
     · split
       · unfold takeKeyF
         split
         · exact put _
         · intro s a
           unfold Hld at a
           rw [nget_put] at a
           by_cases e : s = (pubRes t).1
           · rw [if_pos e] at a; cases a
           · rw [if_neg e] at a; exact put _ s a
       · split
         · exact put _
         · exact put _
theorem noted_can {H : Bs → Prop} {N : NM} (hS : Sat N) (h : ∀ s, Hld N s → Hd H s) (s : Bs) (hn : (N s).isSome = true) : Can H s := by
 by_cases hh : Hld N s
 · exact (h s hh).can
 · obtain ⟨x, hx, _, hp⟩ := hS.odd s hn hh
   have := Can.pub (h x hx).can (by rw [hp])
   rw [hp] at this
   exact this
theorem open_sound {U : List Bs} (hU : Uni U) {H : Bs → Prop} (N : NM) (l : List Bs) (box : Bs) (hO : Ok U N) (hS : Sat N) (hb : box ∈ U) (hm : mkF N (nget N box).key = true) (h : ∀ s, Hld N s → Hd H s) : ∀ s, Hld (openF (N, l) box).1 s → Hd H s := by
 obtain ⟨hk, h66, m, hks⟩ := box_of hU hO hm
 have hd := hU.right box hb
 have hub : (unboxRes (nget N box).key box).1 = m := by unfold unboxRes; rw [if_pos ⟨hd, h66⟩, hks]; simp
 have hE : openF (N, l) box = takeF 64 (nput N box ⟨(nget N box).heard, (nget N box).held, []⟩, l) m := by unfold openF; rw [hub]
 rw [hE]
 refine take_sound (fun t k a b c => .part a b c) 64 _ l m (fun s a => ?_) (.opened (h box (hS.kz box hk)) h66 hks (mk_can (noted_can hS h) _ _ (Nat.le_refl _) hm))
 unfold Hld at a
 rw [nget_put] at a
 by_cases e : s = box
 · rw [if_pos e] at a; rw [e]; exact h box a
 · rw [if_neg e] at a; exact h s a
structure Mind (H : Bs → Prop) (N : NM) : Prop where
 full : Full N
 heard : ∀ t, H t ↔ (nget N t).heard = true
 held : ∀ t, H t → Hld N t
 snd : ∀ s, Hld N s → Hd H s
theorem Mind.new : Mind (fun _ => False) (fun _ => none) :=
 ⟨⟨⟨fun _ a => (by cases a), fun _ a => (by cases a), fun _ a => absurd rfl a⟩, fun _ a => absurd rfl a, fun _ a => (by cases a)⟩, fun t => ⟨fun a => a.elim, fun a => (by cases a)⟩, fun _ a => a.elim, fun _ a => (by cases a)⟩
theorem Mind.knows {H : Bs → Prop} {N : NM} (h : Mind H N) (t : Bs) : mkF N t = true ↔ Can H t :=
 ⟨mk_can (noted_can h.full.sat h.snd) _ _ (Nat.le_refl _), can_mk h.full (fun t a => noted_of_held (h.held t a))⟩
theorem mk_same {N M : NM} (h : ∀ s, (M s).isSome = (N s).isSome) (t : Bs) : mkF M t = mkF N t := by
 rw [Bool.eq_iff_iff]
 exact ⟨mk_mono (fun s a => by rw [← h]; exact a), mk_mono (fun s a => by rw [h]; exact a)⟩
theorem Full.same {N M : NM} (h : Full N) (h1 : ∀ s, (M s).isSome = (N s).isSome) (h2 : ∀ s, (nget M s).held = (nget N s).held) (h3 : ∀ s, (nget M s).key = (nget N s).key) : Full M where
 sat := by
   refine ⟨fun s a => ?_, fun s a b => ?_, fun s a => ?_⟩
   · have hs : Hld N s := by unfold Hld; rw [← h2]; exact a
     exact (h.sat.cl s hs).mono (fun t x => by rw [h1]; exact x) (fun t x => by unfold Hld; rw [h2]; exact x) (h3 s)
   · obtain ⟨x, hx, hp⟩ := h.sat.odd s (by rw [← h1]; exact a) (fun y => b (by unfold Hld; rw [h2]; exact y))
     exact ⟨x, by unfold Hld; rw [h2]; exact hx, hp⟩
   · unfold Hld; rw [h2]; rw [h3] at a; exact h.sat.kz s a
 shut := fun s a => by rw [h3] at a ⊢; rw [mk_same h1]; exact h.shut s a
 right := fun s a => h.right s (by rw [← h1]; exact a)
theorem Mind.learn {U : List Bs} (hU : Uni U) {H : Bs → Prop} {N : NM} (hO : Ok U N) (h : Mind H N) {t : Bs} (ht : t ∈ U) {L : List (Bs × Note)} (hL : Over N L) {M : NM}
   (hF : Follow (takeF 64 (N, []) t).1 (takeF 64 (N, []) t).2 (shutL L) M) : Mind (fun x => x = t ∨ H x) (nput M t ⟨true, (nget M t).held, (nget M t).key⟩) := by
 have hs0 : ∀ s, Hld (takeF 64 (N, []) t).1 s → Hd (fun x => x = t ∨ H x) s :=
   take_sound (fun t k a b c => .part a b c) 64 N [] t (fun s a => (h.snd s a).mono (fun _ => Or.inr)) (.heard (Or.inl rfl))
 obtain ⟨⟨l, r, p⟩, hS, hO2, hZ, htM, hs⟩ := learn_inv hU hO h.full.sat h.full.shut ht hL hF (P := fun N => ∀ s, Hld N s → Hd (fun x => x = t ∨ H x) s) (fun N l box => open_sound hU N l box) hs0
 have g1 : ∀ s, (nput M t ⟨true, (nget M t).held, (nget M t).key⟩ s).isSome = (M s).isSome := fun s => by
   rw [Bool.eq_iff_iff, isSome_put]
   exact ⟨fun a => a.elim (fun e => by rw [e]; exact noted_of_held htM) id, Or.inr⟩
 have g2 : ∀ s, (nget (nput M t ⟨true, (nget M t).held, (nget M t).key⟩) s).held = (nget M s).held := fun s => by
   rw [nget_put]
   split
   · rename_i e; rw [e]
   · rfl
 have g3 : ∀ s, (nget (nput M t ⟨true, (nget M t).held, (nget M t).key⟩) s).key = (nget M s).key := fun s => by
   rw [nget_put]
   split
   · rename_i e; rw [e]
   · rfl
 refine ⟨Full.same ⟨hS, hZ, fun s a => hU.right s (hO2.dom s a)⟩ g1 g2 g3, fun s => ?_, fun s a => ?_, fun s a => hs s (by unfold Hld; rw [← g2]; exact a)⟩
 · rw [nget_put]
   by_cases e : s = t
   · rw [if_pos e]; exact ⟨fun _ => rfl, fun _ => Or.inl e⟩
   · rw [if_neg e, p.heard s, ← h.heard s]
     exact ⟨fun a => a.elim (fun x => absurd x e) id, Or.inr⟩
 · unfold Hld
   rw [g2]
   rcases a with e | a
   · rw [e]; exact htM
   · exact p.held s (h.held s a)
end Go.Proofs.YtkifchjpgdmcoaaGreatDoor

/- All that may be noted of a list of right terms. -/
namespace Go.Proofs.YtkifchjpgdmcoaaGreatDoor
theorem used_less (l r : Bs) : (Tm.used l r).length ≤ l.length - r.length := by unfold Tm.used; simp
theorem kids_sum_all {t : Bs} (h : t ≠ []) : ((Tm.kidsOf 63 t).map List.length).sum + 1 ≤ t.length := by
 match t, h with
 | c :: l, _ =>
   by_cases c3 : c = 84
   · exact kids_sum (by rw [c3]; rfl)
   · show ((if c = 84 then Tm.tupleK (Tm.rd 63) l else if c = 80 ∨ c = 72 then Tm.kids1 (Tm.rd 63) l else if c = 110 ∨ c = 116 then [] else Tm.kids2 (Tm.rd 63) l).map List.length).sum + 1 ≤ _
     rw [if_neg c3]
     split
     · unfold Tm.kids1
       split
       · simp
       · rename_i d r hg
         have := used_less l r
         simp; omega
     · split
       · simp
       · unfold Tm.kids2 Tm.twoA
         match hg : Tm.rd 63 l with
         | none => simp
         | some (d, r) =>
           simp only
           match hg2 : Tm.rd 63 r with
           | none => simp
           | some (e, r') =>
             have h1 := used_less l r
             have h2 := used_less r r'
             have h3 := (Tm.rd_len hg).1
             simp; omega
def subsF : Nat → Bs → List Bs
 | 0, t => [t]
 | n + 1, t => t :: ((if VK t ∧ (pubRes t).2 = 0 then [(pubRes t).1] else []) ++ (Tm.kidsOf 63 t).flatMap (subsF n))
theorem subs_self (n : Nat) (t : Bs) : t ∈ subsF n t := by cases n <;> simp [subsF]
theorem ne_of_right {t : Bs} (h : Tm.deep t ≠ 0) : t ≠ [] := fun e => by rw [e] at h; exact h rfl
theorem sum_flat {f : Bs → List Bs} : ∀ (ks : List Bs), (∀ k ∈ ks, (f k).length ≤ 2 * k.length) → (ks.flatMap f).length ≤ 2 * (ks.map List.length).sum
 | [], _ => by simp
 | k :: ks, h => by
   have h1 := h k (by simp)
   have h2 := sum_flat ks (fun x hx => h x (by simp [hx]))
   simp only [List.flatMap_cons, List.length_append, List.map_cons, List.sum_cons]
   omega
theorem subs_len : ∀ (n : Nat) (t : Bs), Tm.deep t ≠ 0 → (subsF n t).length ≤ 2 * t.length
 | 0, t, h => by have := List.length_pos_iff.2 (ne_of_right h); simp [subsF]; omega
 | n + 1, t, h => by
   have h1 := kids_sum_all (ne_of_right h)
   have h2 := sum_flat (Tm.kidsOf 63 t) (fun k hk => subs_len n k (Tm.kids_right h hk).1)
   rw [subsF, List.length_cons, List.length_append]
   have h3 : (if VK t ∧ (pubRes t).2 = 0 then [(pubRes t).1] else []).length ≤ 1 := by split <;> simp
   omega
theorem subs_right : ∀ (n : Nat) (t : Bs), Tm.deep t ≠ 0 → ∀ s ∈ subsF n t, Tm.deep s ≠ 0
 | 0, t, h, s, hs => by simp [subsF] at hs; rw [hs]; exact h
 | n + 1, t, h, s, hs => by
   rw [subsF] at hs
   rcases List.mem_cons.1 hs with e | hs
   · rw [e]; exact h
   · rcases List.mem_append.1 hs with hs | hs
     · split at hs
       · rename_i hv
         simp at hs
         obtain ⟨_, h2, h3⟩ := pub_right hv.2
         rw [hs, h3]; exact h2
       · cases hs
     · obtain ⟨k, hk, hs⟩ := List.mem_flatMap.1 hs
       exact subs_right n k (Tm.kids_right h hk).1 s hs
def Closed (s : Bs) (l : List Bs) : Prop := (s.head? = some 84 ∨ s.head? = some 66 → ∀ k ∈ Tm.kidsOf 63 s, k ∈ l) ∧ (VK s → (pubRes s).2 = 0 → (pubRes s).1 ∈ l)
theorem Closed.mono {s : Bs} {l r : List Bs} (h : Closed s l) (hl : ∀ x ∈ l, x ∈ r) : Closed s r := ⟨fun a k b => hl k (h.1 a k b), fun a b => hl _ (h.2 a b)⟩
theorem subs_closed : ∀ (n : Nat) (t : Bs), Tm.deep t ≠ 0 → Tm.deep t ≤ n → ∀ s ∈ subsF n t, Closed s (subsF n t)
 | 0, t, h, h0, _, _ => absurd (Nat.le_zero.1 h0) h
 | n + 1, t, h, hn, s, hs => by
   have hin : ∀ k ∈ Tm.kidsOf 63 t, ∀ x ∈ subsF n k, x ∈ subsF (n + 1) t := fun k hk x hx => by
     rw [subsF]
     exact List.mem_cons.2 (Or.inr (List.mem_append.2 (Or.inr (List.mem_flatMap.2 ⟨k, hk, hx⟩))))
   have hs' := hs
   rw [subsF] at hs'
   rcases List.mem_cons.1 hs' with e | hs'
   · subst e
     refine ⟨fun _ k hk => hin k hk k (subs_self _ _), fun a b => ?_⟩
     rw [subsF]
     refine List.mem_cons.2 (Or.inr (List.mem_append.2 (Or.inl ?_)))
     rw [if_pos ⟨a, b⟩]; simp
   · rcases List.mem_append.1 hs' with hs' | hs'
     · split at hs'
       · rename_i hv
         simp at hs'
         have hp := pub_head hv.2
         rw [← hs'] at hp
         refine ⟨fun a => ?_, fun a => ?_⟩
         · rcases a with a | a <;> rw [a] at hp <;> cases hp
         · rcases a with a | a <;> rw [a] at hp <;> cases hp
       · cases hs'
     · obtain ⟨k, hk, hs'⟩ := List.mem_flatMap.1 hs'
       have hr := Tm.kids_right h hk
       exact (subs_closed n k hr.1 (by omega) s hs').mono (hin k hk)
theorem uni_of {l : List Bs} (h : ∀ t ∈ l, Tm.deep t ≠ 0) (hl : (l.map List.length).sum < 50000000) : Uni (l.flatMap (subsF 64)) ∧ ∀ t ∈ l, t ∈ l.flatMap (subsF 64) := by
 have hc : ∀ s ∈ l.flatMap (subsF 64), Closed s (l.flatMap (subsF 64)) := fun s hs => by
   obtain ⟨t, ht, hs⟩ := List.mem_flatMap.1 hs
   exact (subs_closed 64 t (h t ht) (Tm.deep_le _) s hs).mono (fun x hx => List.mem_flatMap.2 ⟨t, ht, hx⟩)
 refine ⟨⟨?_, fun s hs => ?_, fun s hs a k hk => (hc s hs).1 (Or.inl a) k hk, fun s hs a b => (hc s hs).2 a b, fun s hs a k m hk => (hc s hs).1 (Or.inr a) m (by rw [hk]; simp)⟩, fun t ht => List.mem_flatMap.2 ⟨t, ht, subs_self _ _⟩⟩
 · have := sum_flat l (fun k hk => subs_len 64 k (h k hk))
   omega
 · obtain ⟨t, ht, hs⟩ := List.mem_flatMap.1 hs
   exact subs_right 64 t (h t ht) s hs
end Go.Proofs.YtkifchjpgdmcoaaGreatDoor

/- What can be made can be made among the terms that stand within. -/
namespace Go.Proofs.YtkifchjpgdmcoaaGreatDoor
structure Local (A S : Bs → Prop) : Prop where
 kids : ∀ t k, A t → k ∈ Tm.kidsOf 63 t → A k
 keys : ∀ t k, A t → t.head? = some 88 → k ∈ Tm.kidsOf 63 t → Tm.deep (80 :: k) ≠ 0 → A (80 :: k)
 whole : ∀ t, A t → Tm.deep t ≠ 0 → t.head? ≠ some 110 → t.head? ≠ some 88 → (∀ k ∈ Tm.kidsOf 63 t, S k) → S t
 agree1 : ∀ t a b, A t → Tm.deep t ≠ 0 → t.head? = some 88 → Tm.kidsOf 63 t = [a, b] → S a → Tm.deep (80 :: b) ≠ 0 → S (80 :: b) → S t
 agree2 : ∀ t a b, A t → Tm.deep t ≠ 0 → t.head? = some 88 → Tm.kidsOf 63 t = [a, b] → S b → Tm.deep (80 :: a) ≠ 0 → S (80 :: a) → S t
 pub : ∀ x, S x → (pubRes x).2 = 0 → A (pubRes x).1 → S (pubRes x).1
 part : ∀ t k, S t → A t → t.head? = some 84 → k ∈ Tm.kidsOf 63 t → S k
 opened : ∀ t k m, S t → A t → t.head? = some 66 → Tm.kidsOf 63 t = [k, m] → S k → S m
theorem mk_local {A S : Bs → Prop} (hL : Local A S) {N : NM} (hS : Sat N) (hN : ∀ s, Hld N s → S s ∧ A s) : ∀ (n : Nat) (t : Bs), t.length ≤ n → A t → mkF N t = true → S t := by
 have noted : ∀ t, A t → (N t).isSome = true → S t := by
   intro t ha hn
   by_cases hh : Hld N t
   · exact (hN t hh).1
   · obtain ⟨x, hx, _, hp⟩ := hS.odd t hn hh
     have := hL.pub x (hN x hx).1 (by rw [hp]) (by rw [hp]; exact ha)
     rw [hp] at this
     exact this
 intro n
 induction n with
 | zero =>
   intro t ht ha hm
   have e : t = [] := List.length_eq_zero_iff.1 (by omega)
   subst e
   rw [mkF_wrong N (by rfl)] at hm
   exact noted _ ha hm
 | succ n ih =>
   intro t ht ha hm
   by_cases hq : (N t).isSome = true
   · exact noted _ ha hq
   · by_cases h0 : Tm.deep t = 0
     · rw [mkF_wrong N h0] at hm; exact absurd hm hq
     · have hlk : ∀ k ∈ Tm.kidsOf 63 t, mkF N k = true → S k := fun k hk => ih k (by have := (Tm.kids_right h0 hk).2.2.1; omega) (hL.kids t k ha hk)
       by_cases h1 : t.head? = some 110
       · rw [mkF_name N h1] at hm; exact absurd hm hq
       · by_cases h2 : t.head? = some 88
         · obtain ⟨a, b, hk⟩ := agree_kids h0 h2
           rw [mkF_agree N h0 h2 hk] at hm
           have one : ∀ y, y ∈ Tm.kidsOf 63 t → hasKeyF N y (mkF N y) = true → Tm.deep (80 :: y) ≠ 0 ∧ S (80 :: y) := by
             intro y hy hh
             unfold hasKeyF at hh
             simp only [Bool.and_eq_true, Bool.or_eq_true] at hh
             have e0 : (pubRes y).2 = 0 := by simpa using hh.1.1
             have e := pub_plain e0 (by simpa using hh.1.2)
             have hr := pub_right e0
             have hd : Tm.deep (80 :: y) ≠ 0 := by rw [← e, hr.2.2]; exact hr.2.1
             have hA := hL.keys t y ha h2 hy hd
             refine ⟨hd, ?_⟩
             rcases hh.2 with c | c
             · have := hL.pub y (hlk y hy c) e0 (by rw [e]; exact hA)
               rw [e] at this
               exact this
             · rw [e] at c; exact noted _ hA c
           have ma : a ∈ Tm.kidsOf 63 t := by rw [hk]; simp
           have mb : b ∈ Tm.kidsOf 63 t := by rw [hk]; simp
           simp only [Bool.or_eq_true, Bool.and_eq_true] at hm
           rcases hm with hm | hm | hm
           · exact absurd hm hq
           · have := one b mb hm.2
             exact hL.agree1 t a b ha h0 h2 hk (hlk a ma hm.1) this.1 this.2
           · have := one a ma hm.2
             exact hL.agree2 t a b ha h0 h2 hk (hlk b mb hm.1) this.1 this.2
         · rw [mkF_else N h0 h1 h2] at hm
           simp only [Bool.or_eq_true, List.all_eq_true] at hm
           rcases hm with hm | hm
           · exact absurd hm hq
           · exact hL.whole t ha h0 h1 h2 (fun k hk => hlk k hk (hm k hk))
theorem open_local {U : List Bs} (hU : Uni U) {A S : Bs → Prop} (hL : Local A S) (N : NM) (l : List Bs) (box : Bs) (hO : Ok U N) (hS : Sat N) (hb : box ∈ U) (hm : mkF N (nget N box).key = true) (h : ∀ s, Hld N s → S s ∧ A s) : ∀ s, Hld (openF (N, l) box).1 s → S s ∧ A s := by
 obtain ⟨hk, h66, m, hks⟩ := box_of hU hO hm
 have hd := hU.right box hb
 have hub : (unboxRes (nget N box).key box).1 = m := by unfold unboxRes; rw [if_pos ⟨hd, h66⟩, hks]; simp
 have hE : openF (N, l) box = takeF 64 (nput N box ⟨(nget N box).heard, (nget N box).held, []⟩, l) m := by unfold openF; rw [hub]
 rw [hE]
 obtain ⟨hbS, hbA⟩ := h box (hS.kz box hk)
 have hkA := hL.kids box (nget N box).key hbA (by rw [hks]; simp)
 have hkS := mk_local hL hS h _ _ (Nat.le_refl _) hkA hm
 refine take_sound (Q := fun s => S s ∧ A s) (fun t k a b c => ⟨hL.part t k a.1 a.2 b c, hL.kids t k a.2 c⟩) 64 _ l m (fun s a => ?_) ⟨hL.opened box _ m hbS hbA h66 hks hkS, hL.kids box m hbA (by rw [hks]; simp)⟩
 unfold Hld at a
 rw [nget_put] at a
 by_cases e : s = box
 · rw [if_pos e] at a; rw [e]; exact h box a
 · rw [if_neg e] at a; exact h s a
theorem learn_local {U : List Bs} (hU : Uni U) {A S : Bs → Prop} (hL : Local A S) {H : Bs → Prop} {N : NM} (hO : Ok U N) (h : Mind H N) (hN : ∀ s, Hld N s → S s ∧ A s) {t : Bs} (ht : t ∈ U) (htS : S t ∧ A t) {L : List (Bs × Note)} (hOv : Over N L) {M : NM}
   (hF : Follow (takeF 64 (N, []) t).1 (takeF 64 (N, []) t).2 (shutL L) M) : ∀ s, Hld (nput M t ⟨true, (nget M t).held, (nget M t).key⟩) s → S s ∧ A s := by
 have hs0 : ∀ s, Hld (takeF 64 (N, []) t).1 s → S s ∧ A s :=
   take_sound (Q := fun s => S s ∧ A s) (fun t k a b c => ⟨hL.part t k a.1 a.2 b c, hL.kids t k a.2 c⟩) 64 N [] t hN htS
 obtain ⟨_, _, _, _, _, hs⟩ := learn_inv hU hO h.full.sat h.full.shut ht hOv hF (P := fun N => ∀ s, Hld N s → S s ∧ A s) (fun N l box => open_local hU hL N l box) hs0
 intro s a
 unfold Hld at a
 rw [nget_put] at a
 by_cases e : s = t
 · rw [e]; exact htS
 · rw [if_neg e] at a; exact hs s a
end Go.Proofs.YtkifchjpgdmcoaaGreatDoor
