/- The plain mathematics of terms: reading a term off a text, that reading is unique, public keys, that unlike secrets have unlike public keys. No program in it. -/
namespace Go.Proofs.YtkifchjpgdmcoaaGreatDoor.Tm
abbrev Bs := List UInt8
def numGo (e : UInt8) : Nat → Bs → Option (Nat × Bs)
 | _, [] => none
 | n, c :: l => if c = e then some (n, l) else if 48 ≤ c.toNat ∧ c.toNat ≤ 57 ∧ 10 * n + (c.toNat - 48) ≤ 9223372036854775807 then numGo e (10 * n + (c.toNat - 48)) l else none
def num (e : UInt8) (l : Bs) : Option (Nat × Bs) :=
 match numGo e 0 l with
 | none => none
 | some (n, r) => if l.length - r.length = 1 ∨ (2 < l.length - r.length ∧ l.head? = some 48) then none else some (n, r)
def manyA (f : Bs → Option (Nat × Bs)) : Nat → Nat → Bs → Option (Nat × Bs)
 | 0, d, l => some (d, l)
 | k + 1, d, l => match f l with
   | none => none
   | some (e, r) => manyA f k (max d (e + 1)) r
def isPk (c : Option UInt8) : Bool := c == some 80 || c == some 87 || c == some 76
def used (l r : Bs) : Bs := l.take (l.length - r.length)
def isTwo (c : UInt8) : Bool := c == 83 || c == 66 || c == 68 || c == 86 || c == 75
def blt : Bs → Bs → Bool
 | _, [] => false
 | [], _ :: _ => true
 | a :: x, b :: y => a < b || (a == b && blt x y)
def leB (a b : Bs) : Bool := blt a b || a == b
def twoA (f : Bs → Option (Nat × Bs)) (l : Bs) : Option (Nat × Bs × Bs) :=
 match f l with
 | none => none
 | some (a, r) => match f r with
   | none => none
   | some (b, r') => some (max a b + 1, r, r')
def rd : Nat → Bs → Option (Nat × Bs)
 | 0, _ => none
 | _ + 1, [] => none
 | n + 1, c :: l =>
   if c = 110 then (match num 59 l with | none => none | some (_, r) => some (1, r))
   else if c = 116 then (match num 58 l with | none => none | some (k, r) => if k ≤ 4096 ∧ k ≤ r.length then some (1, r.drop k) else none)
   else if c = 84 then (match num 58 l with | none => none | some (k, r) => if k ≤ 32 then manyA (rd n) k 1 r else none)
   else if c = 80 then (match rd n l with | none => none | some (d, r) => if l.head? = some 86 ∨ l.head? = some 75 then none else some (d + 1, r))
   else if c = 72 then (match rd n l with | none => none | some (d, r) => some (d + 1, r))
   else if isTwo c then (match twoA (rd n) l with | none => none | some (d, _, r') => some (d, r'))
   else if c = 88 then (match twoA (rd n) l with | none => none | some (d, r, r') => if leB (used l r) (used r r') then some (d, r') else none)
   else if c = 87 then (match twoA (rd n) l with | none => none | some (d, r, r') => if isPk l.head? && isPk r.head? then some (d, r') else none)
   else if c = 76 then (match twoA (rd n) l with | none => none | some (d, _, r') => if isPk l.head? then some (d, r') else none)
   else none
def deep (l : Bs) : Nat := if l.length ≤ 16384 then (match rd 64 l with | some (d, []) => d | _ => 0) else 0
def Is (d : Nat) (p : Bs) : Prop := 1 ≤ d ∧ p ≠ [] ∧ ∀ n x, (d ≤ n → rd n (p ++ x) = some (d, x))
theorem numGo_len {e : UInt8} : ∀ {l : Bs} {n m : Nat} {r : Bs}, numGo e n l = some (m, r) → r.length < l.length
 | [], n, m, r, h => by simp [numGo] at h
 | c :: l, n, m, r, h => by
   rw [numGo] at h
   by_cases hc : c = e
   · rw [if_pos hc] at h; simp at h; obtain ⟨_, rfl⟩ := h; simp
   · rw [if_neg hc] at h
     split at h
     · have := numGo_len h; simp; omega
     · simp at h
theorem numGo_app {e : UInt8} : ∀ {l : Bs} {n m : Nat} {r : Bs}, numGo e n l = some (m, r) → ∃ p, p ≠ [] ∧ l = p ++ r ∧ ∀ x, numGo e n (p ++ x) = some (m, x)
 | [], n, m, r, h => by simp [numGo] at h
 | c :: l, n, m, r, h => by
   rw [numGo] at h
   by_cases hc : c = e
   · rw [if_pos hc] at h; simp at h; obtain ⟨rfl, rfl⟩ := h
     exact ⟨[c], by simp, rfl, fun x => by simp [numGo, hc]⟩
   · rw [if_neg hc] at h
     split at h
     · rename_i hd
       obtain ⟨p, hp, rfl, hx⟩ := numGo_app h
       exact ⟨c :: p, by simp, rfl, fun x => by rw [List.cons_append, numGo, if_neg hc, if_pos hd, hx]⟩
     · simp at h
theorem num_app {e : UInt8} {l : Bs} {m : Nat} {r : Bs} (h : num e l = some (m, r)) : ∃ p, p ≠ [] ∧ l = p ++ r ∧ ∀ x, num e (p ++ x) = some (m, x) := by
 unfold num at h
 match hg : numGo e 0 l with
 | none => rw [hg] at h; simp at h
 | some (n, r0) =>
   rw [hg] at h
   simp only at h
   split at h
   · simp at h
   · rename_i hc
     simp at h
     obtain ⟨rfl, rfl⟩ := h
     obtain ⟨p, hp, rfl, hx⟩ := numGo_app hg
     refine ⟨p, hp, rfl, fun x => ?_⟩
     unfold num
     rw [hx]
     simp only
     rw [if_neg]
     intro hh
     apply hc
     have hh1 : ∀ y : Bs, (p ++ y).length - y.length = p.length := fun y => by simp
     have hh2 : ∀ y : Bs, (p ++ y).head? = p.head? := fun y => by cases p with | nil => exact absurd rfl hp | cons a b => rfl
     rw [hh1, hh2] at hh ⊢
     exact hh
theorem used_app (p x : Bs) : used (p ++ x) x = p := by unfold used; simp
theorem head_app {p : Bs} (hp : p ≠ []) (x : Bs) : (p ++ x).head? = p.head? := by
 cases p with | nil => exact absurd rfl hp | cons a b => rfl
def Good (n : Nat) : Prop := ∀ l d r, rd n l = some (d, r) → ∃ p, l = p ++ r ∧ d ≤ n ∧ Is d p
theorem many_good {n : Nat} (hn : Good n) : ∀ (k d : Nat) (l : Bs) (e : Nat) (r : Bs), manyA (rd n) k d l = some (e, r) →
   ∃ p, l = p ++ r ∧ d ≤ e ∧ (e ≤ max d (n + 1)) ∧ ∀ m x, e ≤ m + 1 → manyA (rd m) k d (p ++ x) = some (e, x)
 | 0, d, l, e, r, h => by
   simp [manyA] at h; obtain ⟨rfl, rfl⟩ := h
   exact ⟨[], rfl, Nat.le_refl _, by omega, fun m x _ => rfl⟩
 | k + 1, d, l, e, r, h => by
   rw [manyA] at h
   match hg : rd n l with
   | none => rw [hg] at h; simp at h
   | some (d1, r1) =>
     rw [hg] at h
     simp only at h
     obtain ⟨p, rfl, hd, h1, hp, hi⟩ := hn _ _ _ hg
     obtain ⟨q, rfl, h2, h3, h4⟩ := many_good hn k _ _ _ _ h
     refine ⟨p ++ q, by simp, by omega, by omega, fun m x hm => ?_⟩
     rw [manyA, List.append_assoc, hi m _ (by omega)]
     exact h4 m x hm
theorem two_good {n : Nat} (hn : Good n) {l : Bs} {d : Nat} {r r' : Bs} (h : twoA (rd n) l = some (d, r, r')) :
   ∃ p q a b, l = p ++ (q ++ r') ∧ r = q ++ r' ∧ d = max a b + 1 ∧ a ≤ n ∧ b ≤ n ∧ Is a p ∧ Is b q := by
 unfold twoA at h
 match hg : rd n l with
 | none => rw [hg] at h; simp at h
 | some (d1, r1) =>
   rw [hg] at h
   simp only at h
   match hk : rd n r1 with
   | none => rw [hk] at h; simp at h
   | some (d2, r2) =>
     rw [hk] at h
     simp at h
     obtain ⟨rfl, rfl, rfl⟩ := h
     obtain ⟨p, rfl, hd, hi⟩ := hn _ _ _ hg
     obtain ⟨q, rfl, hd2, hi2⟩ := hn _ _ _ hk
     exact ⟨p, q, d1, d2, rfl, rfl, rfl, hd, hd2, hi, hi2⟩
theorem two_is {a b : Nat} {p q : Bs} (ha : Is a p) (hb : Is b q) (n : Nat) (x : Bs) (h : max a b ≤ n) : twoA (rd n) (p ++ (q ++ x)) = some (max a b + 1, q ++ x, x) := by
 unfold twoA
 rw [ha.2.2 n _ (by omega)]
 simp only
 rw [hb.2.2 n _ (by omega)]
theorem rd_good : ∀ n, Good n
 | 0 => fun l d r h => by simp [rd] at h
 | n + 1 => fun l d r h => by
   have ih := rd_good n
   match l, h with
   | [], h => simp [rd] at h
   | c :: l, h =>
     rw [rd] at h
     by_cases c1 : c = 110
     · rw [if_pos c1] at h
       match hg : num 59 l with
       | none => rw [hg] at h; simp at h
       | some (k, r0) =>
         rw [hg] at h
         simp at h; obtain ⟨rfl, rfl⟩ := h
         obtain ⟨p, hp, rfl, hx⟩ := num_app hg
         refine ⟨c :: p, rfl, by omega, Nat.le_refl _, by simp, fun m x hm => ?_⟩
         obtain ⟨m, rfl⟩ : ∃ k, m = k + 1 := ⟨m - 1, by omega⟩
         rw [List.cons_append, rd, if_pos c1, hx]
     · rw [if_neg c1] at h
       by_cases c2 : c = 116
       · rw [if_pos c2] at h
         match hg : num 58 l with
         | none => rw [hg] at h; simp at h
         | some (k, r0) =>
           rw [hg] at h
           simp only at h
           split at h
           · rename_i hk
             simp at h; obtain ⟨rfl, rfl⟩ := h
             obtain ⟨p, hp, rfl, hx⟩ := num_app hg
             refine ⟨c :: (p ++ r0.take k), by simp, by omega, Nat.le_refl _, by simp, fun m x hm => ?_⟩
             obtain ⟨m, rfl⟩ : ∃ k, m = k + 1 := ⟨m - 1, by omega⟩
             rw [List.cons_append, rd, if_neg c1, if_pos c2, List.append_assoc, hx]
             have hl : (r0.take k).length = k := by simp; omega
             simp only
             rw [if_pos (by simp; omega)]
             simp [hl]
           · simp at h
       · rw [if_neg c2] at h
         by_cases c3 : c = 84
         · rw [if_pos c3] at h
           match hg : num 58 l with
           | none => rw [hg] at h; simp at h
           | some (k, r0) =>
             rw [hg] at h
             simp only at h
             split at h
             · rename_i hk
               obtain ⟨p, hp, rfl, hx⟩ := num_app hg
               obtain ⟨q, rfl, h1, h2, h3⟩ := many_good ih _ _ _ _ _ h
               refine ⟨c :: (p ++ q), by simp, by omega, h1, by simp, fun m x hm => ?_⟩
               obtain ⟨m, rfl⟩ : ∃ k, m = k + 1 := ⟨m - 1, by omega⟩
               rw [List.cons_append, rd, if_neg c1, if_neg c2, if_pos c3, List.append_assoc, hx]
               simp only
               rw [if_pos hk]
               exact h3 m x hm
             · simp at h
         · rw [if_neg c3] at h
           by_cases c4 : c = 80
           · rw [if_pos c4] at h
             match hg : rd n l with
             | none => rw [hg] at h; simp at h
             | some (k, r0) =>
               rw [hg] at h
               simp only at h
               split at h
               · simp at h
               · rename_i hk
                 simp at h; obtain ⟨rfl, rfl⟩ := h
                 obtain ⟨p, rfl, hd, hi⟩ := ih _ _ _ hg
                 refine ⟨c :: p, by simp, by omega, by omega, by simp, fun m x hm => ?_⟩
                 obtain ⟨m, rfl⟩ : ∃ k, m = k + 1 := ⟨m - 1, by omega⟩
                 rw [List.cons_append, rd, if_neg c1, if_neg c2, if_neg c3, if_pos c4, hi.2.2 m _ (by omega)]
                 rw [head_app hi.2.1] at hk ⊢
                 simp only
                 rw [if_neg hk]
           · rw [if_neg c4] at h
             by_cases c5 : c = 72
             · rw [if_pos c5] at h
               match hg : rd n l with
               | none => rw [hg] at h; simp at h
               | some (k, r0) =>
                 rw [hg] at h
                 simp at h; obtain ⟨rfl, rfl⟩ := h
                 obtain ⟨p, rfl, hd, hi⟩ := ih _ _ _ hg
                 refine ⟨c :: p, by simp, by omega, by omega, by simp, fun m x hm => ?_⟩
                 obtain ⟨m, rfl⟩ : ∃ k, m = k + 1 := ⟨m - 1, by omega⟩
                 rw [List.cons_append, rd, if_neg c1, if_neg c2, if_neg c3, if_neg c4, if_pos c5, hi.2.2 m _ (by omega)]
             · rw [if_neg c5] at h
               match hg : twoA (rd n) l with
               | none => rw [hg] at h; simp at h
               | some (k, r0, r1) =>
                 rw [hg] at h
                 obtain ⟨p, q, a, b, rfl, rfl, rfl, ha, hb, hp, hq⟩ := two_good ih hg
                 by_cases c6 : isTwo c
                 · rw [if_pos c6] at h
                   simp at h; obtain ⟨rfl, rfl⟩ := h
                   refine ⟨c :: (p ++ q), by simp, by omega, by omega, by simp, fun m x hm => ?_⟩
                   obtain ⟨m, rfl⟩ : ∃ k, m = k + 1 := ⟨m - 1, by omega⟩
                   rw [List.cons_append, rd, if_neg c1, if_neg c2, if_neg c3, if_neg c4, if_neg c5, if_pos c6, List.append_assoc, two_is hp hq m x (by omega)]
                 · rw [if_neg c6] at h
                   by_cases c7 : c = 88
                   · rw [if_pos c7] at h
                     simp only [used_app] at h
                     split at h
                     · rename_i hk
                       simp at h; obtain ⟨rfl, rfl⟩ := h
                       refine ⟨c :: (p ++ q), by simp, by omega, by omega, by simp, fun m x hm => ?_⟩
                       obtain ⟨m, rfl⟩ : ∃ k, m = k + 1 := ⟨m - 1, by omega⟩
                       rw [List.cons_append, rd, if_neg c1, if_neg c2, if_neg c3, if_neg c4, if_neg c5, if_neg c6, if_pos c7, List.append_assoc, two_is hp hq m x (by omega)]
                       simp only [used_app]
                       rw [if_pos hk]
                     · simp at h
                   · rw [if_neg c7] at h
                     by_cases c8 : c = 87
                     · rw [if_pos c8] at h
                       simp only [head_app hp.2.1, head_app hq.2.1] at h
                       split at h
                       · rename_i hk
                         simp at h; obtain ⟨rfl, rfl⟩ := h
                         refine ⟨c :: (p ++ q), by simp, by omega, by omega, by simp, fun m x hm => ?_⟩
                         obtain ⟨m, rfl⟩ : ∃ k, m = k + 1 := ⟨m - 1, by omega⟩
                         rw [List.cons_append, rd, if_neg c1, if_neg c2, if_neg c3, if_neg c4, if_neg c5, if_neg c6, if_neg c7, if_pos c8, List.append_assoc, two_is hp hq m x (by omega)]
                         simp only [head_app hp.2.1, head_app hq.2.1]
                         rw [if_pos hk]
                       · simp at h
                     · rw [if_neg c8] at h
                       by_cases c9 : c = 76
                       · rw [if_pos c9] at h
                         simp only [head_app hp.2.1] at h
                         split at h
                         · rename_i hk
                           simp at h; obtain ⟨rfl, rfl⟩ := h
                           refine ⟨c :: (p ++ q), by simp, by omega, by omega, by simp, fun m x hm => ?_⟩
                           obtain ⟨m, rfl⟩ : ∃ k, m = k + 1 := ⟨m - 1, by omega⟩
                           rw [List.cons_append, rd, if_neg c1, if_neg c2, if_neg c3, if_neg c4, if_neg c5, if_neg c6, if_neg c7, if_neg c8, if_pos c9, List.append_assoc, two_is hp hq m x (by omega)]
                           simp only [head_app hp.2.1]
                           rw [if_pos hk]
                         · simp at h
                       · rw [if_neg c9] at h
                         simp at h
theorem is_uniq {a b : Nat} {p q x y : Bs} (ha : Is a p) (hb : Is b q) (h : p ++ x = q ++ y) : p = q ∧ x = y ∧ a = b := by
 have h1 := ha.2.2 (max a b) x (by omega)
 have h2 := hb.2.2 (max a b) y (by omega)
 rw [h, h2] at h1
 simp at h1
 obtain ⟨rfl, rfl⟩ := h1
 exact ⟨List.append_cancel_right h, rfl, rfl⟩
theorem is_uniq' {a b : Nat} {p : Bs} (ha : Is a p) (hb : Is b p) : a = b := (is_uniq (x := []) (y := []) ha hb rfl).2.2
theorem deep_le (l : Bs) : deep l ≤ 64 := by
 unfold deep
 split
 · split
   · rename_i d h
     obtain ⟨_, _, h2, _⟩ := rd_good 64 _ _ _ h
     exact h2
   · omega
 · omega
theorem deep_is {l : Bs} (h : deep l ≠ 0) : Is (deep l) l ∧ l.length ≤ 16384 := by
 have h0 := h
 unfold deep at h
 split at h
 · rename_i hl
   split at h
   · rename_i d hr
     obtain ⟨p, hp, h2, h3⟩ := rd_good 64 _ _ _ hr
     have : deep l = d := by unfold deep; rw [if_pos hl, hr]
     rw [this]
     rw [List.append_nil] at hp
     rw [hp]
     exact ⟨h3, hp ▸ hl⟩
   · exact absurd rfl h
 · exact absurd rfl h
theorem is_deep {l : Bs} {d : Nat} (h : Is d l) (hd : d ≤ 64) (hl : l.length ≤ 16384) : deep l = d := by
 unfold deep
 have := h.2.2 64 [] hd
 rw [List.append_nil] at this
 rw [if_pos hl, this]
theorem is_deep0 {l : Bs} {d : Nat} (h : Is d l) (hd : 64 < d ∨ 16384 < l.length) : deep l = 0 := by
 apply Classical.byContradiction
 intro h0
 obtain ⟨h1, h2⟩ := deep_is h0
 have := is_uniq' h h1
 have := deep_le l
 omega
theorem is_inv_two {d : Nat} {c : UInt8} {l : Bs} (h : Is d (c :: l)) (hc : isTwo c = true) : ∃ a b p q, Is a p ∧ Is b q ∧ l = p ++ q ∧ d = max a b + 1 := by
 have h1 := h.2.2 d [] (Nat.le_refl _)
 have h3 := h.1
 obtain ⟨n, rfl⟩ : ∃ k, d = k + 1 := ⟨d - 1, by omega⟩
 rw [List.append_nil, rd] at h1
 have c1 : ¬ c = 110 := by intro e; subst e; simp [isTwo] at hc
 have c2 : ¬ c = 116 := by intro e; subst e; simp [isTwo] at hc
 have c3 : ¬ c = 84 := by intro e; subst e; simp [isTwo] at hc
 have c4 : ¬ c = 80 := by intro e; subst e; simp [isTwo] at hc
 have c5 : ¬ c = 72 := by intro e; subst e; simp [isTwo] at hc
 rw [if_neg c1, if_neg c2, if_neg c3, if_neg c4, if_neg c5, if_pos hc] at h1
 match hg : twoA (rd n) l with
 | none => rw [hg] at h1; simp at h1
 | some (k, r0, r1) =>
   rw [hg] at h1
   obtain ⟨p, q, a, b, rfl, rfl, rfl, ha, hb, hp, hq⟩ := two_good (rd_good n) hg
   simp at h1
   obtain ⟨h1, rfl⟩ := h1
   exact ⟨a, b, p, q, hp, hq, by simp, by omega⟩
theorem is_two {a b : Nat} {p q : Bs} {c : UInt8} (hp : Is a p) (hq : Is b q) (hc : isTwo c = true) : Is (max a b + 1) (c :: (p ++ q)) := by
 refine ⟨by omega, by simp, fun m x hm => ?_⟩
 have c1 : ¬ c = 110 := by intro e; subst e; simp [isTwo] at hc
 have c2 : ¬ c = 116 := by intro e; subst e; simp [isTwo] at hc
 have c3 : ¬ c = 84 := by intro e; subst e; simp [isTwo] at hc
 have c4 : ¬ c = 80 := by intro e; subst e; simp [isTwo] at hc
 have c5 : ¬ c = 72 := by intro e; subst e; simp [isTwo] at hc
 obtain ⟨m, rfl⟩ : ∃ k, m = k + 1 := ⟨m - 1, by omega⟩
 rw [List.cons_append, rd, if_neg c1, if_neg c2, if_neg c3, if_neg c4, if_neg c5, if_pos hc, List.append_assoc, two_is hp hq m x (by omega)]
theorem is_pub {a : Nat} {p : Bs} (hp : Is a p) (h1 : p.head? ≠ some 86) (h2 : p.head? ≠ some 75) : Is (a + 1) (80 :: p) := by
 refine ⟨by omega, by simp, fun m x hm => ?_⟩
 obtain ⟨m, rfl⟩ : ∃ k, m = k + 1 := ⟨m - 1, by omega⟩
 rw [List.cons_append, rd, if_neg (by decide), if_neg (by decide), if_neg (by decide), if_pos rfl, hp.2.2 m _ (by omega)]
 simp only
 rw [head_app hp.2.1, if_neg (by simp [h1, h2])]
theorem is_joint {a b : Nat} {p q : Bs} (hp : Is a p) (hq : Is b q) (h1 : isPk p.head? = true) (h2 : isPk q.head? = true) : Is (max a b + 1) (87 :: (p ++ q)) := by
 refine ⟨by omega, by simp, fun m x hm => ?_⟩
 obtain ⟨m, rfl⟩ : ∃ k, m = k + 1 := ⟨m - 1, by omega⟩
 rw [List.cons_append, rd, if_neg (by decide), if_neg (by decide), if_neg (by decide), if_neg (by decide), if_neg (by decide), if_neg (by decide), if_neg (by decide), if_pos rfl, List.append_assoc, two_is hp hq m x (by omega)]
 simp only [head_app hp.2.1, head_app hq.2.1, h1, h2]
 rfl
theorem is_bound {a b : Nat} {p q : Bs} (hp : Is a p) (hq : Is b q) (h1 : isPk p.head? = true) : Is (max a b + 1) (76 :: (p ++ q)) := by
 refine ⟨by omega, by simp, fun m x hm => ?_⟩
 obtain ⟨m, rfl⟩ : ∃ k, m = k + 1 := ⟨m - 1, by omega⟩
 rw [List.cons_append, rd, if_neg (by decide), if_neg (by decide), if_neg (by decide), if_neg (by decide), if_neg (by decide), if_neg (by decide), if_neg (by decide), if_neg (by decide), if_pos rfl, List.append_assoc, two_is hp hq m x (by omega)]
 simp only [head_app hp.2.1, h1]
 rfl
def pkA : Nat → Bs → Bs × Bs
 | 0, l => ([], l)
 | _ + 1, [] => ([], [])
 | f + 1, c :: l =>
   if c = 86 then (87 :: ((pkA f l).1 ++ (pkA f (pkA f l).2).1), (pkA f (pkA f l).2).2)
   else if c = 75 then (match rd 64 (pkA f l).2 with | none => ([], []) | some (_, r) => (76 :: ((pkA f l).1 ++ used (pkA f l).2 r), r))
   else (match rd 64 (c :: l) with | none => ([], []) | some (_, r) => (80 :: used (c :: l) r, r))
def pk (p : Bs) : Bs := (pkA 64 p).1
def PkOf (d : Nat) (p q : Bs) : Prop := (∀ f x, d ≤ f → pkA f (p ++ x) = (q, x)) ∧ (∃ d', Is d' q ∧ d' ≤ d + 1) ∧ q.length ≤ 2 * p.length ∧ isPk q.head? = true
theorem len_pos {d : Nat} {p : Bs} (h : Is d p) : 1 ≤ p.length := by
 have := h.2.1
 cases p with | nil => exact absurd rfl this | cons a b => simp
theorem pk_all : ∀ (n d : Nat) (p : Bs), d ≤ n → Is d p → d ≤ 64 → PkOf d p (pk p)
 | 0, d, p, hn, h, hd => by have := h.1; omega
 | n + 1, d, p, hn, h, hd => by
   have key : ∃ q, PkOf d p q := by
     match p, h with
     | [], h => exact absurd rfl h.2.1
     | c :: l, h =>
       by_cases c1 : c = 86
       · subst c1
         obtain ⟨a, b, p, q, hp, hq, rfl, rfl⟩ := is_inv_two h (by decide)
         obtain ⟨i1, ⟨e1, i2, i3⟩, i4, i5⟩ := pk_all n a p (by omega) hp (by omega)
         obtain ⟨j1, ⟨e2, j2, j3⟩, j4, j5⟩ := pk_all n b q (by omega) hq (by omega)
         refine ⟨87 :: (pk p ++ pk q), fun f x hf => ?_, ⟨_, is_joint i2 j2 i5 j5, by omega⟩, by simp; omega, rfl⟩
         obtain ⟨f, rfl⟩ : ∃ k, f = k + 1 := ⟨f - 1, by omega⟩
         rw [List.cons_append, pkA, if_pos rfl, List.append_assoc, i1 f _ (by omega)]
         simp only
         rw [j1 f _ (by omega)]
       · by_cases c2 : c = 75
         · subst c2
           obtain ⟨a, b, p, q, hp, hq, rfl, rfl⟩ := is_inv_two h (by decide)
           obtain ⟨i1, ⟨e1, i2, i3⟩, i4, i5⟩ := pk_all n a p (by omega) hp (by omega)
           have hl := len_pos hq
           refine ⟨76 :: (pk p ++ q), fun f x hf => ?_, ⟨_, is_bound i2 hq i5, by omega⟩, by simp; omega, rfl⟩
           obtain ⟨f, rfl⟩ : ∃ k, f = k + 1 := ⟨f - 1, by omega⟩
           rw [List.cons_append, pkA, if_neg (by decide), if_pos rfl, List.append_assoc, i1 f _ (by omega)]
           simp only
           rw [hq.2.2 64 _ (by omega)]
           simp only [used_app]
         · refine ⟨80 :: (c :: l), fun f x hf => ?_, ⟨_, is_pub h (by simp [c1]) (by simp [c2]), by omega⟩, by simp; omega, rfl⟩
           have := h.1
           obtain ⟨f, rfl⟩ : ∃ k, f = k + 1 := ⟨f - 1, by omega⟩
           rw [List.cons_append, pkA, if_neg c1, if_neg c2, ← List.cons_append, h.2.2 64 _ (by omega)]
           simp only [used_app]
   obtain ⟨q, hq⟩ := key
   have e : pk p = q := by
     have := hq.1 64 [] hd
     rw [List.append_nil] at this
     unfold pk
     rw [this]
   rw [e]
   exact hq
theorem pk_of {d : Nat} {p : Bs} (h : Is d p) (hd : d ≤ 64) : PkOf d p (pk p) := pk_all d d p (Nat.le_refl _) h hd
theorem pk_join {a b : Nat} {p q : Bs} (hp : Is a p) (hq : Is b q) (ha : a < 64) (hb : b < 64) : pk (86 :: (p ++ q)) = 87 :: (pk p ++ pk q) := by
 have i := (pk_of hp (by omega)).1
 have j := (pk_of hq (by omega)).1
 show (pkA (63 + 1) (86 :: (p ++ q))).1 = _
 have e : q = q ++ [] := by simp
 rw [pkA, if_pos rfl, i 63 q (by omega)]
 simp only
 have := j 63 [] (by omega)
 rw [List.append_nil] at this
 rw [this]
theorem pk_bind {a b : Nat} {p q : Bs} (hp : Is a p) (hq : Is b q) (ha : a < 64) (hb : b < 64) : pk (75 :: (p ++ q)) = 76 :: (pk p ++ q) := by
 have i := (pk_of hp (by omega)).1
 show (pkA (63 + 1) (75 :: (p ++ q))).1 = _
 rw [pkA, if_neg (by decide), if_pos rfl, i 63 q (by omega)]
 simp only
 have := hq.2.2 64 [] (by omega)
 rw [List.append_nil] at this
 rw [this]
 simp [used]
theorem pk_else {a : Nat} {p : Bs} (hp : Is a p) (ha : a ≤ 64) (h1 : p.head? ≠ some 86) (h2 : p.head? ≠ some 75) : pk p = 80 :: p := by
 match p, hp with
 | [], h => exact absurd rfl h.2.1
 | c :: l, h =>
   have c1 : ¬ c = 86 := by intro e; subst e; exact h1 rfl
   have c2 : ¬ c = 75 := by intro e; subst e; exact h2 rfl
   show (pkA (63 + 1) (c :: l)).1 = _
   have := h.2.2 64 [] (by omega)
   rw [List.append_nil] at this
   rw [pkA, if_neg c1, if_neg c2, this]
   simp [used]
def kids1 (f : Bs → Option (Nat × Bs)) (l : Bs) : List Bs := match f l with | none => [] | some (_, r) => [used l r]
def kids2 (f : Bs → Option (Nat × Bs)) (l : Bs) : List Bs := match twoA f l with | none => [] | some (_, r, r') => [used l r, used r r']
def kidsN (f : Bs → Option (Nat × Bs)) : Nat → Bs → List Bs
 | 0, _ => []
 | k + 1, l => match f l with | none => [] | some (_, r) => used l r :: kidsN f k r
def oneA (f : Bs → Option (Nat × Bs)) (l : Bs) : Option (Nat × Bs) := match f l with | none => none | some (d, r) => some (d + 1, r)
def pubA (f : Bs → Option (Nat × Bs)) (l : Bs) : Option (Nat × Bs) := match f l with | none => none | some (d, r) => if l.head? = some 86 ∨ l.head? = some 75 then none else some (d + 1, r)
def two2 (f : Bs → Option (Nat × Bs)) (l : Bs) : Option (Nat × Bs) := match twoA f l with | none => none | some (d, _, r') => some (d, r')
def agreeA (f : Bs → Option (Nat × Bs)) (l : Bs) : Option (Nat × Bs) := match twoA f l with | none => none | some (d, r, r') => if leB (used l r) (used r r') then some (d, r') else none
def jointA (f : Bs → Option (Nat × Bs)) (l : Bs) : Option (Nat × Bs) := match twoA f l with | none => none | some (d, r, r') => if isPk l.head? && isPk r.head? then some (d, r') else none
def boundA (f : Bs → Option (Nat × Bs)) (l : Bs) : Option (Nat × Bs) := match twoA f l with | none => none | some (d, _, r') => if isPk l.head? then some (d, r') else none
def nameA (l : Bs) : Option (Nat × Bs) := match num 59 l with | none => none | some (_, r) => some (1, r)
def textA (l : Bs) : Option (Nat × Bs) := match num 58 l with | none => none | some (k, r) => if k ≤ 4096 ∧ k ≤ r.length then some (1, r.drop k) else none
def tupleA (f : Bs → Option (Nat × Bs)) (l : Bs) : Option (Nat × Bs) := match num 58 l with | none => none | some (k, r) => if k ≤ 32 then manyA f k 1 r else none
theorem rd_cons (n : Nat) (c : UInt8) (l : Bs) : rd (n + 1) (c :: l) =
   if c = 110 then nameA l else if c = 116 then textA l else if c = 84 then tupleA (rd n) l else if c = 80 then pubA (rd n) l else if c = 72 then oneA (rd n) l
   else if isTwo c then two2 (rd n) l else if c = 88 then agreeA (rd n) l else if c = 87 then jointA (rd n) l else if c = 76 then boundA (rd n) l else none := by
 rw [rd]; rfl
def nameN (l : Bs) : Nat := match num 59 l with | none => 0 | some (k, _) => k
def textX (l : Bs) : Bs := match num 58 l with | none => [] | some (k, r) => r.take k
def tupleK (f : Bs → Option (Nat × Bs)) (l : Bs) : List Bs := match num 58 l with | none => [] | some (k, r) => kidsN f k r
def kidsOf (n : Nat) : Bs → List Bs
 | [] => []
 | c :: l => if c = 84 then tupleK (rd n) l else if c = 80 ∨ c = 72 then kids1 (rd n) l else if c = 110 ∨ c = 116 then [] else kids2 (rd n) l
def nOf : Bs → Nat
 | [] => 0
 | c :: l => if c = 110 then nameN l else 0
def xOf : Bs → Bs
 | [] => []
 | c :: l => if c = 116 then textX l else []
theorem rd_len {n : Nat} {l : Bs} {d : Nat} {r : Bs} (h : rd n l = some (d, r)) : r.length < l.length ∧ 1 ≤ d ∧ d ≤ n ∧ l = used l r ++ r := by
 obtain ⟨p, rfl, h1, h2⟩ := rd_good n _ _ _ h
 have := len_pos h2
 rw [used_app]
 exact ⟨by simp; omega, h2.1, h1, rfl⟩
end Go.Proofs.YtkifchjpgdmcoaaGreatDoor.Tm
