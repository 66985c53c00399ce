/- Numbers in few bytes, and rows of records: the document's words. -/
namespace Go.Proofs.YtdhmmllpioppfaaGreat.V

abbrev Bs := List UInt8
abbrev Rec := Nat × Bs

/-- k bytes of a number, the highest first -/
def be : Nat → Nat → Bs
  | 0, _ => []
  | k + 1, n => UInt8.ofNat (n / 256 ^ k) :: be k n
/-- the number that bytes tell, behind a -/
def numOf : Nat → Bs → Nat
  | a, [] => a
  | a, x :: l => numOf (256 * a + x.toNat) l
/-- which form a number has -/
def formN (n : Nat) : Nat := if n < 253 then 0 else if n < 65536 then 1 else if n < 4294967296 then 2 else 3
/-- how many bytes a form has -/
def sizeN (f : Nat) : Nat := if f = 0 then 1 else 1 + 2 ^ f
/-- the form that a first byte says -/
def saidN (c : UInt8) : Nat := if c.toNat < 253 then 0 else c.toNat - 252
def putB (n : Nat) : Bs := if formN n = 0 then [UInt8.ofNat n] else UInt8.ofNat (252 + formN n) :: be (2 ^ formN n) n
/-- the number that bytes of a first one's form tell -/
def valN (c : UInt8) (r : Bs) : Nat := if saidN c = 0 then c.toNat else numOf 0 (r.take (2 ^ saidN c))
def getB : Bs → Nat × Nat × Nat
  | [] => (0, 0, 51)
  | c :: r =>
    if r.length + 1 < sizeN (saidN c) then (0, 0, 51)
    else if formN (valN c r) ≠ saidN c then (0, 0, 50)
    else (valN c r, sizeN (saidN c), 0)

theorem be_len (k n : Nat) : (be k n).length = k := by
  induction k with
  | zero => rfl
  | succ k ih => simp [be, ih]
theorem formN_lt (n : Nat) : formN n < 4 := by
  unfold formN
  repeat' split
  all_goals omega
theorem put_len (n : Nat) : (putB n).length = sizeN (formN n) := by
  unfold putB sizeN
  split
  · rfl
  · simp [be_len]; omega
theorem sizeN_inj {a b : Nat} (h : sizeN a = sizeN b) : a = b := by
  unfold sizeN at h
  split at h <;> split at h
  · omega
  · have := Nat.two_pow_pos b; omega
  · have := Nat.two_pow_pos a; omega
  · exact (Nat.pow_right_inj (by decide : 1 < 2)).1 (by omega : 2 ^ a = 2 ^ b)
theorem sizeN_pos (f : Nat) : 1 ≤ sizeN f := by unfold sizeN; have := Nat.two_pow_pos f; split <;> omega
theorem sizeN_le {f : Nat} (h : f < 4) : sizeN f ≤ 9 := by
  have h' : f = 0 ∨ f = 1 ∨ f = 2 ∨ f = 3 := by omega
  rcases h' with rfl | rfl | rfl | rfl <;> decide
theorem saidN_lt (c : UInt8) : saidN c < 4 := by have := c.toNat_lt; unfold saidN; split <;> omega
theorem numOf_app (a : Nat) (l r : Bs) : numOf a (l ++ r) = numOf (numOf a l) r := by
  induction l generalizing a with
  | nil => rfl
  | cons x l ih => exact ih _
theorem numOf_lin (a : Nat) (l : Bs) : numOf a l = a * 256 ^ l.length + numOf 0 l := by
  induction l generalizing a with
  | nil => simp [numOf]
  | cons x l ih =>
    rw [numOf, ih, numOf, ih (256 * 0 + x.toNat), List.length_cons, Nat.pow_succ]
    have : (256 * a + x.toNat) * 256 ^ l.length = a * (256 ^ l.length * 256) + (256 * 0 + x.toNat) * 256 ^ l.length := by
      rw [Nat.add_mul, Nat.mul_zero, Nat.zero_add, Nat.mul_comm 256 a, Nat.mul_assoc, Nat.mul_comm 256]
    omega
theorem numOf_lt (l : Bs) : numOf 0 l < 256 ^ l.length := by
  induction l with
  | nil => simp [numOf]
  | cons x l ih =>
    rw [numOf, numOf_lin, List.length_cons, Nat.pow_succ]
    have h1 := x.toNat_lt
    have h2 : (256 * 0 + x.toNat) * 256 ^ l.length ≤ 255 * 256 ^ l.length := Nat.mul_le_mul_right _ (by omega)
    omega
theorem be_mod (k n m : Nat) (h : k ≤ m) : be k (n % 256 ^ m) = be k n := by
  induction k with
  | zero => rfl
  | succ k ih =>
    rw [be, be, ih (by omega)]
    congr 1
    apply UInt8.toNat_inj.1
    rw [UInt8.toNat_ofNat', UInt8.toNat_ofNat']
    have e : 256 ^ m = 256 ^ k * 256 ^ (m - k) := by rw [← Nat.pow_add]; congr 1; omega
    rw [e, Nat.mod_mul_right_div_self]
    have e2 : 256 ^ (m - k) = 256 * 256 ^ (m - k - 1) := by rw [← Nat.pow_succ']; congr 1; omega
    rw [e2]
    exact Nat.mod_mul_right_mod _ _ _
theorem numOf_be (k n : Nat) : numOf 0 (be k n) = n % 256 ^ k := by
  induction k with
  | zero => simp [be, numOf]; omega
  | succ k ih =>
    rw [be, numOf, numOf_lin, ih, be_len, UInt8.toNat_ofNat', Nat.mul_zero, Nat.zero_add, Nat.pow_succ 256 k, Nat.mod_mul, Nat.mul_comm, Nat.add_comm]
theorem be_numOf (l : Bs) : be l.length (numOf 0 l) = l := by
  induction l with
  | nil => rfl
  | cons x l ih =>
    have h1 := numOf_lt l
    have e : numOf 0 (x :: l) = x.toNat * 256 ^ l.length + numOf 0 l := by rw [numOf, numOf_lin]; simp
    rw [List.length_cons, be]
    congr 1
    · apply UInt8.toNat_inj.1
      rw [UInt8.toNat_ofNat', e, Nat.mul_comm, Nat.mul_add_div (Nat.pow_pos (by decide)), Nat.div_eq_of_lt h1, Nat.add_zero]
      exact Nat.mod_eq_of_lt x.toNat_lt
    · rw [← be_mod _ _ l.length (Nat.le_refl _), e, Nat.mul_comm, Nat.mul_add_mod, Nat.mod_eq_of_lt h1]
      exact ih
theorem said_first (f : Nat) (h0 : f ≠ 0) (h : f < 4) : saidN (UInt8.ofNat (252 + f)) = f := by
  have h' : f = 1 ∨ f = 2 ∨ f = 3 := by omega
  rcases h' with rfl | rfl | rfl <;> decide
theorem form_room {n : Nat} (h : n < 18446744073709551616) (h0 : formN n ≠ 0) : n < 256 ^ (2 ^ formN n) := by
  unfold formN at h0 ⊢
  split at h0
  · omega
  · split
    · omega
    · split
      · simpa using by omega
      · split
        · simpa using by omega
        · simpa using h
theorem get_put {n : Nat} (h : n < 18446744073709551616) (x : Bs) : getB (putB n ++ x) = (n, (putB n).length, 0) := by
  rw [put_len]
  unfold putB
  by_cases h0 : formN n = 0
  · have hn : n < 253 := by
      unfold formN at h0
      split at h0
      · assumption
      · split at h0
        · omega
        · split at h0 <;> omega
    have hc : (UInt8.ofNat n).toNat = n := by rw [UInt8.toNat_ofNat']; omega
    rw [if_pos h0, List.singleton_append, getB]
    have hs : saidN (UInt8.ofNat n) = 0 := by unfold saidN; rw [hc, if_pos hn]
    rw [valN, hs, hc, if_neg (by simp [sizeN]), if_pos rfl, if_neg (by simp [h0]), h0]
  · rw [if_neg h0, List.cons_append, getB, valN, said_first _ h0 (formN_lt n)]
    have ht : (be (2 ^ formN n) n ++ x).take (2 ^ formN n) = be (2 ^ formN n) n := by
      rw [List.take_append_of_le_length (by rw [be_len]; exact Nat.le_refl _)]
      exact List.take_of_length_le (by rw [be_len]; exact Nat.le_refl _)
    rw [if_neg h0, ht, numOf_be, Nat.mod_eq_of_lt (form_room h h0), if_neg (by simp [sizeN, h0, be_len]; omega), if_neg (by simp)]
theorem get_lt {b : Bs} {n k : Nat} (h : getB b = (n, k, 0)) : n < 18446744073709551616 := by
  cases b with
  | nil => cases h
  | cons c r =>
    rw [getB] at h
    split at h
    · cases h
    · split at h
      · cases h
      · cases h
        unfold valN
        split
        · have := c.toNat_lt; omega
        · have h1 := numOf_lt (r.take (2 ^ saidN c))
          have h2 : (r.take (2 ^ saidN c)).length ≤ 8 := by
            have h3 : 2 ^ saidN c ≤ 2 ^ 3 := Nat.pow_le_pow_right (by decide) (by have := saidN_lt c; omega)
            simp only [List.length_take]
            omega
          have h4 : 256 ^ (r.take (2 ^ saidN c)).length ≤ 256 ^ 8 := Nat.pow_le_pow_right (by decide) h2
          have : (256 : Nat) ^ 8 = 18446744073709551616 := by decide
          omega
theorem get_ok {b : Bs} {n k : Nat} (h : getB b = (n, k, 0)) : b = putB n ++ b.drop k ∧ k = (putB n).length ∧ 1 ≤ k ∧ k ≤ b.length := by
  cases b with
  | nil => cases h
  | cons c r =>
    rw [getB] at h
    split at h
    · cases h
    · rename_i hlen
      split at h
      · cases h
      · rename_i hf
        have hf' : formN (valN c r) = saidN c := Decidable.byContradiction hf
        obtain ⟨hn, hk⟩ := Prod.mk.inj h
        obtain ⟨hk, _⟩ := Prod.mk.inj hk
        rw [hn] at hf'
        have hkl : k = (putB n).length := by rw [put_len, hf', hk]
        refine ⟨?_, hkl, by rw [← hk]; exact sizeN_pos _, by rw [← hk]; simp; omega⟩
        unfold putB
        unfold valN at hn
        by_cases h0 : saidN c = 0
        · rw [if_pos h0] at hn
          rw [hf', if_pos h0, ← hk, h0]
          have : UInt8.ofNat n = c := by rw [← hn]; simp
          rw [this]
          simp [sizeN]
        · rw [if_neg h0] at hn
          have hl : (r.take (2 ^ saidN c)).length = 2 ^ saidN c := by
            unfold sizeN at hlen
            rw [if_neg h0] at hlen
            simp only [List.length_take]; omega
          have hb := be_numOf (r.take (2 ^ saidN c))
          rw [hl, hn] at hb
          have hc : UInt8.ofNat (252 + saidN c) = c := by
            have := c.toNat_lt
            unfold saidN at h0 ⊢
            split at h0
            · omega
            · rw [if_neg (by assumption)]
              apply UInt8.toNat_inj.1
              rw [UInt8.toNat_ofNat']; omega
          rw [hf', if_neg h0, hb, hc, ← hk, sizeN, if_neg h0, Nat.add_comm 1, List.drop_succ_cons, List.cons_append, List.take_append_drop]
theorem put_inj {a b : Nat} {x y : Bs} (ha : a < 18446744073709551616) (hb : b < 18446744073709551616) (h : putB a ++ x = putB b ++ y) : a = b ∧ x = y := by
  have h1 := get_put ha x
  have h2 := get_put hb y
  rw [h, h2] at h1
  have e := (Prod.mk.inj h1).1
  subst e
  exact ⟨rfl, List.append_cancel_left h⟩

/-- do the types rise? -/
def risesB (ahead : List Rec) (t : Nat) : Bool := match ahead.getLast? with
  | none => true
  | some r => decide (r.1 < t)
def recB (r : Rec) : Bs := putB r.1 ++ (putB r.2.length ++ r.2)
def streamB (l : List Rec) : Bs := (l.map recB).flatten
def riseAll : List Rec → List Rec → Bool
  | _, [] => true
  | a, r :: l => risesB a r.1 && riseAll (a ++ [r]) l
def streamR (l : List Rec) : Bs × Nat := if 64 < l.length then ([], 3) else if riseAll [] l = false then ([], 50) else if 32768 < (streamB l).length then ([], 3) else (streamB l, 0)
/-- one record, behind those ahead -/
def nextB (ahead : List Rec) (b : Bs) : Rec × Bs × Nat :=
  if (getB b).2.2 ≠ 0 then ((0, []), [], (getB b).2.2)
  else if risesB ahead (getB b).1 = false then ((0, []), [], 50)
  else if 64 ≤ ahead.length then ((0, []), [], 3)
  else if (getB (b.drop (getB b).2.1)).2.2 ≠ 0 then ((0, []), [], (getB (b.drop (getB b).2.1)).2.2)
  else if ((b.drop (getB b).2.1).drop (getB (b.drop (getB b).2.1)).2.1).length < (getB (b.drop (getB b).2.1)).1 then ((0, []), [], 51)
  else (((getB b).1, ((b.drop (getB b).2.1).drop (getB (b.drop (getB b).2.1)).2.1).take (getB (b.drop (getB b).2.1)).1), ((b.drop (getB b).2.1).drop (getB (b.drop (getB b).2.1)).2.1).drop (getB (b.drop (getB b).2.1)).1, 0)
def recsGo : Nat → List Rec → Bs → List Rec × Nat
  | 0, a, _ => (a, 0)
  | f + 1, a, b => if b = [] then (a, 0) else if (nextB a b).2.2 ≠ 0 then ([], (nextB a b).2.2) else recsGo f (a ++ [(nextB a b).1]) (nextB a b).2.1
def recsB (b : Bs) : List Rec × Nat := if 32768 < b.length then ([], 3) else recsGo b.length [] b
/-- records that can be written: types and lengths are numbers -/
def Fit (r : Rec) : Prop := r.1 < 18446744073709551616 ∧ r.2.length < 18446744073709551616

theorem next_rec {a : List Rec} {r : Rec} {x : Bs} (hr : Fit r) (h1 : risesB a r.1 = true) (h2 : a.length < 64) : nextB a (recB r ++ x) = (r, x, 0) := by
  have e1 : getB (recB r ++ x) = (r.1, (putB r.1).length, 0) := by
    unfold recB; rw [List.append_assoc]; exact get_put hr.1 _
  have e2 : (recB r ++ x).drop (putB r.1).length = putB r.2.length ++ (r.2 ++ x) := by
    unfold recB; rw [List.append_assoc, List.drop_left, List.append_assoc]
  have e3 := get_put hr.2 (r.2 ++ x)
  unfold nextB
  simp only [e1, e2, e3]
  rw [if_neg (by simp), if_neg (by simp [h1]), if_neg (by omega), if_neg (by simp), List.drop_left, if_neg (by simp), List.take_left, List.drop_left]
theorem next_ok {a : List Rec} {b x : Bs} {r : Rec} (h : nextB a b = (r, x, 0)) : b = recB r ++ x ∧ Fit r ∧ risesB a r.1 = true ∧ a.length < 64 := by
  unfold nextB at h
  generalize hg : getB b = g at h
  obtain ⟨t, k, e⟩ := g
  simp only at h
  split at h
  · rename_i c; obtain ⟨_, hh⟩ := Prod.mk.inj h; exact absurd (Prod.mk.inj hh).2 c
  · rename_i he
    have he' : e = 0 := Decidable.byContradiction he
    subst he'
    split at h
    · cases h
    · rename_i hri
      split at h
      · cases h
      · rename_i h64
        generalize hg2 : getB (b.drop k) = g2 at h
        obtain ⟨n, k2, e2⟩ := g2
        simp only at h
        split at h
        · rename_i c; obtain ⟨_, hh⟩ := Prod.mk.inj h; exact absurd (Prod.mk.inj hh).2 c
        · rename_i he2
          have he2' : e2 = 0 := Decidable.byContradiction he2
          subst he2'
          split at h
          · cases h
          · rename_i hn
            obtain ⟨hr, hx⟩ := Prod.mk.inj h
            obtain ⟨hx, _⟩ := Prod.mk.inj hx
            obtain ⟨o1, o2, _⟩ := get_ok hg
            obtain ⟨p1, p2, _⟩ := get_ok hg2
            have hl : (((b.drop k).drop k2).take n).length = n := by simp only [List.length_take]; omega
            subst hr
            refine ⟨?_, ⟨get_lt hg, by rw [hl]; exact get_lt hg2⟩, by simpa using hri, by omega⟩
            unfold recB
            simp only [hl]
            rw [← hx, List.append_assoc, List.append_assoc, List.take_append_drop, ← p1, ← o1]
theorem recs_put : ∀ (l : List Rec) (f : Nat) (a : List Rec), (streamB l).length ≤ f → (∀ r ∈ l, Fit r) → riseAll a l = true → a.length + l.length ≤ 64 → recsGo f a (streamB l) = (a ++ l, 0) := by
  intro l
  induction l with
  | nil => intro f a _ _ _ _; cases f <;> simp [recsGo, streamB]
  | cons r l ih =>
    intro f a hf hr hri hl
    have e : streamB (r :: l) = recB r ++ streamB l := by simp [streamB]
    have hp : 1 ≤ (recB r).length := by unfold recB; simp only [List.length_append, put_len]; have := sizeN_pos (formN r.1); omega
    rw [e] at hf ⊢
    simp only [List.length_append] at hf
    simp only [List.length_cons] at hl
    rw [riseAll, Bool.and_eq_true] at hri
    obtain ⟨f, rfl⟩ : ∃ g, f = g + 1 := ⟨f - 1, by omega⟩
    have hne : recB r ++ streamB l ≠ [] := fun h => by
      have := congrArg List.length h
      simp only [List.length_append, List.length_nil] at this
      omega
    rw [recsGo, if_neg hne, next_rec (hr r (by simp)) hri.1 (by omega), if_neg (by simp), ih f (a ++ [r]) (by omega) (fun x hx => hr x (by simp [hx])) hri.2 (by simp; omega)]
    simp
theorem recs_got : ∀ (f : Nat) (a : List Rec) (b : Bs) (m : List Rec), b.length ≤ f → recsGo f a b = (m, 0) → ∃ l, m = a ++ l ∧ streamB l = b ∧ riseAll a l = true ∧ (a.length ≤ 64 → m.length ≤ 64) ∧ ∀ r ∈ l, Fit r := by
  intro f
  induction f with
  | zero =>
    intro a b m hf h
    have : b = [] := List.length_eq_zero_iff.1 (by omega)
    subst this
    cases h
    exact ⟨[], by simp, rfl, rfl, fun h => h, by simp⟩
  | succ f ih =>
    intro a b m hf h
    rw [recsGo] at h
    split at h
    · rename_i e; subst e; cases h; exact ⟨[], by simp, rfl, rfl, fun h => h, by simp⟩
    · split at h
      · rename_i c; exact absurd (Prod.mk.inj h).2 c
      · rename_i hb he
        have he' : (nextB a b).2.2 = 0 := Decidable.byContradiction he
        generalize hg : nextB a b = g at h he'
        obtain ⟨r, x, e⟩ := g
        simp only at he' h
        subst he'
        obtain ⟨h1, h2, h3, h4⟩ := next_ok hg
        have hp : 1 ≤ (recB r).length := by unfold recB; simp only [List.length_append, put_len]; have := sizeN_pos (formN r.1); omega
        have hlen := congrArg List.length h1
        simp only [List.length_append] at hlen
        obtain ⟨l, g1, g2, g3, g4, g5⟩ := ih _ _ _ (by omega) h
        refine ⟨r :: l, by rw [g1]; simp, by rw [h1, ← g2]; simp [streamB], by rw [riseAll, h3, g3]; rfl, fun _ => g4 (by simp; omega), fun y hy => ?_⟩
        rcases List.mem_cons.1 hy with h | h
        · rw [h]; exact h2
        · exact g5 y h
theorem back_there {l : List Rec} {c : Bs} (hl : ∀ r ∈ l, Fit r) (h : streamR l = (c, 0)) : recsB c = (l, 0) := by
  unfold streamR at h
  split at h
  · cases h
  · split at h
    · cases h
    · split at h
      · cases h
      · cases h
        unfold recsB
        rw [if_neg (by assumption), recs_put l _ [] (Nat.le_refl _) hl (by simpa using ‹¬ riseAll [] l = false›) (by simp; omega)]
        rfl
theorem there_back {b : Bs} {m : List Rec} (h : recsB b = (m, 0)) : streamR m = (b, 0) := by
  unfold recsB at h
  split at h
  · cases h
  · obtain ⟨l, h1, h2, h3, h4, _⟩ := recs_got _ _ _ _ (Nat.le_refl _) h
    simp only [List.nil_append] at h1
    subst h1
    unfold streamR
    rw [if_neg (by have := h4 (by simp); omega), if_neg (by simp [h3]), h2, if_neg (by assumption)]
theorem recs_err {b : Bs} {m : List Rec} {e : Nat} (h : recsB b = (m, e)) (he : e ≠ 0) : m = [] := by
  have go : ∀ (f : Nat) (a : List Rec) (b : Bs) (m : List Rec) (e : Nat), recsGo f a b = (m, e) → e ≠ 0 → m = [] := by
    intro f
    induction f with
    | zero => intro a b m e h he; cases h; exact absurd rfl he
    | succ f ih =>
      intro a b m e h he
      rw [recsGo] at h
      split at h
      · cases h; exact absurd rfl he
      · split at h
        · cases h; rfl
        · exact ih _ _ _ _ h he
  unfold recsB at h
  split at h
  · cases h; rfl
  · exact go _ _ _ _ _ h he
/-- which of two rows of bytes comes first -/
def blt : Bs → Bs → Bool
  | _, [] => false
  | [], _ :: _ => true
  | a :: x, b :: y => a < b || (a == b && blt x y)
theorem numOf_cons (x : UInt8) (l : Bs) : numOf 0 (x :: l) = x.toNat * 256 ^ l.length + numOf 0 l := by
  rw [numOf, numOf_lin]; simp
theorem blt_num : ∀ (x y : Bs), x.length = y.length → (blt x y = true ↔ numOf 0 x < numOf 0 y)
  | [], [], _ => by simp [blt, numOf]
  | [], _ :: _, h => by simp at h
  | _ :: _, [], h => by simp at h
  | a :: x, b :: y, h => by
    have hl : x.length = y.length := by simpa using h
    have ih := blt_num x y hl
    have h1 := numOf_lt x
    have h2 := numOf_lt y
    rw [numOf_cons, numOf_cons, hl]
    rw [hl] at h1
    simp only [blt, Bool.or_eq_true, decide_eq_true_eq, Bool.and_eq_true, beq_iff_eq]
    generalize 256 ^ y.length = p at h1 h2 ⊢
    rw [ih, UInt8.lt_iff_toNat_lt, ← UInt8.toNat_inj]
    generalize a.toNat = m
    generalize b.toNat = n
    constructor
    · rintro (h | ⟨h, k⟩)
      · have : (m + 1) * p ≤ n * p := Nat.mul_le_mul_right _ h
        rw [Nat.add_mul] at this
        omega
      · rw [h]; omega
    · intro h
      rcases Nat.lt_trichotomy m n with g | g | g
      · exact Or.inl g
      · subst g; exact Or.inr ⟨rfl, by omega⟩
      · have : (n + 1) * p ≤ m * p := Nat.mul_le_mul_right _ g
        rw [Nat.add_mul] at this
        omega
theorem formN_mono {a b : Nat} (h : a ≤ b) : formN a ≤ formN b := by
  unfold formN
  repeat' split
  all_goals omega
theorem sizeN_mono {a b : Nat} (h : a ≤ b) : sizeN a ≤ sizeN b := by
  unfold sizeN
  have h1 : 2 ^ a ≤ 2 ^ b := Nat.pow_le_pow_right (by decide) h
  have h2 := Nat.two_pow_pos b
  split <;> split <;> omega
theorem put_fewer {a b : Nat} (h : (putB a).length < (putB b).length) : a < b := by
  rw [put_len, put_len] at h
  apply Decidable.byContradiction
  intro hn
  have := sizeN_mono (formN_mono (Nat.le_of_not_lt hn))
  omega
theorem put_less {a b : Nat} (ha : a < 18446744073709551616) (hb : b < 18446744073709551616) (h : (putB a).length = (putB b).length) : blt (putB a) (putB b) = decide (a < b) := by
  rw [put_len, put_len] at h
  have hf := sizeN_inj h
  have key : ∀ n, n < 18446744073709551616 → formN n ≠ 0 → numOf 0 (be (2 ^ formN n) n) = n := fun n hn h0 => by
    rw [numOf_be, Nat.mod_eq_of_lt (form_room hn h0)]
  have hz : ∀ n, formN n = 0 → n < 253 := fun n h0 => by
    unfold formN at h0
    split at h0
    · assumption
    · split at h0
      · omega
      · split at h0 <;> omega
  unfold putB
  by_cases h0 : formN a = 0
  · have h0b : formN b = 0 := by omega
    have h1 := hz a h0
    have h2 := hz b h0b
    rw [if_pos h0, if_pos h0b]
    simp only [blt, Bool.and_false, Bool.or_false, UInt8.lt_iff_toNat_lt, UInt8.toNat_ofNat']
    rw [Nat.mod_eq_of_lt (by omega), Nat.mod_eq_of_lt (by omega)]
  · have h0b : formN b ≠ 0 := by omega
    have e := blt_num (be (2 ^ formN a) a) (be (2 ^ formN b) b) (by rw [be_len, be_len, hf])
    rw [key a ha h0, key b hb h0b] at e
    rw [if_neg h0, if_neg h0b]
    simp only [blt]
    rw [hf, Bool.eq_iff_iff]
    rw [hf] at e
    simp [e]
theorem take_min {a b : Nat} (ha : a < 18446744073709551616) (hb : b < 18446744073709551616) (h : (putB a).take (min (putB a).length (putB b).length) = (putB b).take (min (putB a).length (putB b).length)) : a = b := by
  by_cases hl : (putB a).length ≤ (putB b).length
  · rw [Nat.min_eq_left hl, List.take_length] at h
    refine (put_inj (x := (putB b).drop (putB a).length) (y := []) ha hb ?_).1
    rw [List.append_nil]
    calc putB a ++ (putB b).drop (putB a).length = (putB b).take (putB a).length ++ (putB b).drop (putB a).length := by rw [← h]
      _ = putB b := List.take_append_drop _ _
  · rw [Nat.min_eq_right (by omega), List.take_length] at h
    refine (put_inj (x := []) (y := (putB a).drop (putB b).length) ha hb ?_).1
    rw [List.append_nil]
    calc putB a = (putB a).take (putB b).length ++ (putB a).drop (putB b).length := (List.take_append_drop _ _).symm
      _ = putB b ++ (putB a).drop (putB b).length := by rw [h]
end Go.Proofs.YtdhmmllpioppfaaGreat.V
