/- Locks read as mathematics: what is written is read, and what is read is written as it was. No program in it. -/
import Derived.Test.YtdllpklecdmghaaDoorScnAll
namespace Go.Proofs.YtdllpklecdmghaaDoor.Lk
open Tm

/-- so many locks, one behind the other -/
def readK (f : Nat → Bs → Lt × Bs × Nat) : Nat → Nat → Bs → List Lt × Bs × Nat
  | 0, p, s => ([], s, p)
  | n + 1, p, s => ((readK f n p s).1 ++ [(f (readK f n p s).2.2 (readK f n p s).2.1).1], (f (readK f n p s).2.2 (readK f n p s).2.1).2.1, (f (readK f n p s).2.2 (readK f n p s).2.1).2.2)
/-- the lock that a text begins with, behind p parts; what is left of the text; how many parts there were then -/
def readP : Nat → Nat → Bs → Lt × Bs × Nat
  | 0, p, s => (.zero, s, p + 1)
  | g + 1, p, s =>
    if 64 ≤ p then (.zero, s, p + 1)
    else if Sc.kindOf (s.headD 0) = 1 ∨ Sc.kindOf (s.headD 0) = 2 then (.mk (Sc.kindOf (s.headD 0)) (Sc.piece (s.drop 1)) 0 [], (s.drop 1).drop (Sc.piece (s.drop 1)).length, p + 1)
    else if Sc.kindOf (s.headD 0) = 3 ∨ Sc.kindOf (s.headD 0) = 4 then (match Sc.nm 59 1073741823 (s.drop 1) with
      | none => (.mk (Sc.kindOf (s.headD 0)) [] (-1) [], s.drop 1, p + 1)
      | some (n, r) => (.mk (Sc.kindOf (s.headD 0)) [] (n : Int) [], r, p + 1))
    else if Sc.kindOf (s.headD 0) = 5 ∨ Sc.kindOf (s.headD 0) = 6 then (match Sc.nm 58 8 (s.drop 1) with
      | none => (.mk (Sc.kindOf (s.headD 0)) [] 0 [], s.drop 1, p + 1)
      | some (n, r) => (.mk (Sc.kindOf (s.headD 0)) [] 0 (readK (readP g) n (p + 1) r).1, (readK (readP g) n (p + 1) r).2.1, (readK (readP g) n (p + 1) r).2.2))
    else (.mk 0 [] 0 [], s.drop 1, p + 1)
theorem kind_letter {k : Nat} (h1 : 1 ≤ k) (h6 : k ≤ 6) : Sc.kindOf (letter k) = k := by
  have : k = 1 ∨ k = 2 ∨ k = 3 ∨ k = 4 ∨ k = 5 ∨ k = 6 := by omega
  rcases this with rfl | rfl | rfl | rfl | rfl | rfl <;> rfl
theorem letter_kind {c : UInt8} (h : Sc.kindOf c ≠ 0) : c = letter (Sc.kindOf c) := by
  unfold Sc.kindOf at h ⊢
  by_cases h1 : c = 115
  · subst h1; rfl
  by_cases h2 : c = 112
  · subst h2; rfl
  by_cases h3 : c = 97
  · subst h3; rfl
  by_cases h4 : c = 111
  · subst h4; rfl
  by_cases h5 : c = 38
  · subst h5; rfl
  by_cases h6 : c = 124
  · subst h6; rfl
  simp [h1, h2, h3, h4, h5, h6] at h
theorem text_letter {s : Bs} (h : Sc.kindOf (s.headD 0) ≠ 0) : s = letter (Sc.kindOf (s.headD 0)) :: s.drop 1 := by
  cases s with
  | nil => exact absurd rfl h
  | cons c r =>
    have := letter_kind (c := c) h
    show c :: r = letter (Sc.kindOf c) :: r
    rw [← this]
theorem fit_is_kind {k : Nat} {t : Bs} {n : Int} {ks : List Lt} (h : fit (.mk k t n ks) = true) : 1 ≤ k ∧ k ≤ 6 := by
  apply Classical.byContradiction
  intro hn
  have : fit (.mk k t n ks) = false := by
    unfold fit
    rw [if_neg (by show ¬ k = 1; omega), if_neg (by show ¬ k = 2; omega), if_neg (by show ¬ (k = 3 ∨ k = 4); omega), if_neg (by show ¬ (k = 5 ∨ k = 6); omega)]
  rw [this] at h
  cases h
theorem fitT {k : Nat} {t : Bs} {n : Int} {ks : List Lt} (hk : k = 1 ∨ k = 2) (h : fit (.mk k t n ks) = true) : n = 0 ∧ ks = [] ∧ deep t ≠ 0 := by
  unfold fit at h
  rcases hk with rfl | rfl
  · rw [if_pos (show (Lt.mk 1 t n ks).kind = 1 from rfl), Bool.and_eq_true, Bool.and_eq_true] at h
    have h3 := h.2
    unfold isKey at h3
    rw [Bool.and_eq_true] at h3
    exact ⟨of_decide_eq_true h.1.1, List.eq_nil_of_length_eq_zero (of_decide_eq_true h.1.2), bne_iff_ne.1 h3.1⟩
  · rw [if_neg (show ¬ (Lt.mk 2 t n ks).kind = 1 by show ¬ (2 = 1); omega), if_pos (show (Lt.mk 2 t n ks).kind = 2 from rfl), Bool.and_eq_true, Bool.and_eq_true] at h
    have h3 := h.2
    unfold isOp at h3
    rw [Bool.and_eq_true] at h3
    exact ⟨of_decide_eq_true h.1.1, List.eq_nil_of_length_eq_zero (of_decide_eq_true h.1.2), bne_iff_ne.1 h3.1⟩
theorem fitN {k : Nat} {t : Bs} {n : Int} {ks : List Lt} (hk : k = 3 ∨ k = 4) (h : fit (.mk k t n ks) = true) : t = [] ∧ ks = [] ∧ 0 ≤ n ∧ n ≤ 1073741823 := by
  unfold fit at h
  rw [if_neg (show ¬ (Lt.mk k t n ks).kind = 1 by show ¬ (k = 1); omega), if_neg (show ¬ (Lt.mk k t n ks).kind = 2 by show ¬ (k = 2); omega), if_pos (show (Lt.mk k t n ks).kind = 3 ∨ (Lt.mk k t n ks).kind = 4 from hk), Bool.and_eq_true, Bool.and_eq_true, Bool.and_eq_true] at h
  exact ⟨List.eq_nil_of_length_eq_zero (of_decide_eq_true h.1.1.1), List.eq_nil_of_length_eq_zero (of_decide_eq_true h.1.1.2), of_decide_eq_true h.1.2, of_decide_eq_true h.2⟩
theorem fitK {k : Nat} {t : Bs} {n : Int} {ks : List Lt} (hk : k = 5 ∨ k = 6) (h : fit (.mk k t n ks) = true) : t = [] ∧ n = 0 ∧ ks.length ≠ 0 ∧ ks.length ≤ 8 := by
  unfold fit at h
  rw [if_neg (show ¬ (Lt.mk k t n ks).kind = 1 by show ¬ (k = 1); omega), if_neg (show ¬ (Lt.mk k t n ks).kind = 2 by show ¬ (k = 2); omega), if_neg (show ¬ ((Lt.mk k t n ks).kind = 3 ∨ (Lt.mk k t n ks).kind = 4) by show ¬ (k = 3 ∨ k = 4); omega), if_pos (show (Lt.mk k t n ks).kind = 5 ∨ (Lt.mk k t n ks).kind = 6 from hk), Bool.and_eq_true, Bool.and_eq_true, Bool.and_eq_true] at h
  exact ⟨List.eq_nil_of_length_eq_zero (of_decide_eq_true h.1.1.1), of_decide_eq_true h.1.1.2, of_decide_eq_true h.1.2, of_decide_eq_true h.2⟩
theorem wrs_snoc : ∀ (a : List Lt) (x : Lt), wrs (a ++ [x]) = wrs a ++ wr x
  | [], x => by simp [wrs]
  | y :: a, x => by rw [List.cons_append, wrs, wrs, wrs_snoc a x, List.append_assoc]
theorem sizes_snoc : ∀ (a : List Lt) (x : Lt), sizes (a ++ [x]) = sizes a + size x
  | [], x => by simp [sizes]
  | y :: a, x => by rw [List.cons_append, sizes, sizes, sizes_snoc a x]; omega
theorem oks_snoc : ∀ (a : List Lt) (x : Lt), oks (a ++ [x]) = (oks a && ok x)
  | [], x => by simp [oks]
  | y :: a, x => by rw [List.cons_append, oks, oks, oks_snoc a x, Bool.and_assoc]
theorem snoc_ind {P : List Lt → Prop} (h0 : P []) (h1 : ∀ ms y, P ms → P (ms ++ [y])) (l : List Lt) : P l := by
  have h : ∀ r : List Lt, P r.reverse := by
    intro r
    induction r with
    | nil => exact h0
    | cons y r ih => rw [List.reverse_cons]; exact h1 _ _ ih
  have h2 := h l.reverse
  rw [List.reverse_reverse] at h2
  exact h2
/-- what is written is read -/
theorem read_wr : ∀ (l : Lt), ok l = true → ∀ (g p : Nat) (x : Bs), p + size l ≤ 64 → 64 - p < g → readP g p (wr l ++ x) = (l, x, p + size l) := by
  intro l
  induction l using Lt.ind with
  | h k t n ks ih =>
    intro hok g p x hp hg
    rw [ok, Bool.and_eq_true] at hok
    obtain ⟨hf, hoks⟩ := hok
    obtain ⟨g, rfl⟩ : ∃ j, g = j + 1 := ⟨g - 1, by omega⟩
    have hk := fit_is_kind hf
    have hkl := kind_letter hk.1 hk.2
    rw [size] at hp ⊢
    rw [wr, List.cons_append, readP, if_neg (by omega)]
    simp only [List.headD_cons, List.drop_succ_cons, List.drop_zero, hkl]
    by_cases h12 : k = 1 ∨ k = 2
    · obtain ⟨rfl, rfl, hd⟩ := fitT h12 hf
      rw [if_pos h12, if_pos h12, Sc.piece_right hd]
      simp [sizes]
    · rw [if_neg h12, if_neg h12]
      by_cases h34 : k = 3 ∨ k = 4
      · obtain ⟨rfl, rfl, h0, h1⟩ := fitN h34 hf
        rw [if_pos h34, if_pos h34, List.append_assoc, List.singleton_append, Sc.nm_dec (by decide) (by omega)]
        simp only [sizes]
        rw [Int.toNat_of_nonneg h0]
      · rw [if_neg h34, if_neg h34]
        have h56 : k = 5 ∨ k = 6 := by omega
        obtain ⟨rfl, rfl, h0, h8⟩ := fitK h56 hf
        rw [if_pos h56, List.append_assoc, List.cons_append, Sc.nm_dec (by decide) h8]
        simp only
        have hK : ∀ (ms : List Lt), (∀ y ∈ ms, y ∈ ks) → oks ms = true → ∀ q z, q + sizes ms ≤ 64 → 64 - q < g → readK (readP g) ms.length q (wrs ms ++ z) = (ms, z, q + sizes ms) := by
          intro ms
          induction ms using snoc_ind with
          | h0 => intro _ _ q z _ _; simp [readK, wrs, sizes]
          | h1 ms y ihm =>
            intro hm ho q z hq hgq
            rw [oks_snoc, Bool.and_eq_true] at ho
            rw [sizes_snoc] at hq ⊢
            rw [List.length_append, List.length_singleton, readK, wrs_snoc, List.append_assoc, ihm (fun u hu => hm u (by simp [hu])) ho.1 q (wr y ++ z) (by omega) hgq]
            simp only
            rw [ih y (hm y (by simp)) ho.2 g (q + sizes ms) z (by omega) (by omega)]
            simp only [Nat.add_assoc]
        rw [hK ks (fun _ h => h) hoks (p + 1) x (by omega) (by omega)]
        simp only [Nat.add_assoc]
theorem readK_len (f : Nat → Bs → Lt × Bs × Nat) : ∀ (n p : Nat) (s : Bs), (readK f n p s).1.length = n
  | 0, _, _ => rfl
  | n + 1, p, s => by rw [readK]; simp [readK_len f n p s]
theorem piece_is (s : Bs) : s = Sc.piece s ++ s.drop (Sc.piece s).length := by
  have h : Sc.piece s <+: s := by
    unfold Sc.piece
    split
    · exact List.nil_prefix
    · exact (List.take_prefix _ _).trans (List.take_prefix _ _)
  obtain ⟨y, hy⟩ := h
  generalize Sc.piece s = P at *
  subst hy
  simp
theorem ok_zero : ok Lt.zero = false := by
  have h : fit (.mk 0 [] 0 []) = false := by unfold fit; rfl
  unfold Lt.zero
  rw [ok, h]
  rfl
/-- what is read is written as it was -/
theorem wr_read : ∀ (g p : Nat) (s : Bs), ok (readP g p s).1 = true → s = wr (readP g p s).1 ++ (readP g p s).2.1
  | 0, p, s, h => by
    rw [readP] at h
    have h' : ok Lt.zero = true := h
    rw [ok_zero] at h'
    cases h'
  | g + 1, p, s, h => by
    have ihg := wr_read g
    rw [readP] at h ⊢
    by_cases hp : 64 ≤ p
    · rw [if_pos hp] at h
      have h' : ok Lt.zero = true := h
      rw [ok_zero] at h'
      cases h'
    · rw [if_neg hp] at h ⊢
      by_cases h12 : Sc.kindOf (s.headD 0) = 1 ∨ Sc.kindOf (s.headD 0) = 2
      · rw [if_pos h12] at h ⊢
        have ht := text_letter (s := s) (by omega)
        simp only
        rw [wr, if_pos h12, List.cons_append, ← piece_is (s.drop 1)]
        exact ht
      · rw [if_neg h12] at h ⊢
        by_cases h34 : Sc.kindOf (s.headD 0) = 3 ∨ Sc.kindOf (s.headD 0) = 4
        · rw [if_pos h34] at h ⊢
          have ht := text_letter (s := s) (by omega)
          cases hn : Sc.nm 59 1073741823 (s.drop 1) with
          | none =>
            rw [hn] at h
            simp only at h
            rw [ok, Bool.and_eq_true] at h
            have := (fitN h34 h.1).2.2.1
            omega
          | some q =>
            obtain ⟨n, r⟩ := q
            simp only
            rw [wr, if_neg h12, if_pos h34, List.cons_append, Int.toNat_natCast, List.append_assoc, List.singleton_append, ← (Sc.nm_inv hn).1]
            exact ht
        · rw [if_neg h34] at h ⊢
          by_cases h56 : Sc.kindOf (s.headD 0) = 5 ∨ Sc.kindOf (s.headD 0) = 6
          · rw [if_pos h56] at h ⊢
            have ht := text_letter (s := s) (by omega)
            cases hn : Sc.nm 58 8 (s.drop 1) with
            | none =>
              rw [hn] at h
              simp only at h
              rw [ok, Bool.and_eq_true] at h
              have := (fitK h56 h.1).2.2.1
              simp at this
            | some q =>
              obtain ⟨n, r⟩ := q
              rw [hn] at h
              simp only at h ⊢
              rw [ok, Bool.and_eq_true] at h
              have hK : ∀ (m q : Nat) (z : Bs), oks (readK (readP g) m q z).1 = true → z = wrs (readK (readP g) m q z).1 ++ (readK (readP g) m q z).2.1 := by
                intro m
                induction m with
                | zero => intro q z _; simp [readK, wrs]
                | succ m ihm =>
                  intro q z ho
                  rw [readK] at ho ⊢
                  simp only at ho ⊢
                  rw [oks_snoc, Bool.and_eq_true] at ho
                  have h1 := ihm q z ho.1
                  have h2 := ihg _ _ ho.2
                  rw [wrs_snoc, List.append_assoc, ← h2]
                  exact h1
              have hz := hK n (p + 1) r h.2
              rw [wr, if_neg h12, if_neg h34, readK_len, List.cons_append, List.append_assoc, List.cons_append, ← hz, ← (Sc.nm_inv hn).1]
              exact ht
          · rw [if_neg h56] at h
            have h' : ok Lt.zero = true := h
            rw [ok_zero] at h'
            cases h'
/-- what Read answers: the lock that the text is, if it is a right one's -/
def rdRes (s : Bs) : Option Lt := if (readP 65 0 s).2.1 = [] ∧ right (readP 65 0 s).1 = true then some (readP 65 0 s).1 else none
theorem rdRes_iff (s : Bs) (l : Lt) : rdRes s = some l ↔ right l = true ∧ s = wr l := by
  unfold rdRes
  constructor
  · intro h
    split at h
    · rename_i hc
      cases h
      have := wr_read 65 0 s ((right_is _).1 hc.2).1
      rw [hc.1, List.append_nil] at this
      exact ⟨hc.2, this⟩
    · cases h
  · rintro ⟨hr, rfl⟩
    have ho := (right_is l).1 hr
    have h := read_wr l ho.1 65 0 [] (by omega) (by omega)
    rw [List.append_nil] at h
    rw [h]
    simp [hr]
theorem wr_inj {a b : Lt} (ha : right a = true) (hb : right b = true) (h : wr a = wr b) : a = b := by
  have h1 := (rdRes_iff (wr a) a).2 ⟨ha, rfl⟩
  have h2 := (rdRes_iff (wr a) b).2 ⟨hb, h⟩
  rw [h1] at h2
  cases h2
  rfl
/-- no row of calls counts far past the bound -/
theorem readP_few : ∀ (g p : Nat) (s : Bs), p + 1 ≤ (readP g p s).2.2 ∧ (readP g p s).2.2 + 9 * (64 - (readP g p s).2.2) ≤ p + 9 * (64 - p) + 1
  | 0, p, s => by rw [readP]; simp only; omega
  | g + 1, p, s => by
    have ihg := readP_few g
    rw [readP]
    by_cases hp : 64 ≤ p
    · rw [if_pos hp]; simp only; omega
    · rw [if_neg hp]
      by_cases h12 : Sc.kindOf (s.headD 0) = 1 ∨ Sc.kindOf (s.headD 0) = 2
      · rw [if_pos h12]; simp only; omega
      · rw [if_neg h12]
        by_cases h34 : Sc.kindOf (s.headD 0) = 3 ∨ Sc.kindOf (s.headD 0) = 4
        · rw [if_pos h34]
          cases Sc.nm 59 1073741823 (s.drop 1) with
          | none => simp only; omega
          | some q => simp only; omega
        · rw [if_neg h34]
          by_cases h56 : Sc.kindOf (s.headD 0) = 5 ∨ Sc.kindOf (s.headD 0) = 6
          · rw [if_pos h56]
            cases hn : Sc.nm 58 8 (s.drop 1) with
            | none => simp only; omega
            | some q =>
              obtain ⟨n, r⟩ := q
              have hn8 := (Sc.nm_inv hn).2
              simp only
              have hK : ∀ (m q : Nat) (z : Bs), q ≤ (readK (readP g) m q z).2.2 ∧ (readK (readP g) m q z).2.2 + 9 * (64 - (readK (readP g) m q z).2.2) ≤ q + 9 * (64 - q) + m := by
                intro m
                induction m with
                | zero => intro q z; simp [readK]
                | succ m ihm =>
                  intro q z
                  rw [readK]
                  simp only
                  have h1 := ihm q z
                  have h2 := ihg (readK (readP g) m q z).2.2 (readK (readP g) m q z).2.1
                  omega
              have := hK n (p + 1) r
              omega
          · rw [if_neg h56]; simp only; omega
end Go.Proofs.YtdllpklecdmghaaDoor.Lk
