import Derived.Test.YtdllpklecdmghaaGreatDoorDrAll
import Derived.Lib.ItoaNum
/- Numbers in texts: written and scanned. No program in it. -/
namespace Go.Proofs.YtdllpklecdmghaaGreatDoor.Sc
open Tm
theorem dig_nat {k : Nat} (h : k < 10) : (UInt8.ofNat (48 + k)).toNat = 48 + k := by simp; omega
theorem nmGo_digit {e : UInt8} (he : 57 < e.toNat) {most n i k : Nat} (hk : k < 10) (hz : ¬ (0 < i ∧ n = 0)) (hm : 10 * n + k ≤ most) (y : Bs) : nmGo e most n i (UInt8.ofNat (48 + k) :: y) = nmGo e most (10 * n + k) (i + 1) y := by
  have h1 := dig_nat hk
  have hne : ¬ (UInt8.ofNat (48 + k) = e ∧ 0 < i) := fun h => by have := congrArg UInt8.toNat h.1; rw [h1] at this; omega
  rw [nmGo, if_neg hne, if_neg (by rw [h1]; omega), if_neg (by rw [h1]; omega), h1, show 48 + k - 48 = k by omega]
theorem dec_pos (n : Nat) : 0 < (Lib.decDigits n).length := by
  by_cases h : n < 10
  · rw [Lib.decDigits_one h]; simp
  · rw [Lib.decDigits, dif_neg h]; simp
theorem dec_next {n k : Nat} (hn : n ≠ 0) (hk : k < 10) : Lib.decDigits (10 * n + k) = Lib.decDigits n ++ [UInt8.ofNat (48 + k)] := by
  rw [Lib.decDigits, dif_neg (by omega), show (10 * n + k) / 10 = n by omega, show (10 * n + k) % 10 = k by omega]
theorem nmGo_dec {e : UInt8} (he : 57 < e.toNat) {most : Nat} : ∀ (k : Nat), k ≤ most → ∀ y, nmGo e most 0 0 (Lib.decDigits k ++ y) = nmGo e most k (Lib.decDigits k).length y := by
  intro k
  induction k using Nat.strongRecOn with
  | ind k ih =>
    intro hk y
    by_cases h : k < 10
    · rw [Lib.decDigits_one h]
      have := nmGo_digit he h (n := 0) (i := 0) (by omega) (by omega : 10 * 0 + k ≤ most) y
      rw [List.cons_append, List.nil_append, this]
      simp
    · obtain ⟨n, j, hj, hn, rfl⟩ : ∃ n j, j < 10 ∧ n ≠ 0 ∧ k = 10 * n + j := ⟨k / 10, k % 10, by omega, by omega, by omega⟩
      rw [dec_next hn hj, List.append_assoc, ih n (by omega) (by omega), List.cons_append, List.nil_append, nmGo_digit he hj (by omega) hk, List.length_append]
      rfl
theorem nm_dec {e : UInt8} (he : 57 < e.toNat) {most n : Nat} (hn : n ≤ most) (x : Bs) : nm e most (Lib.decDigits n ++ e :: x) = some (n, x) := by
  have := dec_pos n
  rw [nm, nmGo_dec he n hn, nmGo, if_pos ⟨rfl, this⟩]
theorem nmGo_inv {e : UInt8} {most : Nat} : ∀ (s : Bs) (n i m : Nat) (r : Bs), (i = 0 → n = 0) → nmGo e most n i s = some (m, r) → ∃ ds, s = ds ++ e :: r ∧ Lib.decDigits m = (if i = 0 then [] else Lib.decDigits n) ++ ds ∧ (i = 0 → ds ≠ [])
  | [], n, i, m, r, _, h => by simp [nmGo] at h
  | c :: l, n, i, m, r, hi, h => by
    rw [nmGo] at h
    by_cases h1 : c = e ∧ 0 < i
    · rw [if_pos h1] at h
      simp at h
      obtain ⟨rfl, rfl⟩ := h
      exact ⟨[], by rw [h1.1]; rfl, by rw [if_neg (by omega)]; simp, fun h0 => by omega⟩
    · rw [if_neg h1] at h
      by_cases h2 : c.toNat < 48 ∨ 57 < c.toNat ∨ (0 < i ∧ n = 0)
      · rw [if_pos h2] at h; cases h
      · rw [if_neg h2] at h
        by_cases h3 : most < 10 * n + (c.toNat - 48)
        · rw [if_pos h3] at h; cases h
        · rw [if_neg h3] at h
          obtain ⟨ds, e1, e2, _⟩ := nmGo_inv l _ (i + 1) m r (fun h0 => by omega) h
          have hc : UInt8.ofNat (48 + (c.toNat - 48)) = c := by rw [show 48 + (c.toNat - 48) = c.toNat by omega]; simp
          refine ⟨c :: ds, by rw [e1]; rfl, ?_, fun _ => by simp⟩
          rw [e2, if_neg (by omega)]
          by_cases h0 : i = 0
          · rw [if_pos h0, hi h0, show 10 * 0 + (c.toNat - 48) = c.toNat - 48 by omega, Lib.decDigits_one (by omega), hc]
            rfl
          · rw [if_neg h0, dec_next (by omega) (by omega), hc]
            simp
theorem nm_inv {e : UInt8} {most n : Nat} {s r : Bs} (h : nm e most s = some (n, r)) : s = Lib.decDigits n ++ e :: r ∧ n ≤ most := by
  obtain ⟨ds, h1, h2, _⟩ := nmGo_inv s 0 0 n r (fun _ => rfl) h
  rw [if_pos rfl, List.nil_append] at h2
  exact ⟨by rw [h2]; exact h1, nmGo_most (Nat.zero_le _) h⟩
end Go.Proofs.YtdllpklecdmghaaGreatDoor.Sc
/- A right term with anything behind is scanned as that term. No program in it. -/
namespace Go.Proofs.YtdllpklecdmghaaGreatDoor.Sc
open Tm
theorem numGo_ge {e : UInt8} : ∀ (l : Bs) (n m : Nat) (r : Bs), numGo e n l = some (m, r) → n ≤ m
  | [], n, m, r, h => by simp [numGo] at h
  | c :: l, n, m, r, h => by
    rw [numGo] at h
    by_cases hc : c = e
    · rw [if_pos hc] at h
      simp at h
      omega
    · rw [if_neg hc] at h
      split at h
      · have := numGo_ge l _ m r h
        omega
      · cases h
theorem numGo_nm {e : UInt8} {most : Nat} : ∀ (l : Bs) (n i m : Nat) (r : Bs), 0 < i → n ≠ 0 → m ≤ most → numGo e n l = some (m, r) → nmGo e most n i l = some (m, r)
  | [], n, i, m, r, _, _, _, h => by simp [numGo] at h
  | c :: l, n, i, m, r, hi, hn, hm, h => by
    rw [numGo] at h
    rw [nmGo]
    by_cases hc : c = e
    · rw [if_pos hc] at h
      rw [if_pos ⟨hc, hi⟩]
      exact h
    · rw [if_neg hc] at h
      rw [if_neg (fun x => hc x.1)]
      split at h
      · rename_i hd
        have := numGo_ge l _ m r h
        rw [if_neg (by omega), if_neg (by omega)]
        exact numGo_nm l _ (i + 1) m r (by omega) (by omega) hm h
      · cases h
theorem num_nm {e : UInt8} {most : Nat} {l r : Bs} {n : Nat} (h : num e l = some (n, r)) (hm : n ≤ most) : nm e most l = some (n, r) := by
  unfold num at h
  match hg : numGo e 0 l with
  | none => rw [hg] at h; cases h
  | some (k, r0) =>
    rw [hg] at h
    simp only at h
    split at h
    · cases h
    · rename_i hc
      simp at h
      obtain ⟨rfl, rfl⟩ := h
      match l, hg with
      | [], hg => simp [numGo] at hg
      | c :: l, hg =>
        have hg0 := hg
        rw [numGo] at hg
        unfold nm
        rw [nmGo]
        by_cases hce : c = e
        · rw [if_pos hce] at hg
          simp at hg
          obtain ⟨_, rfl⟩ := hg
          exact absurd (Or.inl (by simp)) hc
        · rw [if_neg hce] at hg
          rw [if_neg (fun x => hce x.1)]
          split at hg
          · rename_i hd
            have hge := numGo_ge l _ k r0 hg
            rw [if_neg (by omega), if_neg (by omega)]
            by_cases hz : 10 * 0 + (c.toNat - 48) = 0
            · rw [hz] at hg ⊢
              match l, hg with
              | [], hg => simp [numGo] at hg
              | c2 :: l2, hg =>
                rw [nmGo]
                by_cases h2 : c2 = e
                · rw [numGo, if_pos h2] at hg
                  rw [if_pos ⟨h2, by omega⟩]
                  exact hg
                · rw [numGo, if_neg h2] at hg
                  split at hg
                  · have hl := numGo_len hg
                    have hc48 : c = 48 := by
                      have : c.toNat = 48 := by omega
                      exact UInt8.toNat_inj.1 this
                    refine absurd (Or.inr ⟨?_, by rw [hc48]; rfl⟩) hc
                    simp
                    omega
                  · cases hg
            · exact numGo_nm l _ _ k r0 (by omega) hz hm hg
          · cases hg
theorem numGo_le {e : UInt8} : ∀ (l : Bs) (n m : Nat) (r : Bs), n ≤ 9223372036854775807 → numGo e n l = some (m, r) → m ≤ 9223372036854775807
  | [], n, m, r, _, h => by simp [numGo] at h
  | c :: l, n, m, r, hn, h => by
    rw [numGo] at h
    by_cases hc : c = e
    · rw [if_pos hc] at h
      simp at h
      omega
    · rw [if_neg hc] at h
      split at h
      · rename_i hd
        exact numGo_le l _ m r hd.2.2 h
      · cases h
theorem num_le {e : UInt8} {l r : Bs} {n : Nat} (h : num e l = some (n, r)) : n ≤ 9223372036854775807 := by
  unfold num at h
  match hg : numGo e 0 l with
  | none => rw [hg] at h; cases h
  | some (k, r0) =>
    rw [hg] at h
    simp only at h
    split at h
    · cases h
    · simp at h
      obtain ⟨rfl, rfl⟩ := h
      exact numGo_le l 0 k r0 (by omega) hg
theorem nest_gas : ∀ (g g' o : Nat) (l : Bs), l.length < g → l.length < g' → nest g o l = nest g' o l
  | 0, _, _, _, h, _ => by omega
  | _ + 1, 0, _, _, _, h => by omega
  | g + 1, g' + 1, 0, l, _, _ => by simp [nest]
  | g + 1, g' + 1, o + 1, l, h, h' => by
    rw [nest, nest]
    cases hh : hd l with
    | none => rfl
    | some q =>
      obtain ⟨p, r⟩ := q
      have := (hd_len hh).1
      exact nest_gas g g' (o + p) r (by omega) (by omega)
def NN (o : Nat) (l : Bs) : Option Bs := nest (l.length + 1) o l
theorem NN_zero (l : Bs) : NN 0 l = some l := by unfold NN; rw [nest]
theorem NN_step {o p : Nat} {l r : Bs} (h : hd l = some (p, r)) : NN (o + 1) l = NN (o + p) r := by
  have := (hd_len h).1
  unfold NN
  rw [nest, h]
  exact nest_gas _ _ _ _ (by omega) (by omega)
theorem many_NN {f : Bs → Option (Nat × Bs)} (hf : ∀ l d r, f l = some (d, r) → ∀ o, NN (o + 1) l = NN o r) : ∀ (k d : Nat) (l : Bs) (e : Nat) (r : Bs), manyA f k d l = some (e, r) → ∀ o, NN (o + k) l = NN o r
  | 0, d, l, e, r, h, o => by
    simp [manyA] at h
    obtain ⟨_, rfl⟩ := h
    rfl
  | k + 1, d, l, e, r, h, o => by
    rw [manyA] at h
    match hg : f l with
    | none => rw [hg] at h; cases h
    | some (a, r1) =>
      rw [hg] at h
      simp only at h
      rw [show o + (k + 1) = (o + k) + 1 by omega, hf l a r1 hg (o + k)]
      exact many_NN hf k _ r1 e r h o
theorem two_NN {f : Bs → Option (Nat × Bs)} (hf : ∀ l d r, f l = some (d, r) → ∀ o, NN (o + 1) l = NN o r) {l : Bs} {d : Nat} {r r' : Bs} (h : twoA f l = some (d, r, r')) (o : Nat) : NN (o + 2) l = NN o r' := by
  unfold twoA at h
  match hg : f l with
  | none => rw [hg] at h; cases h
  | some (a, r1) =>
    rw [hg] at h
    simp only at h
    match hk : f r1 with
    | none => rw [hk] at h; cases h
    | some (b, r2) =>
      rw [hk] at h
      simp at h
      obtain ⟨_, rfl, rfl⟩ := h
      rw [show o + 2 = (o + 1) + 1 by omega, hf l a r1 hg (o + 1), hf r1 b r2 hk o]
theorem rd_NN : ∀ (n : Nat) (l : Bs) (d : Nat) (r : Bs), rd n l = some (d, r) → ∀ o, NN (o + 1) l = NN o r
  | 0, l, d, r, h, o => by simp [rd] at h
  | n + 1, [], d, r, h, o => by simp [rd] at h
  | n + 1, c :: l, d, r, h, o => by
    have ih := rd_NN n
    rw [rd] at h
    by_cases c1 : c = 110
    · rw [if_pos c1] at h
      match hg : num 59 l with
      | none => rw [hg] at h; cases h
      | some (k, r0) =>
        rw [hg] at h
        simp at h
        obtain ⟨_, rfl⟩ := h
        have hk : k ≤ 9223372036854775807 := num_le hg
        rw [NN_step (p := 0) (r := r0) (by simp only [hd]; rw [if_pos c1, num_nm hg hk])]
        rfl
    · rw [if_neg c1] at h
      by_cases c2 : c = 116
      · rw [if_pos c2] at h
        match hg : num 58 l with
        | none => rw [hg] at h; cases h
        | some (k, r0) =>
          rw [hg] at h
          simp only at h
          split at h
          · rename_i hk
            simp at h
            obtain ⟨_, rfl⟩ := h
            rw [NN_step (p := 0) (r := r0.drop k) (by simp only [hd]; rw [if_neg c1, if_pos c2, num_nm hg hk.1]; simp only; rw [if_pos hk.2])]
            rfl
          · cases h
      · rw [if_neg c2] at h
        by_cases c3 : c = 84
        · rw [if_pos c3] at h
          match hg : num 58 l with
          | none => rw [hg] at h; cases h
          | some (k, r0) =>
            rw [hg] at h
            simp only at h
            split at h
            · rename_i hk
              rw [NN_step (p := k) (r := r0) (by simp only [hd]; rw [if_neg c1, if_neg c2, if_pos c3, num_nm hg hk])]
              exact many_NN ih k 1 r0 d r h o
            · cases h
        · rw [if_neg c3] at h
          by_cases c4 : c = 80
          · rw [if_pos c4] at h
            match hg : rd n l with
            | none => rw [hg] at h; cases h
            | some (k, r0) =>
              rw [hg] at h
              simp only at h
              split at h
              · cases h
              · simp at h
                obtain ⟨_, rfl⟩ := h
                rw [NN_step (p := 1) (r := l) (by simp only [hd]; rw [if_neg c1, if_neg c2, if_neg c3, if_pos (.inl c4)])]
                exact ih l k r0 hg o
          · rw [if_neg c4] at h
            by_cases c5 : c = 72
            · rw [if_pos c5] at h
              match hg : rd n l with
              | none => rw [hg] at h; cases h
              | some (k, r0) =>
                rw [hg] at h
                simp at h
                obtain ⟨_, rfl⟩ := h
                rw [NN_step (p := 1) (r := l) (by simp only [hd]; rw [if_neg c1, if_neg c2, if_neg c3, if_pos (.inr c5)])]
                exact ih l k r0 hg o
            · rw [if_neg c5] at h
              have hN : ∀ {a : Nat} {x y : Bs}, twoA (rd n) l = some (a, x, y) → (c = 83 ∨ c = 66 ∨ c = 88 ∨ c = 68 ∨ c = 86 ∨ c = 87 ∨ c = 75 ∨ c = 76) → NN (o + 1) (c :: l) = NN o y := fun {a x y} hg hc => by
                rw [NN_step (p := 2) (r := l) (by simp only [hd]; rw [if_neg c1, if_neg c2, if_neg c3, if_neg (by simp [c4, c5]), if_pos hc])]
                exact two_NN ih hg o
              match hg : twoA (rd n) l with
              | none => rw [hg] at h; simp at h
              | some (k, r0, r1) =>
                rw [hg] at h
                by_cases c6 : isTwo c
                · rw [if_pos c6] at h
                  simp at h
                  obtain ⟨_, rfl⟩ := h
                  refine hN hg ?_
                  simp [isTwo] at c6
                  rcases c6 with (((h | h) | h) | h) | h <;> simp [h]
                · rw [if_neg c6] at h
                  by_cases c7 : c = 88
                  · rw [if_pos c7] at h
                    simp only at h
                    split at h
                    · simp at h
                      obtain ⟨_, rfl⟩ := h
                      exact hN hg (by simp [c7])
                    · cases h
                  · rw [if_neg c7] at h
                    by_cases c8 : c = 87
                    · rw [if_pos c8] at h
                      simp only at h
                      split at h
                      · simp at h
                        obtain ⟨_, rfl⟩ := h
                        exact hN hg (by simp [c8])
                      · cases h
                    · rw [if_neg c8] at h
                      by_cases c9 : c = 76
                      · rw [if_pos c9] at h
                        simp only at h
                        split at h
                        · simp at h
                          obtain ⟨_, rfl⟩ := h
                          exact hN hg (by simp [c9])
                        · cases h
                      · rw [if_neg c9] at h
                        cases h
theorem piece_right {t : Bs} (ht : deep t ≠ 0) (x : Bs) : piece (t ++ x) = t := by
  obtain ⟨h1, h2⟩ := deep_is ht
  have h3 : (t ++ x).take 16384 = t ++ x.take (16384 - t.length) := by rw [List.take_append, List.take_of_length_le h2]
  have h4 := rd_NN 64 _ _ _ (h1.2.2 64 (x.take (16384 - t.length)) (deep_le t)) 0
  rw [NN_zero] at h4
  unfold NN at h4
  unfold piece
  rw [h3, h4]
  simp
end Go.Proofs.YtdllpklecdmghaaGreatDoor.Sc
/- Locks read as mathematics: what is written is read, and what is read is written as it was. No program in it. -/
namespace Go.Proofs.YtdllpklecdmghaaGreatDoor.Lk
open Tm
def readK (f : Nat → Bs → Lt × Bs × Nat) : Nat → Nat → Bs → List Lt × Bs × Nat
  | 0, p, s => ([], s, p)
  | n + 1, p, s => ((readK f n p s).1 ++ [(f (readK f n p s).2.2 (readK f n p s).2.1).1], (f (readK f n p s).2.2 (readK f n p s).2.1).2.1, (f (readK f n p s).2.2 (readK f n p s).2.1).2.2)
def readP : Nat → Nat → Bs → Lt × Bs × Nat
  | 0, p, s => (.zero, s, p + 1)
  | g + 1, p, s =>
    if 64 ≤ p then (.zero, s, p + 1)
    else if Sc.kindOf (s.headD 0) = 1 ∨ Sc.kindOf (s.headD 0) = 2 then (.mk (Sc.kindOf (s.headD 0)) (Sc.piece (s.drop 1)) 0 [], (s.drop 1).drop (Sc.piece (s.drop 1)).length, p + 1)
    else if Sc.kindOf (s.headD 0) = 3 ∨ Sc.kindOf (s.headD 0) = 4 then (match Sc.nm 59 1073741823 (s.drop 1) with
      | none => (.mk (Sc.kindOf (s.headD 0)) [] (-1) [], s.drop 1, p + 1)
      | some (n, r) => (.mk (Sc.kindOf (s.headD 0)) [] (n : Int) [], r, p + 1))
    else if Sc.kindOf (s.headD 0) = 5 ∨ Sc.kindOf (s.headD 0) = 6 then (match Sc.nm 58 8 (s.drop 1) with
      | none => (.mk (Sc.kindOf (s.headD 0)) [] 0 [], s.drop 1, p + 1)
      | some (n, r) => (.mk (Sc.kindOf (s.headD 0)) [] 0 (readK (readP g) n (p + 1) r).1, (readK (readP g) n (p + 1) r).2.1, (readK (readP g) n (p + 1) r).2.2))
    else (.mk 0 [] 0 [], s.drop 1, p + 1)
theorem kind_letter {k : Nat} (h1 : 1 ≤ k) (h6 : k ≤ 6) : Sc.kindOf (letter k) = k := by
  have : k = 1 ∨ k = 2 ∨ k = 3 ∨ k = 4 ∨ k = 5 ∨ k = 6 := by omega
  rcases this with rfl | rfl | rfl | rfl | rfl | rfl <;> rfl
theorem letter_kind {c : UInt8} (h : Sc.kindOf c ≠ 0) : c = letter (Sc.kindOf c) := by
  unfold Sc.kindOf at h ⊢
  by_cases h1 : c = 115
  · subst h1; rfl
  by_cases h2 : c = 112
  · subst h2; rfl
  by_cases h3 : c = 97
  · subst h3; rfl
  by_cases h4 : c = 111
  · subst h4; rfl
  by_cases h5 : c = 38
  · subst h5; rfl
  by_cases h6 : c = 124
  · subst h6; rfl
  simp [h1, h2, h3, h4, h5, h6] at h
theorem text_letter {s : Bs} (h : Sc.kindOf (s.headD 0) ≠ 0) : s = letter (Sc.kindOf (s.headD 0)) :: s.drop 1 := by
  cases s with
  | nil => exact absurd rfl h
  | cons c r =>
    have := letter_kind (c := c) h
    show c :: r = letter (Sc.kindOf c) :: r
    rw [← this]
theorem fit_is_kind {k : Nat} {t : Bs} {n : Int} {ks : List Lt} (h : fit (.mk k t n ks) = true) : 1 ≤ k ∧ k ≤ 6 := by
  apply Classical.byContradiction
  intro hn
  have : fit (.mk k t n ks) = false := by
    unfold fit
    rw [if_neg (by show ¬ k = 1; omega), if_neg (by show ¬ k = 2; omega), if_neg (by show ¬ (k = 3 ∨ k = 4); omega), if_neg (by show ¬ (k = 5 ∨ k = 6); omega)]
  rw [this] at h
  cases h
theorem fitT {k : Nat} {t : Bs} {n : Int} {ks : List Lt} (hk : k = 1 ∨ k = 2) (h : fit (.mk k t n ks) = true) : n = 0 ∧ ks = [] ∧ deep t ≠ 0 := by
  unfold fit at h
  rcases hk with rfl | rfl
  · rw [if_pos (show (Lt.mk 1 t n ks).kind = 1 from rfl), Bool.and_eq_true, Bool.and_eq_true] at h
    have h3 := h.2
    unfold isKey at h3
    rw [Bool.and_eq_true] at h3
    exact ⟨of_decide_eq_true h.1.1, List.eq_nil_of_length_eq_zero (of_decide_eq_true h.1.2), bne_iff_ne.1 h3.1⟩
  · rw [if_neg (show ¬ (Lt.mk 2 t n ks).kind = 1 by show ¬ (2 = 1); omega), if_pos (show (Lt.mk 2 t n ks).kind = 2 from rfl), Bool.and_eq_true, Bool.and_eq_true] at h
    have h3 := h.2
    unfold isOp at h3
    rw [Bool.and_eq_true] at h3
    exact ⟨of_decide_eq_true h.1.1, List.eq_nil_of_length_eq_zero (of_decide_eq_true h.1.2), bne_iff_ne.1 h3.1⟩
theorem fitN {k : Nat} {t : Bs} {n : Int} {ks : List Lt} (hk : k = 3 ∨ k = 4) (h : fit (.mk k t n ks) = true) : t = [] ∧ ks = [] ∧ 0 ≤ n ∧ n ≤ 1073741823 := by
  unfold fit at h
  rw [if_neg (show ¬ (Lt.mk k t n ks).kind = 1 by show ¬ (k = 1); omega), if_neg (show ¬ (Lt.mk k t n ks).kind = 2 by show ¬ (k = 2); omega), if_pos (show (Lt.mk k t n ks).kind = 3 ∨ (Lt.mk k t n ks).kind = 4 from hk), Bool.and_eq_true, Bool.and_eq_true, Bool.and_eq_true] at h
  exact ⟨List.eq_nil_of_length_eq_zero (of_decide_eq_true h.1.1.1), List.eq_nil_of_length_eq_zero (of_decide_eq_true h.1.1.2), of_decide_eq_true h.1.2, of_decide_eq_true h.2⟩
theorem fitK {k : Nat} {t : Bs} {n : Int} {ks : List Lt} (hk : k = 5 ∨ k = 6) (h : fit (.mk k t n ks) = true) : t = [] ∧ n = 0 ∧ ks.length ≠ 0 ∧ ks.length ≤ 8 := by
  unfold fit at h
  rw [if_neg (show ¬ (Lt.mk k t n ks).kind = 1 by show ¬ (k = 1); omega), if_neg (show ¬ (Lt.mk k t n ks).kind = 2 by show ¬ (k = 2); omega), if_neg (show ¬ ((Lt.mk k t n ks).kind = 3 ∨ (Lt.mk k t n ks).kind = 4) by show ¬ (k = 3 ∨ k = 4); omega), if_pos (show (Lt.mk k t n ks).kind = 5 ∨ (Lt.mk k t n ks).kind = 6 from hk), Bool.and_eq_true, Bool.and_eq_true, Bool.and_eq_true] at h
  exact ⟨List.eq_nil_of_length_eq_zero (of_decide_eq_true h.1.1.1), of_decide_eq_true h.1.1.2, of_decide_eq_true h.1.2, of_decide_eq_true h.2⟩
theorem wrs_snoc : ∀ (a : List Lt) (x : Lt), wrs (a ++ [x]) = wrs a ++ wr x
  | [], x => by simp [wrs]
  | y :: a, x => by rw [List.cons_append, wrs, wrs, wrs_snoc a x, List.append_assoc]
theorem sizes_snoc : ∀ (a : List Lt) (x : Lt), sizes (a ++ [x]) = sizes a + size x
  | [], x => by simp [sizes]
  | y :: a, x => by rw [List.cons_append, sizes, sizes, sizes_snoc a x]; omega
theorem oks_snoc : ∀ (a : List Lt) (x : Lt), oks (a ++ [x]) = (oks a && ok x)
  | [], x => by simp [oks]
  | y :: a, x => by rw [List.cons_append, oks, oks, oks_snoc a x, Bool.and_assoc]
theorem snoc_ind {P : List Lt → Prop} (h0 : P []) (h1 : ∀ ms y, P ms → P (ms ++ [y])) (l : List Lt) : P l := by
  have h : ∀ r : List Lt, P r.reverse := by
    intro r
    induction r with
    | nil => exact h0
    | cons y r ih => rw [List.reverse_cons]; exact h1 _ _ ih
  have h2 := h l.reverse
  rw [List.reverse_reverse] at h2
  exact h2
theorem read_wr : ∀ (l : Lt), ok l = true → ∀ (g p : Nat) (x : Bs), p + size l ≤ 64 → 64 - p < g → readP g p (wr l ++ x) = (l, x, p + size l) := by
  intro l
  induction l using Lt.ind with
  | h k t n ks ih =>
    intro hok g p x hp hg
    rw [ok, Bool.and_eq_true] at hok
    obtain ⟨hf, hoks⟩ := hok
    obtain ⟨g, rfl⟩ : ∃ j, g = j + 1 := ⟨g - 1, by omega⟩
    have hk := fit_is_kind hf
    have hkl := kind_letter hk.1 hk.2
    rw [size] at hp ⊢
    rw [wr, List.cons_append, readP, if_neg (by omega)]
    simp only [List.headD_cons, List.drop_succ_cons, List.drop_zero, hkl]
    by_cases h12 : k = 1 ∨ k = 2
    · obtain ⟨rfl, rfl, hd⟩ := fitT h12 hf
      rw [if_pos h12, if_pos h12, Sc.piece_right hd]
      simp [sizes]
    · rw [if_neg h12, if_neg h12]
      by_cases h34 : k = 3 ∨ k = 4
      · obtain ⟨rfl, rfl, h0, h1⟩ := fitN h34 hf
        rw [if_pos h34, if_pos h34, List.append_assoc, List.singleton_append, Sc.nm_dec (by decide) (by omega)]
        simp only [sizes]
        rw [Int.toNat_of_nonneg h0]
      · rw [if_neg h34, if_neg h34]
        have h56 : k = 5 ∨ k = 6 := by omega
        obtain ⟨rfl, rfl, h0, h8⟩ := fitK h56 hf
        rw [if_pos h56, List.append_assoc, List.cons_append, Sc.nm_dec (by decide) h8]
        simp only
        have hK : ∀ (ms : List Lt), (∀ y ∈ ms, y ∈ ks) → oks ms = true → ∀ q z, q + sizes ms ≤ 64 → 64 - q < g → readK (readP g) ms.length q (wrs ms ++ z) = (ms, z, q + sizes ms) := by
          intro ms
          induction ms using snoc_ind with
          | h0 => intro _ _ q z _ _; simp [readK, wrs, sizes]
          | h1 ms y ihm =>
            intro hm ho q z hq hgq
            rw [oks_snoc, Bool.and_eq_true] at ho
            rw [sizes_snoc] at hq ⊢
            rw [List.length_append, List.length_singleton, readK, wrs_snoc, List.append_assoc, ihm (fun u hu => hm u (by simp [hu])) ho.1 q (wr y ++ z) (by omega) hgq]
            simp only
            rw [ih y (hm y (by simp)) ho.2 g (q + sizes ms) z (by omega) (by omega)]
            simp only [Nat.add_assoc]
        rw [hK ks (fun _ h => h) hoks (p + 1) x (by omega) (by omega)]
        simp only [Nat.add_assoc]
theorem readK_len (f : Nat → Bs → Lt × Bs × Nat) : ∀ (n p : Nat) (s : Bs), (readK f n p s).1.length = n
  | 0, _, _ => rfl
  | n + 1, p, s => by rw [readK]; simp [readK_len f n p s]
theorem piece_is (s : Bs) : s = Sc.piece s ++ s.drop (Sc.piece s).length := by
  have h : Sc.piece s <+: s := by
    unfold Sc.piece
    split
    · exact List.nil_prefix
    · exact (List.take_prefix _ _).trans (List.take_prefix _ _)
  obtain ⟨y, hy⟩ := h
  generalize Sc.piece s = P at *
  subst hy
  simp
theorem ok_zero : ok Lt.zero = false := by
  have h : fit (.mk 0 [] 0 []) = false := by unfold fit; rfl
  unfold Lt.zero
  rw [ok, h]
  rfl
theorem wr_read : ∀ (g p : Nat) (s : Bs), ok (readP g p s).1 = true → s = wr (readP g p s).1 ++ (readP g p s).2.1
  | 0, p, s, h => by
    rw [readP] at h
    have h' : ok Lt.zero = true := h
    rw [ok_zero] at h'
    cases h'
  | g + 1, p, s, h => by
    have ihg := wr_read g
    rw [readP] at h ⊢
    by_cases hp : 64 ≤ p
    · rw [if_pos hp] at h
      have h' : ok Lt.zero = true := h
      rw [ok_zero] at h'
      cases h'
    · rw [if_neg hp] at h ⊢
      by_cases h12 : Sc.kindOf (s.headD 0) = 1 ∨ Sc.kindOf (s.headD 0) = 2
      · rw [if_pos h12] at h ⊢
        have ht := text_letter (s := s) (by omega)
        simp only
        rw [wr, if_pos h12, List.cons_append, ← piece_is (s.drop 1)]
        exact ht
      · rw [if_neg h12] at h ⊢
        by_cases h34 : Sc.kindOf (s.headD 0) = 3 ∨ Sc.kindOf (s.headD 0) = 4
        · rw [if_pos h34] at h ⊢
          have ht := text_letter (s := s) (by omega)
          cases hn : Sc.nm 59 1073741823 (s.drop 1) with
          | none =>
            rw [hn] at h
            simp only at h
            rw [ok, Bool.and_eq_true] at h
            have := (fitN h34 h.1).2.2.1
            omega
          | some q =>
            obtain ⟨n, r⟩ := q
            simp only
            rw [wr, if_neg h12, if_pos h34, List.cons_append, Int.toNat_natCast, List.append_assoc, List.singleton_append, ← (Sc.nm_inv hn).1]
            exact ht
        · rw [if_neg h34] at h ⊢
          by_cases h56 : Sc.kindOf (s.headD 0) = 5 ∨ Sc.kindOf (s.headD 0) = 6
          · rw [if_pos h56] at h ⊢
            have ht := text_letter (s := s) (by omega)
            cases hn : Sc.nm 58 8 (s.drop 1) with
            | none =>
              rw [hn] at h
              simp only at h
              rw [ok, Bool.and_eq_true] at h
              have := (fitK h56 h.1).2.2.1
              simp at this
            | some q =>
              obtain ⟨n, r⟩ := q
              rw [hn] at h
              simp only at h ⊢
              rw [ok, Bool.and_eq_true] at h
              have hK : ∀ (m q : Nat) (z : Bs), oks (readK (readP g) m q z).1 = true → z = wrs (readK (readP g) m q z).1 ++ (readK (readP g) m q z).2.1 := by
                intro m
                induction m with
                | zero => intro q z _; simp [readK, wrs]
                | succ m ihm =>
                  intro q z ho
                  rw [readK] at ho ⊢
                  simp only at ho ⊢
                  rw [oks_snoc, Bool.and_eq_true] at ho
                  have h1 := ihm q z ho.1
                  have h2 := ihg _ _ ho.2
                  rw [wrs_snoc, List.append_assoc, ← h2]
                  exact h1
              have hz := hK n (p + 1) r h.2
              rw [wr, if_neg h12, if_neg h34, readK_len, List.cons_append, List.append_assoc, List.cons_append, ← hz, ← (Sc.nm_inv hn).1]
              exact ht
          · rw [if_neg h56] at h
            have h' : ok Lt.zero = true := h
            rw [ok_zero] at h'
            cases h'
def rdRes (s : Bs) : Option Lt := if (readP 65 0 s).2.1 = [] ∧ right (readP 65 0 s).1 = true then some (readP 65 0 s).1 else none
theorem rdRes_iff (s : Bs) (l : Lt) : rdRes s = some l ↔ right l = true ∧ s = wr l := by
  unfold rdRes
  constructor
  · intro h
    split at h
    · rename_i hc
      cases h
      have := wr_read 65 0 s ((right_is _).1 hc.2).1
      rw [hc.1, List.append_nil] at this
      exact ⟨hc.2, this⟩
    · cases h
  · rintro ⟨hr, rfl⟩
    have ho := (right_is l).1 hr
    have h := read_wr l ho.1 65 0 [] (by omega) (by omega)
    rw [List.append_nil] at h
    rw [h]
    simp [hr]
theorem wr_inj {a b : Lt} (ha : right a = true) (hb : right b = true) (h : wr a = wr b) : a = b := by
  have h1 := (rdRes_iff (wr a) a).2 ⟨ha, rfl⟩
  have h2 := (rdRes_iff (wr a) b).2 ⟨hb, h⟩
  rw [h1] at h2
  cases h2
  rfl
theorem readP_few : ∀ (g p : Nat) (s : Bs), p + 1 ≤ (readP g p s).2.2 ∧ (readP g p s).2.2 + 9 * (64 - (readP g p s).2.2) ≤ p + 9 * (64 - p) + 1
  | 0, p, s => by rw [readP]; simp only; omega
  | g + 1, p, s => by
    have ihg := readP_few g
    rw [readP]
    by_cases hp : 64 ≤ p
    · rw [if_pos hp]; simp only; omega
    · rw [if_neg hp]
      by_cases h12 : Sc.kindOf (s.headD 0) = 1 ∨ Sc.kindOf (s.headD 0) = 2
      · rw [if_pos h12]; simp only; omega
      · rw [if_neg h12]
        by_cases h34 : Sc.kindOf (s.headD 0) = 3 ∨ Sc.kindOf (s.headD 0) = 4
        · rw [if_pos h34]
          cases Sc.nm 59 1073741823 (s.drop 1) with
          | none => simp only; omega
          | some q => simp only; omega
        · rw [if_neg h34]
          by_cases h56 : Sc.kindOf (s.headD 0) = 5 ∨ Sc.kindOf (s.headD 0) = 6
          · rw [if_pos h56]
            cases hn : Sc.nm 58 8 (s.drop 1) with
            | none => simp only; omega
            | some q =>
              obtain ⟨n, r⟩ := q
              have hn8 := (Sc.nm_inv hn).2
              simp only
              have hK : ∀ (m q : Nat) (z : Bs), q ≤ (readK (readP g) m q z).2.2 ∧ (readK (readP g) m q z).2.2 + 9 * (64 - (readK (readP g) m q z).2.2) ≤ q + 9 * (64 - q) + m := by
                intro m
                induction m with
                | zero => intro q z; simp [readK]
                | succ m ihm =>
                  intro q z
                  rw [readK]
                  simp only
                  have h1 := ihm q z
                  have h2 := ihg (readK (readP g) m q z).2.2 (readK (readP g) m q z).2.1
                  omega
              have := hK n (p + 1) r
              omega
          · rw [if_neg h56]; simp only; omega
end Go.Proofs.YtdllpklecdmghaaGreatDoor.Lk
