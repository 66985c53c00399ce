/- The document's reading of a lock as mathematics: it is the program's. No program in it. -/
import Derived.Test.YtdllpklecdmghaaGreatDoorLkR
namespace Go.Proofs.YtdllpklecdmghaaGreatDoor.Lk
open Tm

/-- the document's number: so many signs at most, digits and a byte -/
def dnGo (e : UInt8) : Nat → Nat → Nat → Bs → Option (Nat × Bs)
  | 0, _, _, _ => none
  | _ + 1, _, _, [] => none
  | f + 1, n, i, c :: l =>
    if c = e ∧ 0 < i then some (n, l)
    else if c.toNat < 48 ∨ 57 < c.toNat ∨ (0 < i ∧ n = 0) then none
    else dnGo e f (10 * n + (c.toNat - 48)) (i + 1) l
def dn (e : UInt8) (s : Bs) : Option (Nat × Bs) := dnGo e 11 0 0 s
theorem dnGo_ge {e : UInt8} : ∀ (f n i : Nat) (s : Bs) (m : Nat) (r : Bs), dnGo e f n i s = some (m, r) → n ≤ m
  | 0, _, _, _, _, _, h => by simp [dnGo] at h
  | _ + 1, _, _, [], _, _, h => by simp [dnGo] at h
  | f + 1, n, i, c :: l, m, r, h => by
    rw [dnGo] at h
    split at h
    · simp at h
      omega
    · split at h
      · cases h
      · have := dnGo_ge f _ _ l m r h
        omega
theorem dnGo_nm {e : UInt8} {most : Nat} : ∀ (f n i : Nat) (s : Bs) (m : Nat) (r : Bs), m ≤ most → dnGo e f n i s = some (m, r) → Sc.nmGo e most n i s = some (m, r)
  | 0, _, _, _, _, _, _, h => by simp [dnGo] at h
  | _ + 1, _, _, [], _, _, _, h => by simp [dnGo] at h
  | f + 1, n, i, c :: l, m, r, hm, h => by
    rw [dnGo] at h
    rw [Sc.nmGo]
    split at h
    · rename_i h1
      rw [if_pos h1]
      exact h
    · rename_i h1
      rw [if_neg h1]
      split at h
      · cases h
      · rename_i h2
        rw [if_neg h2]
        have := dnGo_ge f _ _ l m r h
        rw [if_neg (by omega)]
        exact dnGo_nm f _ _ l m r hm h
theorem nmGo_dn {e : UInt8} {most : Nat} : ∀ (f n i : Nat) (s : Bs) (m : Nat) (r : Bs), s.length ≤ r.length + f → Sc.nmGo e most n i s = some (m, r) → dnGo e f n i s = some (m, r)
  | 0, _, _, s, _, _, hl, h => by have := Sc.nmGo_len h; omega
  | _ + 1, _, _, [], _, _, _, h => by simp [Sc.nmGo] at h
  | f + 1, n, i, c :: l, m, r, hl, h => by
    rw [Sc.nmGo] at h
    rw [dnGo]
    split at h
    · rename_i h1
      rw [if_pos h1]
      exact h
    · rename_i h1
      rw [if_neg h1]
      split at h
      · cases h
      · rename_i h2
        rw [if_neg h2]
        split at h
        · cases h
        · rw [List.length_cons] at hl
          exact nmGo_dn f _ _ l m r (by omega) h
theorem dec_ten (k : Nat) (h : k ≤ 1073741823) : (Lib.decDigits k).length ≤ 10 := by
  have h1 : ∀ n : Nat, n ≠ 0 → n < 10 → (Lib.decDigits n).length = 1 := fun n _ hn => by rw [Lib.decDigits_one hn]; rfl
  have hs : ∀ n : Nat, (Lib.decDigits n).length ≤ (Lib.decDigits (n / 10)).length + 1 := fun n => by
    by_cases h : n < 10
    · rw [Lib.decDigits_one h]; simp
    · rw [Lib.decDigits, dif_neg h]; simp
  have h0 : (Lib.decDigits (k / 10 / 10 / 10 / 10 / 10 / 10 / 10 / 10 / 10)).length = 1 := by rw [Lib.decDigits_one (by omega)]; rfl
  have a1 := hs k
  have a2 := hs (k / 10)
  have a3 := hs (k / 10 / 10)
  have a4 := hs (k / 10 / 10 / 10)
  have a5 := hs (k / 10 / 10 / 10 / 10)
  have a6 := hs (k / 10 / 10 / 10 / 10 / 10)
  have a7 := hs (k / 10 / 10 / 10 / 10 / 10 / 10)
  have a8 := hs (k / 10 / 10 / 10 / 10 / 10 / 10 / 10)
  have a9 := hs (k / 10 / 10 / 10 / 10 / 10 / 10 / 10 / 10)
  clear hs h1
  omega
theorem dn_dec {e : UInt8} (he : 57 < e.toNat) {n : Nat} (hn : n ≤ 1073741823) (x : Bs) : dn e (Lib.decDigits n ++ e :: x) = some (n, x) := by
  have h := Sc.nm_dec he hn x
  refine nmGo_dn 11 0 0 _ n x ?_ h
  have := dec_ten n hn
  rw [List.length_append, List.length_cons]
  omega
theorem dn_inv {e : UInt8} {n : Nat} {s r : Bs} (h : dn e s = some (n, r)) : s = Lib.decDigits n ++ e :: r := by
  have h1 : Sc.nm e n s = some (n, r) := dnGo_nm 11 0 0 s n r (Nat.le_refl _) h
  exact (Sc.nm_inv h1).1

/-- may a lock's next part begin with a byte? -/
def ends (c : UInt8) : Bool := c == 115 || c == 112 || c == 97 || c == 111 || c == 38 || c == 124
/-- a right term of so many bytes, and behind it the end or a part's letter -/
def Cut (s : Bs) (i : Nat) : Prop := 1 ≤ i ∧ i ≤ s.length ∧ i ≤ 16384 ∧ (i = s.length ∨ ends (s.getD i 0) = true) ∧ deep (s.take i) ≠ 0
theorem cut_uniq {s : Bs} {i j : Nat} (hi : Cut s i) (hj : Cut s j) : i = j := by
  obtain ⟨_, hil, _, _, hid⟩ := hi
  obtain ⟨_, hjl, _, _, hjd⟩ := hj
  have h := is_uniq (deep_is hid).1 (deep_is hjd).1 (x := s.drop i) (y := s.drop j) (by rw [List.take_append_drop, List.take_append_drop])
  have := congrArg List.length h.1
  rw [List.length_take, List.length_take] at this
  omega
open Classical in
/-- where the term ends that a text begins with -/
noncomputable def dterm (s : Bs) : Option Nat := if h : ∃ i, Cut s i then some (Classical.choose h) else none
theorem dterm_some {s : Bs} {i : Nat} (h : Cut s i) : dterm s = some i := by
  have he : ∃ j, Cut s j := ⟨i, h⟩
  unfold dterm
  rw [dif_pos he]
  exact congrArg some (cut_uniq (Classical.choose_spec he) h)
theorem dterm_none {s : Bs} (h : ∀ i, ¬ Cut s i) : dterm s = none := by
  unfold dterm
  rw [dif_neg (fun ⟨i, hi⟩ => h i hi)]
theorem dterm_cut {s : Bs} {i : Nat} (h : dterm s = some i) : Cut s i := by
  unfold dterm at h
  split at h
  · rename_i he
    cases h
    exact Classical.choose_spec he
  · cases h
/-- so many locks, one behind the other -/
def dreadK (f : Nat → Bs → Option (Lt × Bs × Nat)) : Nat → Nat → Bs → Option (List Lt × Bs × Nat)
  | 0, p, s => some ([], s, p)
  | n + 1, p, s => match dreadK f n p s with
    | none => none
    | some (ks, y, q) => match f q y with
      | none => none
      | some (l, z, m) => some (ks ++ [l], z, m)
/-- the lock that a text begins with, where there is room for so many parts; what is left of the text and of the room -/
noncomputable def dread : Nat → Nat → Bs → Option (Lt × Bs × Nat)
  | 0, _, _ => none
  | _ + 1, _, [] => none
  | g + 1, p, c :: r =>
    if p = 0 then none
    else if Sc.kindOf c = 1 ∨ Sc.kindOf c = 2 then (match dterm r with
      | none => none
      | some i => some (.mk (Sc.kindOf c) (r.take i) 0 [], r.drop i, p - 1))
    else if Sc.kindOf c = 3 ∨ Sc.kindOf c = 4 then (match dn 59 r with
      | none => none
      | some (n, x) => some (.mk (Sc.kindOf c) [] (n : Int) [], x, p - 1))
    else if Sc.kindOf c = 5 ∨ Sc.kindOf c = 6 then (match dn 58 r with
      | none => none
      | some (n, x) => if 8 < n then none else match dreadK (dread g) n (p - 1) x with
        | none => none
        | some (ks, y, q) => some (.mk (Sc.kindOf c) [] 0 ks, y, q))
    else none
theorem dreadK_len {f : Nat → Bs → Option (Lt × Bs × Nat)} : ∀ {n p : Nat} {s : Bs} {ks : List Lt} {y : Bs} {q : Nat}, dreadK f n p s = some (ks, y, q) → ks.length = n
  | 0, p, s, ks, y, q, h => by rw [dreadK] at h; cases h; rfl
  | n + 1, p, s, ks, y, q, h => by
    rw [dreadK] at h
    split at h
    · cases h
    · rename_i h1
      split at h
      · cases h
      · cases h
        rw [List.length_append, dreadK_len h1]
        rfl
/-- what follows a lock -/
def Bh (y : Bs) : Prop := y = [] ∨ ends (y.headD 0) = true
theorem ends_letter {k : Nat} (h1 : 1 ≤ k) (h6 : k ≤ 6) : ends (letter k) = true := by
  have : k = 1 ∨ k = 2 ∨ k = 3 ∨ k = 4 ∨ k = 5 ∨ k = 6 := by omega
  rcases this with rfl | rfl | rfl | rfl | rfl | rfl <;> rfl
theorem bh_wr {l : Lt} (h : ok l = true) (y : Bs) : Bh (wr l ++ y) := by
  cases l with
  | mk k t n ks =>
    rw [ok, Bool.and_eq_true] at h
    have hk := fit_is_kind h.1
    right
    rw [wr, List.cons_append, List.headD_cons]
    exact ends_letter hk.1 hk.2
theorem cut_app {t y : Bs} (hd : deep t ≠ 0) (hy : Bh y) : Cut (t ++ y) t.length := by
  have hi := deep_is hd
  have hp := len_pos hi.1
  refine ⟨hp, by simp, hi.2, ?_, by rw [List.take_left' rfl]; exact hd⟩
  rcases hy with rfl | hy
  · left; simp
  · cases y with
    | nil => left; simp
    | cons c y =>
      right
      have : (t ++ c :: y).getD t.length 0 = c := by simp
      rw [this]
      exact hy
/-- what is written is read -/
theorem dread_wr : ∀ (l : Lt), ok l = true → ∀ (g p : Nat) (x : Bs), Bh x → size l ≤ p → p < g → dread g p (wr l ++ x) = some (l, x, p - size l) := by
  intro l
  induction l using Lt.ind with
  | h k t n ks ih =>
    intro hok g p x hx hp hg
    rw [ok, Bool.and_eq_true] at hok
    obtain ⟨hf, hoks⟩ := hok
    obtain ⟨g, rfl⟩ : ∃ j, g = j + 1 := ⟨g - 1, by omega⟩
    have hk := fit_is_kind hf
    have hkl := kind_letter hk.1 hk.2
    rw [size] at hp ⊢
    rw [wr, List.cons_append, dread, if_neg (by omega)]
    simp only [hkl]
    by_cases h12 : k = 1 ∨ k = 2
    · obtain ⟨rfl, rfl, hd⟩ := fitT h12 hf
      rw [if_pos h12, if_pos h12, dterm_some (cut_app hd hx)]
      simp [sizes]
    · rw [if_neg h12, if_neg h12]
      by_cases h34 : k = 3 ∨ k = 4
      · obtain ⟨rfl, rfl, h0, h1⟩ := fitN h34 hf
        rw [if_pos h34, if_pos h34, List.append_assoc, List.singleton_append, dn_dec (by decide) (by omega)]
        simp only [sizes]
        rw [Int.toNat_of_nonneg h0]
      · rw [if_neg h34, if_neg h34]
        have h56 : k = 5 ∨ k = 6 := by omega
        obtain ⟨rfl, rfl, h0, h8⟩ := fitK h56 hf
        rw [if_pos h56, List.append_assoc, List.cons_append, dn_dec (by decide) (by omega)]
        simp only
        rw [if_neg (by omega)]
        have hK : ∀ (ms : List Lt), (∀ y ∈ ms, y ∈ ks) → oks ms = true → ∀ q z, Bh z → sizes ms ≤ q → q < g → dreadK (dread g) ms.length q (wrs ms ++ z) = some (ms, z, q - sizes ms) := by
          intro ms
          induction ms using snoc_ind with
          | h0 => intro _ _ q z _ _ _; simp [dreadK, wrs, sizes]
          | h1 ms y ihm =>
            intro hm ho q z hz hq hgq
            rw [oks_snoc, Bool.and_eq_true] at ho
            rw [sizes_snoc] at hq ⊢
            rw [List.length_append, List.length_singleton, dreadK, wrs_snoc, List.append_assoc, ihm (fun u hu => hm u (by simp [hu])) ho.1 q (wr y ++ z) (bh_wr ho.2 z) (by omega) hgq]
            simp only
            rw [ih y (hm y (by simp)) ho.2 g (q - sizes ms) z hz (by omega) (by omega)]
            simp only [Nat.sub_sub]
        rw [hK ks (fun _ h => h) hoks (p - 1) x hx (by omega) (by omega)]
        simp only [Nat.sub_sub]
/-- what is read is written as it was -/
theorem wr_dread : ∀ (g p : Nat) (s : Bs) (l : Lt) (y : Bs) (q : Nat), dread g p s = some (l, y, q) → ok l = true → s = wr l ++ y
  | 0, p, s, l, y, q, h, _ => by rw [dread] at h; cases h
  | g + 1, p, [], l, y, q, h, _ => by rw [dread] at h; cases h
  | g + 1, p, c :: r, l, y, q, h, ho => by
    have ihg := wr_dread g
    rw [dread] at h
    split at h
    · cases h
    · by_cases h12 : Sc.kindOf c = 1 ∨ Sc.kindOf c = 2
      · rw [if_pos h12] at h
        have ht := letter_kind (c := c) (by omega)
        cases hd : dterm r with
        | none => rw [hd] at h; cases h
        | some i =>
          rw [hd] at h
          cases h
          rw [wr, if_pos h12, List.cons_append, List.take_append_drop, ← ht]
      · rw [if_neg h12] at h
        by_cases h34 : Sc.kindOf c = 3 ∨ Sc.kindOf c = 4
        · rw [if_pos h34] at h
          have ht := letter_kind (c := c) (by omega)
          cases hd : dn 59 r with
          | none => rw [hd] at h; cases h
          | some a =>
            obtain ⟨n, x⟩ := a
            rw [hd] at h
            cases h
            rw [wr, if_neg h12, if_pos h34, List.cons_append, Int.toNat_natCast, List.append_assoc, List.singleton_append, ← dn_inv hd, ← ht]
        · rw [if_neg h34] at h
          by_cases h56 : Sc.kindOf c = 5 ∨ Sc.kindOf c = 6
          · rw [if_pos h56] at h
            have ht := letter_kind (c := c) (by omega)
            cases hd : dn 58 r with
            | none => rw [hd] at h; cases h
            | some a =>
              obtain ⟨n, x⟩ := a
              rw [hd] at h
              simp only at h
              split at h
              · cases h
              · have hK : ∀ (m q : Nat) (z : Bs) (ks : List Lt) (y : Bs) (j : Nat), dreadK (dread g) m q z = some (ks, y, j) → oks ks = true → z = wrs ks ++ y := by
                  intro m
                  induction m with
                  | zero => intro q z ks y j h1 _; rw [dreadK] at h1; cases h1; simp [wrs]
                  | succ m ihm =>
                    intro q z ks y j h1 h2
                    rw [dreadK] at h1
                    split at h1
                    · cases h1
                    · rename_i ks1 y1 q1 e1
                      split at h1
                      · cases h1
                      · rename_i l1 z1 m1 e2
                        cases h1
                        rw [oks_snoc, Bool.and_eq_true] at h2
                        have a1 := ihm q z _ _ _ e1 h2.1
                        have a2 := ihg _ _ _ _ _ e2 h2.2
                        rw [wrs_snoc, List.append_assoc, ← a2]
                        exact a1
                split at h
                · cases h
                · rename_i ks y1 q1 e1
                  cases h
                  rw [ok, Bool.and_eq_true] at ho
                  have hz := hK n (p - 1) x ks y q e1 ho.2
                  rw [wr, if_neg h12, if_neg h34, dreadK_len e1, List.cons_append, List.append_assoc, List.cons_append, ← hz, ← dn_inv hd, ← ht]
          · rw [if_neg h56] at h
            cases h
/-- what the document's Read answers -/
noncomputable def drdRes (s : Bs) : Option Lt := match dread 65 64 s with
  | none => none
  | some (l, y, _) => if y = [] ∧ right l = true then some l else none
theorem drd_is (s : Bs) : drdRes s = rdRes s := by
  have h1 : ∀ l, drdRes s = some l ↔ right l = true ∧ s = wr l := fun l => by
    unfold drdRes
    constructor
    · intro h
      split at h
      · cases h
      · rename_i l1 y1 q1 e1
        split at h
        · rename_i hc
          cases h
          have := wr_dread 65 64 s l y1 q1 e1 ((right_is _).1 hc.2).1
          rw [hc.1, List.append_nil] at this
          exact ⟨hc.2, this⟩
        · cases h
    · rintro ⟨hr, rfl⟩
      have ho := (right_is l).1 hr
      have h := dread_wr l ho.1 65 64 [] (.inl rfl) ho.2 (by omega)
      rw [List.append_nil] at h
      rw [h]
      simp [hr]
  cases h : rdRes s with
  | some l => exact (h1 l).2 ((rdRes_iff s l).1 h)
  | none =>
    cases h2 : drdRes s with
    | none => rfl
    | some l =>
      have h3 := (rdRes_iff s l).2 ((h1 l).1 h2)
      rw [h] at h3
      cases h3
end Go.Proofs.YtdllpklecdmghaaGreatDoor.Lk
