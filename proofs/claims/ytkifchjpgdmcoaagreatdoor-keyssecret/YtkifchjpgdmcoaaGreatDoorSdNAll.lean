import Derived.Test.YtkifchjpgdmcoaaGreatDoorAskAll
import Derived.Test.YtkifchjpgdmcoaaGreatDoorFmtAll
import Derived.Test.YtkifchjpgdmcoaaGreatDoorKyG
import Derived.Test.YtkifchjpgdmcoaaGreatDoorKyH
/- A seed's secrets, heard in their order. -/
namespace Go.Proofs.YtkifchjpgdmcoaaGreatDoor
open Go.RowKit

def labOk : Nat → Bool
  | 0 => true
  | n + 1 => (Tm.deep (lab n) == 1 && (lab n).length ≤ 5) && labOk n
theorem lab_all : labOk 20 = true := by decide +kernel
theorem lab_le : ∀ (n b : Nat), labOk n = true → b < n → Tm.deep (lab b) = 1 ∧ (lab b).length ≤ 5
  | 0, _, _, h => by omega
  | n + 1, b, hn, h => by
    simp only [labOk, Bool.and_eq_true, beq_iff_eq, decide_eq_true_eq] at hn
    by_cases e : b = n
    · subst e; exact hn.1
    · exact lab_le n b hn.2 (by omega)
theorem lab_one {b : Nat} (h : b < 20) : Tm.deep (lab b) = 1 ∧ (lab b).length ≤ 5 := lab_le 20 b lab_all h

theorem stp_ok {x : Bs} {b : Nat} (hb : b < 20) (hx : Tm.deep x ≠ 0) (hd : Tm.deep x + 1 ≤ 64) (hl : x.length + 6 ≤ 16384) :
    (stp x b).2 = 0 ∧ Tm.deep (stp x b).1 = Tm.deep x + 1 ∧ (stp x b).1.length ≤ x.length + 6 := by
  obtain ⟨h1, h2⟩ := lab_one hb
  have e : stp x b = (68 :: (x ++ lab b), 0) := by
    unfold stp
    rw [bRes_two, if_neg (by rw [h1]; simp [hx]), if_neg (by rw [h1]; omega)]
  have hi := Tm.is_two (Tm.deep_is hx).1 (Tm.deep_is (show Tm.deep (lab b) ≠ 0 by omega)).1 (show Tm.isTwo 68 = true from rfl)
  have hm : max (Tm.deep x) (Tm.deep (lab b)) + 1 = Tm.deep x + 1 := by rw [h1]; omega
  rw [hm] at hi
  rw [e]
  refine ⟨rfl, Tm.is_deep hi hd ?_, ?_⟩ <;> simp <;> omega
theorem stp_deep {x : Bs} {b : Nat} (hb : b < 20) (h : (stp x b).2 = 0) : Tm.deep x ≠ 0 ∧ Tm.deep x + 1 ≤ 64 ∧ x.length + 2 ≤ 16384 ∧ Tm.deep (stp x b).1 = Tm.deep x + 1 := by
  obtain ⟨h1, h2⟩ := lab_one hb
  unfold stp at h ⊢
  rw [bRes_two] at h ⊢
  by_cases hx : Tm.deep x = 0
  · rw [if_pos (Or.inl hx)] at h; simp at h
  · rw [if_neg (by rw [h1]; simp [hx])] at h ⊢
    by_cases hc : 64 < max (Tm.deep x) (Tm.deep (lab b)) + 1 ∨ 16384 < 1 + x.length + (lab b).length
    · rw [if_pos hc] at h; simp at h
    · rw [if_neg hc] at h ⊢
      rw [h1] at hc
      have hi := Tm.is_two (Tm.deep_is hx).1 (Tm.deep_is (show Tm.deep (lab b) ≠ 0 by omega)).1 (show Tm.isTwo 68 = true from rfl)
      have hm : max (Tm.deep x) (Tm.deep (lab b)) + 1 = Tm.deep x + 1 := by rw [h1]; omega
      rw [hm] at hi
      have hne : (lab b).length ≠ 0 := by
        intro h0
        have : lab b = [] := List.eq_nil_of_length_eq_zero h0
        rw [this] at h1
        exact absurd h1 (by decide)
      exact ⟨hx, by omega, by omega, Tm.is_deep hi (by omega) (by simp; omega)⟩

/-- from a term that is not too deep nor too long on, nothing is refused -/
theorem fr_fine : ∀ (k i : Nat) (x : Bs), k ≤ 20 → Tm.deep x ≠ 0 → Tm.deep x + k ≤ 64 → x.length + 6 * k ≤ 16384 → (Sd.fr stp k i x).2 = 0 ∧ Tm.deep (Sd.fr stp k i x).1 ≠ 0
  | 0, _, _, _, h, _, _ => ⟨rfl, h⟩
  | k + 1, i, x, hk, h, hd, hl => by
    unfold Sd.fr
    cases i.testBit k with
    | false => exact fr_fine k i x (by omega) h (by omega) (by omega)
    | true =>
      obtain ⟨h1, h2, h3⟩ := stp_ok (b := k) (by omega) h (by omega) (by omega)
      simp only [if_true, h1]
      exact fr_fine k i _ (by omega) (by omega) (by omega) (by omega)
/-- where all steps were made, the term was not too deep -/
theorem fr_steps : ∀ (k i : Nat) (x : Bs), k ≤ 20 → Tm.deep x ≠ 0 → (∀ b, b < k → i.testBit b = true) → (Sd.fr stp k i x).2 = 0 → Tm.deep x + k ≤ 64
  | 0, _, x, _, h, _, _ => by have := (Tm.deep_is h).1; exact Nat.le_trans (by omega) (Tm.deep_le x)
  | k + 1, i, x, hk, h, hb, hf => by
    unfold Sd.fr at hf
    rw [hb k (by omega), if_pos rfl] at hf
    by_cases h0 : (stp x k).2 = 0
    · rw [if_pos h0] at hf
      obtain ⟨_, _, _, h4⟩ := stp_deep (by omega) h0
      have := fr_steps k i _ (by omega) (by omega) (fun b hb2 => hb b (by omega)) hf
      omega
    · rw [if_neg h0] at hf; exact absurd hf h0

theorem fr_succ (k i : Nat) (x : Bs) : Sd.fr stp (k + 1) i x = if i.testBit k then (if (stp x k).2 = 0 then Sd.fr stp k i (stp x k).1 else ([], (stp x k).2)) else Sd.fr stp k i x := rfl
theorem high_bit {k e i : Nat} (he : e < 2 ^ k) (hi : i % 2 ^ k = 0) (d : Nat) : (i + e).testBit (k + d) = i.testBit (k + d) := by
  have h1 : ((i + e) / 2 ^ k).testBit d = (i + e).testBit (d + k) := Nat.testBit_div_two_pow (i + e) d
  have h2 : (i / 2 ^ k).testBit d = i.testBit (d + k) := Nat.testBit_div_two_pow i d
  have h3 : (i + e) / 2 ^ k = i / 2 ^ k := by
    have h4 := Nat.div_add_mod i (2 ^ k)
    rw [hi, Nat.add_zero] at h4
    rw [← h4, Nat.mul_add_div (Nat.two_pow_pos k), Nat.div_eq_of_lt he, Nat.mul_div_cancel_left _ (Nat.two_pow_pos k), Nat.add_zero]
  rw [h3, h2] at h1
  rw [Nat.add_comm k d]; exact h1.symm
/-- a secret's secrets are the seed's -/
theorem fr_join {k e i : Nat} (he : e < 2 ^ k) (hi : i % 2 ^ k = 0) : ∀ (d : Nat) (x : Bs), (Sd.fr stp (k + d) i x).2 = 0 → Sd.fr stp (k + d) (i + e) x = Sd.fr stp k e (Sd.fr stp (k + d) i x).1
  | 0, x, _ => by
    rw [Nat.add_zero]
    have h1 : Sd.fr stp k i x = (x, 0) := by rw [← Sd.fr_mod, hi, Sd.fr_zero]
    have h2 : (i + e) % 2 ^ k = e := by rw [Nat.add_mod, hi, Nat.zero_add, Nat.mod_mod, Nat.mod_eq_of_lt he]
    rw [h1, ← Sd.fr_mod stp k (i + e), h2]
  | d + 1, x, h => by
    have hbit := high_bit he hi d
    rw [show k + (d + 1) = (k + d) + 1 from rfl] at h ⊢
    rw [fr_succ (k + d) i x] at h ⊢
    rw [fr_succ (k + d) (i + e) x, hbit]
    cases hb : i.testBit (k + d) with
    | false =>
      rw [hb] at h
      exact fr_join he hi d x h
    | true =>
      rw [hb] at h
      by_cases h0 : (stp x (k + d)).2 = 0
      · rw [if_pos rfl, if_pos h0] at h
        rw [if_pos rfl, if_pos h0, if_pos rfl, if_pos h0]
        exact fr_join he hi d _ h
      · rw [if_pos rfl, if_neg h0] at h
        exact absurd h h0

theorem sec_is {s : Bs} {i : Nat} (hi : i < 1048576) (hd : Tm.deep s ≠ 0) : secRes s (1048575 - (i : Int)) = Sd.fr stp 20 (1048575 - i) s := by
  unfold secRes
  rw [if_neg (by omega), if_neg hd]
  congr 1; omega
/-- where the secret at Top is made, all are -/
theorem sec_fine {s : Bs} (hl : s.length ≤ 300) (h : (secRes s 1048575).2 = 0) : Tm.deep s ≠ 0 ∧ ∀ i : Nat, i < 1048576 → (secRes s (1048575 - (i : Int))).2 = 0 ∧ Tm.deep (secRes s (1048575 - (i : Int))).1 ≠ 0 := by
  have hd : Tm.deep s ≠ 0 := by
    intro h0
    unfold secRes at h
    rw [if_neg (by omega), if_pos h0] at h
    simp at h
  refine ⟨hd, fun i hi => ?_⟩
  have h20 : Tm.deep s + 20 ≤ 64 := by
    have h1 := sec_is (s := s) (i := 0) (by omega) hd
    rw [show (1048575 - ((0 : Nat) : Int)) = 1048575 from rfl] at h1
    rw [h1] at h
    refine fr_steps 20 1048575 s (by omega) hd (fun b hb => ?_) h
    have := Nat.testBit_two_pow_sub_one 20 b
    rw [show (2 : Nat) ^ 20 - 1 = 1048575 from rfl] at this
    rw [this]; simpa using hb
  rw [sec_is hi hd]
  exact fr_fine 20 _ s (by omega) hd h20 (by omega)

/-- the secrets from Top downward -/
def secs (s : Bs) (n : Nat) : List Bs := (List.range n).map (fun j : Nat => (secRes s (1048575 - (j : Int))).1)
theorem secs_len (s : Bs) (n : Nat) : (secs s n).length = n := by simp [secs]
theorem secs_next (s : Bs) (n : Nat) : secs s (n + 1) = secs s n ++ [(secRes s (1048575 - (n : Int))).1] := by simp [secs, List.range_succ]
theorem secs_get {s : Bs} {n j : Nat} (h : j < n) : (secs s n).getD j [] = (secRes s (1048575 - (j : Int))).1 := by
  rw [List.getD_eq_getElem?_getD]; simp [secs, h]

theorem low_up {i : Nat} (hi : i < 1048576) {b : Nat} (hb : b < Sd.low (1048575 - i)) : 2 ^ b ≤ i := by
  have h1 := Sd.low_mod (1048575 - i)
  have h2 : (1048575 - i) % 2 ^ (b + 1) = 0 := by
    have h3 : (1048575 - i) % 2 ^ Sd.low (1048575 - i) % 2 ^ (b + 1) = (1048575 - i) % 2 ^ (b + 1) := Nat.mod_mod_of_dvd _ (Nat.pow_dvd_pow 2 (by omega))
    rw [h1, Nat.zero_mod] at h3
    exact h3.symm
  apply Classical.byContradiction
  intro hn
  have hbl : b < 20 := by have := (Sd.low_is (1048575 - i)).1; omega
  have h20 : (2 : Nat) ^ 20 = 2 ^ (b + 1) * 2 ^ (19 - b) := by rw [← Nat.pow_add]; congr 1; omega
  have h4 := Nat.div_add_mod (1048575 - i) (2 ^ (b + 1))
  rw [h2, Nat.add_zero] at h4
  have hlt : (1048575 - i) / 2 ^ (b + 1) < 2 ^ (19 - b) := by
    apply Nat.div_lt_of_lt_mul
    rw [← h20]; omega
  have h5 : 2 ^ (b + 1) * ((1048575 - i) / 2 ^ (b + 1) + 1) ≤ 2 ^ 20 := by rw [h20]; exact Nat.mul_le_mul_left _ hlt
  rw [Nat.mul_add, h4, Nat.mul_one, Nat.pow_succ] at h5
  omega
end Go.Proofs.YtkifchjpgdmcoaaGreatDoor

/- A name's text is a right term. -/
namespace Go.Proofs.YtkifchjpgdmcoaaGreatDoor

theorem head_app {l r : Bs} (h : l ≠ []) : (l ++ r).head? = l.head? := by
  cases l with
  | nil => exact absurd rfl h
  | cons a b => rfl
theorem digit_nat {d : Nat} (h : d < 10) : (UInt8.ofNat (48 + d)).toNat = 48 + d := by
  rw [UInt8.toNat_ofNat']
  exact Nat.mod_eq_of_lt (by omega)
theorem numGo_dec (e : UInt8) (he : e = 59 ∨ e = 58) : ∀ (k n : Nat), n < k → n ≤ 9223372036854775807 → ∀ (l : Bs), Tm.numGo e 0 (Lib.decDigits n ++ l) = Tm.numGo e n l := by
  have one : ∀ (a d : Nat) (l : Bs), d < 10 → 10 * a + d ≤ 9223372036854775807 → Tm.numGo e a (UInt8.ofNat (48 + d) :: l) = Tm.numGo e (10 * a + d) l := by
    intro a d l hd hb
    have hn := digit_nat hd
    have hne : UInt8.ofNat (48 + d) ≠ e := by
      intro h
      rw [h] at hn
      rcases he with h2 | h2 <;> rw [h2] at hn
      · have : (59 : UInt8).toNat = 59 := rfl
        omega
      · have : (58 : UInt8).toNat = 58 := rfl
        omega
    rw [Tm.numGo, if_neg hne, hn, if_pos ⟨by omega, by omega, by omega⟩]
    congr 1
    omega
  intro k
  induction k with
  | zero => intro n h; omega
  | succ k ih =>
    intro n hk hn l
    rw [Lib.decDigits]
    by_cases h : n < 10
    · rw [dif_pos h]
      have := one 0 n l h (by omega)
      rw [show 10 * 0 + n = n by omega] at this
      exact this
    · rw [dif_neg h, List.append_assoc, ih (n / 10) (by omega) (by omega), List.singleton_append, one _ _ _ (by omega) (by omega)]
      congr 1
      omega
theorem dec_head : ∀ (k n : Nat), n < k → (Lib.decDigits n).length = 1 ∨ (Lib.decDigits n).head? ≠ some 48 := by
  intro k
  induction k with
  | zero => intro n h; omega
  | succ k ih =>
    intro n hk
    rw [Lib.decDigits]
    by_cases h : n < 10
    · rw [dif_pos h]; left; rfl
    · rw [dif_neg h]
      right
      rcases ih (n / 10) (by omega) with h1 | h1
      · by_cases h2 : n / 10 < 10
        · rw [Lib.decDigits, dif_pos h2]
          simp only [List.cons_append, List.head?_cons, ne_eq, Option.some.injEq]
          intro e
          have := digit_nat h2
          rw [e] at this
          have : (48 : UInt8).toNat = 48 := rfl
          omega
        · rw [Lib.decDigits, dif_neg h2] at h1
          simp only [List.length_append, List.length_singleton] at h1
          have : 0 < (Lib.decDigits (n / 10 / 10)).length := by rw [Lib.decDigits]; split <;> simp
          omega
      · have hne : Lib.decDigits (n / 10) ≠ [] := by rw [Lib.decDigits]; split <;> simp
        rw [head_app hne]
        exact h1
theorem num_name (n : Nat) (h : n ≤ 9223372036854775807) (x : Bs) : Tm.num 59 (Lib.decDigits n ++ 59 :: x) = some (n, x) := by
  unfold Tm.num
  rw [numGo_dec 59 (Or.inl rfl) (n + 1) n (by omega) h, Tm.numGo, if_pos rfl]
  have hp : 0 < (Lib.decDigits n).length := by rw [Lib.decDigits]; split <;> simp
  have hne : Lib.decDigits n ≠ [] := List.length_pos_iff.1 hp
  simp only [List.length_append, List.length_cons]
  rw [if_neg]
  rintro (a | ⟨a, b⟩)
  · omega
  · rw [head_app hne] at b
    rcases dec_head (n + 1) n (by omega) with c | c
    · omega
    · exact c b
theorem is_name (n : Nat) (h : n ≤ 9223372036854775807) : Tm.Is 1 (110 :: (Lib.decDigits n ++ [59])) := by
  refine ⟨by omega, by simp, fun m x hm => ?_⟩
  obtain ⟨m, rfl⟩ : ∃ k, m = k + 1 := ⟨m - 1, by omega⟩
  rw [List.cons_append, List.append_assoc, List.singleton_append, Tm.rd_cons, if_pos rfl]
  unfold Tm.nameA
  rw [num_name n h]
/-- what Name answers -/
theorem name_res {n : Int} (h0 : 0 ≤ n) (h1 : n ≤ 9223372036854775807) : ∃ x, nameRes n = (x, 0) ∧ x.head? = some 110 ∧ Tm.Is 1 x ∧ x.length ≤ 22 ∧ x = 110 :: (Lib.decDigits n.toNat ++ [59]) := by
  have hl := dec_len n.toNat (by omega)
  refine ⟨110 :: (dec n.toNat ++ [59]), ?_, rfl, is_name _ (by omega), by simp; omega, rfl⟩
  unfold nameRes bRes
  rw [if_neg (by omega), if_neg (by simp), if_neg (by simp [bDeep, bSize]; omega)]
  simp
end Go.Proofs.YtkifchjpgdmcoaaGreatDoor

/- Keys: what two names' secrets and keys are. -/
namespace Go.Proofs.YtkifchjpgdmcoaaGreatDoor
open Go.RowKit

/-- a secret that was made as a child: not too deep, not too long -/
structure Dt (D B : Nat) (t : Bs) : Prop where
  deep : Tm.deep t ≠ 0
  le : Tm.deep t ≤ D
  len : t.length ≤ B
  hd : t.head? = some 68
theorem Dt.mono {D B D' B' : Nat} {t : Bs} (h : Dt D B t) (h1 : D ≤ D') (h2 : B ≤ B') : Dt D' B' t := ⟨h.deep, by have := h.le; omega, by have := h.len; omega, h.hd⟩
theorem two_is (op : UInt8) {a b : Bs} (ha : Tm.deep a ≠ 0) (hb : Tm.deep b ≠ 0) (h1 : max (Tm.deep a) (Tm.deep b) + 1 ≤ 64) (h2 : 1 + a.length + b.length ≤ 16384) : bRes op [] [a, b] = (op :: (a ++ b), 0) := by
  rw [bRes_two, if_neg (by simp [ha, hb]), if_neg (by omega)]
theorem lab_all8 : (Tm.deep (labk wChan 1) = 2 ∧ (labk wChan 1).length ≤ 30) ∧ (Tm.deep (labk wChan 2) = 2 ∧ (labk wChan 2).length ≤ 30) ∧ ∀ j : Fin 6, Tm.deep (labk (lb j.1) 0) = 2 ∧ (labk (lb j.1) 0).length ≤ 30 := by decide +kernel
theorem child_is {x l : Bs} (hx : Tm.deep x ≠ 0) (hd : Tm.deep x ≤ 40) (hl : x.length ≤ 1000) (h2 : Tm.deep l = 2) (h3 : l.length ≤ 30) :
    bRes 68 [] [x, l] = (68 :: (x ++ l), 0) ∧ Tm.deep (68 :: (x ++ l)) = max (Tm.deep x) 2 + 1 ∧ Tm.kidsOf 63 (68 :: (x ++ l)) = [x, l] := by
  have e := two_is 68 hx (by omega : Tm.deep l ≠ 0) (by omega) (by omega)
  obtain ⟨h4, h5⟩ := made_two (op := 68) rfl hx (by omega : Tm.deep l ≠ 0) (by omega) (by omega)
  rw [h2] at h4
  exact ⟨e, h4, h5⟩
/-- a channel's own secret of a root; its six -/
def bs (r : Bs) (k : Nat) : Bs := 68 :: (r ++ labk wChan k)
def cs (b : Bs) (j : Nat) : Bs := 68 :: (b ++ labk (lb j) 0)
def chanS (b : Bs) : S6 := ⟨cs b 0, cs b 1, cs b 2, cs b 3, cs b 4, cs b 5⟩
theorem bs_is {r : Bs} (hr : Tm.Is 1 r) (hl : r.length ≤ 22) {k : Nat} (hk : k = 1 ∨ k = 2) : numRes r wChan (k : Int) = (bs r k, 0) ∧ Dt 3 53 (bs r k) ∧ Tm.kidsOf 63 (bs r k) = [r, labk wChan k] := by
  have hd : Tm.deep r = 1 := Tm.is_deep hr (by omega) (by omega)
  have hlk : Tm.deep (labk wChan k) = 2 ∧ (labk wChan k).length ≤ 30 := by
    rcases hk with h | h <;> subst h
    · exact lab_all8.1
    · exact lab_all8.2.1
  obtain ⟨h1, h2, h3⟩ := child_is (by omega : Tm.deep r ≠ 0) (by omega) (by omega) hlk.1 hlk.2
  refine ⟨?_, ⟨by show Tm.deep (68 :: _) ≠ 0; omega, by show Tm.deep (68 :: _) ≤ 3; omega, by show (68 :: _ : Bs).length ≤ 53; simp; omega, rfl⟩, h3⟩
  unfold numRes
  rw [if_neg (by omega), Int.toNat_natCast]
  exact h1
theorem cs_is {b : Bs} (hb : Dt 3 53 b) {j : Nat} (hj : j < 6) : ckid b j = (cs b j, 0) ∧ Dt 4 84 (cs b j) ∧ Tm.kidsOf 63 (cs b j) = [b, labk (lb j) 0] := by
  have hlk : Tm.deep (labk (lb j) 0) = 2 ∧ (labk (lb j) 0).length ≤ 30 := lab_all8.2.2 ⟨j, hj⟩
  have q1 := hb.le
  have q2 := hb.len
  obtain ⟨h1, h2, h3⟩ := child_is hb.deep (by omega) (by omega) hlk.1 hlk.2
  exact ⟨h1, ⟨by show Tm.deep (68 :: _) ≠ 0; omega, by show Tm.deep (68 :: _) ≤ 4; omega, by show (68 :: _ : Bs).length ≤ 84; simp; omega, rfl⟩, h3⟩
theorem chan_is {r : Bs} (hr : Tm.Is 1 r) (hl : r.length ≤ 22) {k : Nat} (hk : k = 1 ∨ k = 2) : chanRes r (k : Int) = (chanS (bs r k), 0) := by
  obtain ⟨h1, h2, _⟩ := bs_is hr hl hk
  rw [chan_ok h1 (fun j hj => by rw [(cs_is h2 hj).1])]
  rw [(cs_is h2 (by decide : 0 < 6)).1, (cs_is h2 (by decide : 1 < 6)).1, (cs_is h2 (by decide : 2 < 6)).1, (cs_is h2 (by decide : 3 < 6)).1, (cs_is h2 (by decide : 4 < 6)).1, (cs_is h2 (by decide : 5 < 6)).1]
  rfl
/-- its public key -/
theorem pub_is {D B : Nat} {t : Bs} (h : Dt D B t) (hD : D ≤ 40) (hB : B ≤ 1000) : pubRes t = (80 :: t, 0) ∧ Tm.deep (80 :: t) = Tm.deep t + 1 := by
  have q1 := h.le
  have q2 := h.len
  have hi := (Tm.deep_is h.deep).1
  have e := Tm.pk_else hi (by omega) (by rw [h.hd]; decide) (by rw [h.hd]; decide)
  have h2 : Tm.deep (80 :: t) = Tm.deep t + 1 := Tm.is_deep (Tm.is_pub hi (by rw [h.hd]; decide) (by rw [h.hd]; decide)) (by omega) (by simp; omega)
  refine ⟨?_, h2⟩
  unfold pubRes
  rw [if_neg h.deep, e, if_neg (by omega)]
def pubS (s : S6) : K5 := ⟨80 :: s.f, 80 :: s.r, 80 :: s.p, 80 :: s.l, 80 :: s.h⟩
theorem pubs_is {b : Bs} (hb : Dt 3 53 b) : pubs5 (chanS b) = (pubS (chanS b), 0) := by
  have h : ∀ j, j < 5 → pubRes ((chanS b).at j) = (80 :: (chanS b).at j, 0) := fun j hj => by
    match j, hj with
    | 0, _ => exact (pub_is (cs_is hb (by decide : 0 < 6)).2.1 (by decide) (by decide)).1
    | 1, _ => exact (pub_is (cs_is hb (by decide : 1 < 6)).2.1 (by decide) (by decide)).1
    | 2, _ => exact (pub_is (cs_is hb (by decide : 2 < 6)).2.1 (by decide) (by decide)).1
    | 3, _ => exact (pub_is (cs_is hb (by decide : 3 < 6)).2.1 (by decide) (by decide)).1
    | 4, _ => exact (pub_is (cs_is hb (by decide : 4 < 6)).2.1 (by decide) (by decide)).1
  rw [pubs5_ok (fun j hj => by rw [h j hj])]
  have h0 : pubRes (chanS b).f = _ := h 0 (by decide)
  have h1 : pubRes (chanS b).r = _ := h 1 (by decide)
  have h2 : pubRes (chanS b).p = _ := h 2 (by decide)
  have h3 : pubRes (chanS b).l = _ := h 3 (by decide)
  have h4 : pubRes (chanS b).h = _ := h 4 (by decide)
  rw [h0, h1, h2, h3, h4]
  rfl
theorem fr_dt : ∀ (k i : Nat) (x : Bs) (D B : Nat), k ≤ 20 → Dt D B x → D + k ≤ 64 → B + 6 * k ≤ 16384 → (Sd.fr stp k i x).2 = 0 ∧ Dt (D + k) (B + 6 * k) (Sd.fr stp k i x).1
  | 0, _, _, _, _, _, h, _, _ => ⟨rfl, h⟩
  | k + 1, i, x, D, B, hk, h, hd, hl => by
    unfold Sd.fr
    cases i.testBit k with
    | false =>
      have := fr_dt k i x D B (by omega) h (by omega) (by omega)
      exact ⟨this.1, this.2.mono (by omega) (by omega)⟩
    | true =>
      have q1 := h.le
      have q2 := h.len
      obtain ⟨h1, h2, h3⟩ := stp_ok (b := k) (by omega) h.deep (by omega) (by omega)
      simp only [if_true, h1]
      have hx : Dt (D + 1) (B + 6) (stp x k).1 := ⟨by omega, by omega, by omega, by
        obtain ⟨e, _⟩ := bRes_two_ok (show (bRes 68 [] [x, lab k]).2 = 0 from h1)
        show (bRes 68 [] [x, lab k]).1.head? = _
        rw [e]
        rfl⟩
      have := fr_dt k i _ (D + 1) (B + 6) (by omega) hx (by omega) (by omega)
      exact ⟨this.1, this.2.mono (by omega) (by omega)⟩
theorem sec_dt {s : Bs} (h : Dt 4 84 s) {n : Int} (h0 : 0 ≤ n) (h1 : n ≤ 1048575) : ∃ t, secRes s (1048575 - n) = (t, 0) ∧ Dt 24 204 t := by
  have hf := fr_dt 20 (1048575 - n).toNat s 4 84 (by omega) h (by omega) (by omega)
  refine ⟨(Sd.fr stp 20 (1048575 - n).toNat s).1, ?_, hf.2⟩
  unfold secRes
  rw [if_neg (by omega), if_neg h.deep]
  exact Prod.ext rfl hf.1
theorem pnt_is {s t : Bs} {n : Int} (h : secRes s (1048575 - n) = (t, 0)) (ht : Dt 24 204 t) : pntRes s n = (80 :: t, 0) := by
  unfold pntRes
  rw [h, if_pos rfl]
  exact (pub_is ht (by decide) (by decide)).1
/-- the keys of a commitment -/
def setS (s o : S6) (t : Bs) : K5 := ⟨87 :: ((80 :: o.r) ++ (80 :: t)), 76 :: ((80 :: s.l) ++ (80 :: t)), 76 :: ((80 :: s.h) ++ (80 :: t)), 76 :: ((80 :: o.h) ++ (80 :: t)), 80 :: o.p⟩
theorem joint_is {a t : Bs} (ha : Dt 4 84 a) (ht : Dt 24 204 t) : jointRes (80 :: a) (80 :: t) = (87 :: ((80 :: a) ++ (80 :: t)), 0) := by
  have p1 := (pub_is ha (by decide) (by decide)).2
  have p2 := (pub_is ht (by decide) (by decide)).2
  have q1 := ha.le; have q2 := ha.len; have q3 := ht.le; have q4 := ht.len
  unfold jointRes
  rw [if_pos (show (Tm.isPk (80 :: a).head? && Tm.isPk (80 :: t).head?) = true from rfl)]
  exact two_is 87 (by omega) (by omega) (by omega) (by simp; omega)
theorem bound_is {a t : Bs} (ha : Dt 4 84 a) (ht : Dt 24 204 t) : boundRes (80 :: a) (80 :: t) = (76 :: ((80 :: a) ++ (80 :: t)), 0) := by
  have p1 := (pub_is ha (by decide) (by decide)).2
  have p2 := (pub_is ht (by decide) (by decide)).2
  have q1 := ha.le; have q2 := ha.len; have q3 := ht.le; have q4 := ht.len
  unfold boundRes
  rw [if_pos (show Tm.isPk (80 :: a).head? = true from rfl)]
  exact two_is 76 (by omega) (by omega) (by omega) (by simp; omega)
theorem set_is {b c t : Bs} (hb : Dt 3 53 b) (hc : Dt 3 53 c) (ht : Dt 24 204 t) : setRes (pubS (chanS b)) (pubS (chanS c)) (80 :: t) = (setS (chanS b) (chanS c) t, 0) := by
  have D := fun (j : Nat) (hj : j < 6) => (cs_is hb hj).2.1
  have E := fun (j : Nat) (hj : j < 6) => (cs_is hc hj).2.1
  have e0 : jointRes (pubS (chanS c)).r (80 :: t) = _ := joint_is (E 1 (by decide)) ht
  have e1 : boundRes (pubS (chanS b)).l (80 :: t) = _ := bound_is (D 3 (by decide)) ht
  have e2 : boundRes (pubS (chanS b)).h (80 :: t) = _ := bound_is (D 4 (by decide)) ht
  have e3 : boundRes (pubS (chanS c)).h (80 :: t) = _ := bound_is (E 4 (by decide)) ht
  have e4 : pkRes (pubS (chanS c)).p = ((pubS (chanS c)).p, 0) := by
    have := (pub_is (E 2 (by decide)) (by decide) (by decide)).2
    have h2 := (E 2 (by decide)).deep
    unfold pkRes
    rw [if_pos ⟨by show Tm.deep (80 :: cs c 2) ≠ 0; omega, rfl⟩]
  rw [setRes_ok (fun j hj => by
    match j, hj with
    | 0, _ => show (jointRes (pubS (chanS c)).r (80 :: t)).2 = 0; rw [e0]
    | 1, _ => show (boundRes (pubS (chanS b)).l (80 :: t)).2 = 0; rw [e1]
    | 2, _ => show (boundRes (pubS (chanS b)).h (80 :: t)).2 = 0; rw [e2]
    | 3, _ => show (boundRes (pubS (chanS c)).h (80 :: t)).2 = 0; rw [e3]
    | 4, _ => show (pkRes (pubS (chanS c)).p).2 = 0; rw [e4])]
  rw [e0, e1, e2, e3, e4]
  rfl
/-- a bound secret and its public key -/
theorem bind_is {a t : Bs} (ha : Dt 4 84 a) (ht : Dt 24 204 t) : bRes 75 [] [a, 80 :: t] = (75 :: (a ++ (80 :: t)), 0) ∧ pubRes (75 :: (a ++ (80 :: t))) = (76 :: ((80 :: a) ++ (80 :: t)), 0) := by
  have p1 := (pub_is ha (by decide) (by decide)).2
  have p2 := (pub_is ht (by decide) (by decide)).2
  have q1 := ha.le; have q2 := ha.len; have q3 := ht.le; have q4 := ht.len
  have e := two_is 75 ha.deep (by omega : Tm.deep (80 :: t) ≠ 0) (by omega) (by simp; omega)
  refine ⟨e, ?_⟩
  have hd := (made_two (op := 75) rfl ha.deep (by omega : Tm.deep (80 :: t) ≠ 0) (by omega) (by simp; omega)).1
  have ia := (Tm.deep_is ha.deep).1
  have it := (Tm.deep_is (by omega : Tm.deep (80 :: t) ≠ 0)).1
  have hpk := Tm.pk_bind ia it (by omega) (by omega)
  rw [Tm.pk_else ia (by omega) (by rw [ha.hd]; decide) (by rw [ha.hd]; decide)] at hpk
  have h3 : Tm.deep (76 :: ((80 :: a) ++ (80 :: t))) ≠ 0 := by
    have i2 := Tm.is_bound (Tm.deep_is (by omega : Tm.deep (80 :: a) ≠ 0)).1 it rfl
    rw [Tm.is_deep i2 (by omega) (by simp; omega)]
    omega
  unfold pubRes
  rw [if_neg (by omega), hpk, if_neg h3]
/-- a joined secret and its public key -/
theorem join_is {a t : Bs} (ha : Dt 4 84 a) (ht : Dt 24 204 t) : bRes 86 [] [a, t] = (86 :: (a ++ t), 0) ∧ pubRes (86 :: (a ++ t)) = (87 :: ((80 :: a) ++ (80 :: t)), 0) := by
  have p1 := (pub_is ha (by decide) (by decide)).2
  have p2 := (pub_is ht (by decide) (by decide)).2
  have q1 := ha.le; have q2 := ha.len; have q3 := ht.le; have q4 := ht.len
  have e := two_is 86 ha.deep ht.deep (by omega) (by omega)
  refine ⟨e, ?_⟩
  have hd := (made_two (op := 86) rfl ha.deep ht.deep (by omega) (by omega)).1
  have ia := (Tm.deep_is ha.deep).1
  have it := (Tm.deep_is ht.deep).1
  have hpk := Tm.pk_join ia it (by omega) (by omega)
  rw [Tm.pk_else ia (by omega) (by rw [ha.hd]; decide) (by rw [ha.hd]; decide), Tm.pk_else it (by omega) (by rw [ht.hd]; decide) (by rw [ht.hd]; decide)] at hpk
  have h3 : Tm.deep (87 :: ((80 :: a) ++ (80 :: t))) ≠ 0 := by
    have i2 := Tm.is_joint (Tm.deep_is (by omega : Tm.deep (80 :: a) ≠ 0)).1 (Tm.deep_is (by omega : Tm.deep (80 :: t) ≠ 0)).1 rfl rfl
    rw [Tm.is_deep i2 (by omega) (by simp; omega)]
    omega
  unfold pubRes
  rw [if_neg (by omega), hpk, if_neg h3]
end Go.Proofs.YtkifchjpgdmcoaaGreatDoor
