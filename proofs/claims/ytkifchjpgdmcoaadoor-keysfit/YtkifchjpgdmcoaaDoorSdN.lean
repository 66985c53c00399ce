/- A seed's secrets, heard in their order. -/
import Derived.Test.YtkifchjpgdmcoaaDoorSdAll
namespace Go.Proofs.YtkifchjpgdmcoaaDoor
open Go.RowKit

def labOk : Nat → Bool
  | 0 => true
  | n + 1 => (Tm.deep (lab n) == 1 && (lab n).length ≤ 5) && labOk n
theorem lab_all : labOk 20 = true := by decide +kernel
theorem lab_le : ∀ (n b : Nat), labOk n = true → b < n → Tm.deep (lab b) = 1 ∧ (lab b).length ≤ 5
  | 0, _, _, h => by omega
  | n + 1, b, hn, h => by
    simp only [labOk, Bool.and_eq_true, beq_iff_eq, decide_eq_true_eq] at hn
    by_cases e : b = n
    · subst e; exact hn.1
    · exact lab_le n b hn.2 (by omega)
theorem lab_one {b : Nat} (h : b < 20) : Tm.deep (lab b) = 1 ∧ (lab b).length ≤ 5 := lab_le 20 b lab_all h

theorem stp_ok {x : Bs} {b : Nat} (hb : b < 20) (hx : Tm.deep x ≠ 0) (hd : Tm.deep x + 1 ≤ 64) (hl : x.length + 6 ≤ 16384) :
    (stp x b).2 = 0 ∧ Tm.deep (stp x b).1 = Tm.deep x + 1 ∧ (stp x b).1.length ≤ x.length + 6 := by
  obtain ⟨h1, h2⟩ := lab_one hb
  have e : stp x b = (68 :: (x ++ lab b), 0) := by
    unfold stp
    rw [bRes_two, if_neg (by rw [h1]; simp [hx]), if_neg (by rw [h1]; omega)]
  have hi := Tm.is_two (Tm.deep_is hx).1 (Tm.deep_is (show Tm.deep (lab b) ≠ 0 by omega)).1 (show Tm.isTwo 68 = true from rfl)
  have hm : max (Tm.deep x) (Tm.deep (lab b)) + 1 = Tm.deep x + 1 := by rw [h1]; omega
  rw [hm] at hi
  rw [e]
  refine ⟨rfl, Tm.is_deep hi hd ?_, ?_⟩ <;> simp <;> omega
theorem stp_deep {x : Bs} {b : Nat} (hb : b < 20) (h : (stp x b).2 = 0) : Tm.deep x ≠ 0 ∧ Tm.deep x + 1 ≤ 64 ∧ x.length + 2 ≤ 16384 ∧ Tm.deep (stp x b).1 = Tm.deep x + 1 := by
  obtain ⟨h1, h2⟩ := lab_one hb
  unfold stp at h ⊢
  rw [bRes_two] at h ⊢
  by_cases hx : Tm.deep x = 0
  · rw [if_pos (Or.inl hx)] at h; simp at h
  · rw [if_neg (by rw [h1]; simp [hx])] at h ⊢
    by_cases hc : 64 < max (Tm.deep x) (Tm.deep (lab b)) + 1 ∨ 16384 < 1 + x.length + (lab b).length
    · rw [if_pos hc] at h; simp at h
    · rw [if_neg hc] at h ⊢
      rw [h1] at hc
      have hi := Tm.is_two (Tm.deep_is hx).1 (Tm.deep_is (show Tm.deep (lab b) ≠ 0 by omega)).1 (show Tm.isTwo 68 = true from rfl)
      have hm : max (Tm.deep x) (Tm.deep (lab b)) + 1 = Tm.deep x + 1 := by rw [h1]; omega
      rw [hm] at hi
      have hne : (lab b).length ≠ 0 := by
        intro h0
        have : lab b = [] := List.eq_nil_of_length_eq_zero h0
        rw [this] at h1
        exact absurd h1 (by decide)
      exact ⟨hx, by omega, by omega, Tm.is_deep hi (by omega) (by simp; omega)⟩

/-- from a term that is not too deep nor too long on, nothing is refused -/
theorem fr_fine : ∀ (k i : Nat) (x : Bs), k ≤ 20 → Tm.deep x ≠ 0 → Tm.deep x + k ≤ 64 → x.length + 6 * k ≤ 16384 → (Sd.fr stp k i x).2 = 0 ∧ Tm.deep (Sd.fr stp k i x).1 ≠ 0
  | 0, _, _, _, h, _, _ => ⟨rfl, h⟩
  | k + 1, i, x, hk, h, hd, hl => by
    unfold Sd.fr
    cases i.testBit k with
    | false => exact fr_fine k i x (by omega) h (by omega) (by omega)
    | true =>
      obtain ⟨h1, h2, h3⟩ := stp_ok (b := k) (by omega) h (by omega) (by omega)
      simp only [if_true, h1]
      exact fr_fine k i _ (by omega) (by omega) (by omega) (by omega)
/-- where all steps were made, the term was not too deep -/
theorem fr_steps : ∀ (k i : Nat) (x : Bs), k ≤ 20 → Tm.deep x ≠ 0 → (∀ b, b < k → i.testBit b = true) → (Sd.fr stp k i x).2 = 0 → Tm.deep x + k ≤ 64
  | 0, _, x, _, h, _, _ => by have := (Tm.deep_is h).1; exact Nat.le_trans (by omega) (Tm.deep_le x)
  | k + 1, i, x, hk, h, hb, hf => by
    unfold Sd.fr at hf
    rw [hb k (by omega), if_pos rfl] at hf
    by_cases h0 : (stp x k).2 = 0
    · rw [if_pos h0] at hf
      obtain ⟨_, _, _, h4⟩ := stp_deep (by omega) h0
      have := fr_steps k i _ (by omega) (by omega) (fun b hb2 => hb b (by omega)) hf
      omega
    · rw [if_neg h0] at hf; exact absurd hf h0

theorem fr_succ (k i : Nat) (x : Bs) : Sd.fr stp (k + 1) i x = if i.testBit k then (if (stp x k).2 = 0 then Sd.fr stp k i (stp x k).1 else ([], (stp x k).2)) else Sd.fr stp k i x := rfl
theorem high_bit {k e i : Nat} (he : e < 2 ^ k) (hi : i % 2 ^ k = 0) (d : Nat) : (i + e).testBit (k + d) = i.testBit (k + d) := by
  have h1 : ((i + e) / 2 ^ k).testBit d = (i + e).testBit (d + k) := Nat.testBit_div_two_pow (i + e) d
  have h2 : (i / 2 ^ k).testBit d = i.testBit (d + k) := Nat.testBit_div_two_pow i d
  have h3 : (i + e) / 2 ^ k = i / 2 ^ k := by
    have h4 := Nat.div_add_mod i (2 ^ k)
    rw [hi, Nat.add_zero] at h4
    rw [← h4, Nat.mul_add_div (Nat.two_pow_pos k), Nat.div_eq_of_lt he, Nat.mul_div_cancel_left _ (Nat.two_pow_pos k), Nat.add_zero]
  rw [h3, h2] at h1
  rw [Nat.add_comm k d]; exact h1.symm
/-- a secret's secrets are the seed's -/
theorem fr_join {k e i : Nat} (he : e < 2 ^ k) (hi : i % 2 ^ k = 0) : ∀ (d : Nat) (x : Bs), (Sd.fr stp (k + d) i x).2 = 0 → Sd.fr stp (k + d) (i + e) x = Sd.fr stp k e (Sd.fr stp (k + d) i x).1
  | 0, x, _ => by
    rw [Nat.add_zero]
    have h1 : Sd.fr stp k i x = (x, 0) := by rw [← Sd.fr_mod, hi, Sd.fr_zero]
    have h2 : (i + e) % 2 ^ k = e := by rw [Nat.add_mod, hi, Nat.zero_add, Nat.mod_mod, Nat.mod_eq_of_lt he]
    rw [h1, ← Sd.fr_mod stp k (i + e), h2]
  | d + 1, x, h => by
    have hbit := high_bit he hi d
    rw [show k + (d + 1) = (k + d) + 1 from rfl] at h ⊢
    rw [fr_succ (k + d) i x] at h ⊢
    rw [fr_succ (k + d) (i + e) x, hbit]
    cases hb : i.testBit (k + d) with
    | false =>
      rw [hb] at h
      exact fr_join he hi d x h
    | true =>
      rw [hb] at h
      by_cases h0 : (stp x (k + d)).2 = 0
      · rw [if_pos rfl, if_pos h0] at h
        rw [if_pos rfl, if_pos h0, if_pos rfl, if_pos h0]
        exact fr_join he hi d _ h
      · rw [if_pos rfl, if_neg h0] at h
        exact absurd h h0

theorem sec_is {s : Bs} {i : Nat} (hi : i < 1048576) (hd : Tm.deep s ≠ 0) : secRes s (1048575 - (i : Int)) = Sd.fr stp 20 (1048575 - i) s := by
  unfold secRes
  rw [if_neg (by omega), if_neg hd]
  congr 1; omega
/-- where the secret at Top is made, all are -/
theorem sec_fine {s : Bs} (hl : s.length ≤ 300) (h : (secRes s 1048575).2 = 0) : Tm.deep s ≠ 0 ∧ ∀ i : Nat, i < 1048576 → (secRes s (1048575 - (i : Int))).2 = 0 ∧ Tm.deep (secRes s (1048575 - (i : Int))).1 ≠ 0 := by
  have hd : Tm.deep s ≠ 0 := by
    intro h0
    unfold secRes at h
    rw [if_neg (by omega), if_pos h0] at h
    simp at h
  refine ⟨hd, fun i hi => ?_⟩
  have h20 : Tm.deep s + 20 ≤ 64 := by
    have h1 := sec_is (s := s) (i := 0) (by omega) hd
    rw [show (1048575 - ((0 : Nat) : Int)) = 1048575 from rfl] at h1
    rw [h1] at h
    refine fr_steps 20 1048575 s (by omega) hd (fun b hb => ?_) h
    have := Nat.testBit_two_pow_sub_one 20 b
    rw [show (2 : Nat) ^ 20 - 1 = 1048575 from rfl] at this
    rw [this]; simpa using hb
  rw [sec_is hi hd]
  exact fr_fine 20 _ s (by omega) hd h20 (by omega)

/-- the secrets from Top downward -/
def secs (s : Bs) (n : Nat) : List Bs := (List.range n).map (fun j : Nat => (secRes s (1048575 - (j : Int))).1)
theorem secs_len (s : Bs) (n : Nat) : (secs s n).length = n := by simp [secs]
theorem secs_next (s : Bs) (n : Nat) : secs s (n + 1) = secs s n ++ [(secRes s (1048575 - (n : Int))).1] := by simp [secs, List.range_succ]
theorem secs_get {s : Bs} {n j : Nat} (h : j < n) : (secs s n).getD j [] = (secRes s (1048575 - (j : Int))).1 := by
  rw [List.getD_eq_getElem?_getD]; simp [secs, h]

theorem low_up {i : Nat} (hi : i < 1048576) {b : Nat} (hb : b < Sd.low (1048575 - i)) : 2 ^ b ≤ i := by
  have h1 := Sd.low_mod (1048575 - i)
  have h2 : (1048575 - i) % 2 ^ (b + 1) = 0 := by
    have h3 : (1048575 - i) % 2 ^ Sd.low (1048575 - i) % 2 ^ (b + 1) = (1048575 - i) % 2 ^ (b + 1) := Nat.mod_mod_of_dvd _ (Nat.pow_dvd_pow 2 (by omega))
    rw [h1, Nat.zero_mod] at h3
    exact h3.symm
  apply Classical.byContradiction
  intro hn
  have hbl : b < 20 := by have := (Sd.low_is (1048575 - i)).1; omega
  have h20 : (2 : Nat) ^ 20 = 2 ^ (b + 1) * 2 ^ (19 - b) := by rw [← Nat.pow_add]; congr 1; omega
  have h4 := Nat.div_add_mod (1048575 - i) (2 ^ (b + 1))
  rw [h2, Nat.add_zero] at h4
  have hlt : (1048575 - i) / 2 ^ (b + 1) < 2 ^ (19 - b) := by
    apply Nat.div_lt_of_lt_mul
    rw [← h20]; omega
  have h5 : 2 ^ (b + 1) * ((1048575 - i) / 2 ^ (b + 1) + 1) ≤ 2 ^ 20 := by rw [h20]; exact Nat.mul_le_mul_left _ hlt
  rw [Nat.mul_add, h4, Nat.mul_one, Nat.pow_succ] at h5
  omega
end Go.Proofs.YtkifchjpgdmcoaaDoor
