import Derived.Test.YtkifchjpgdmcoaaGreatDoorSdAll
import Derived.Test.YtkifchjpgdmcoaaGreatDoorMkAll
/- A seed's secrets, heard in their order. -/
namespace Go.Proofs.YtkifchjpgdmcoaaGreatDoor
open Go.RowKit
def labOk : Nat → Bool
 | 0 => true
 | n + 1 => (Tm.deep (lab n) == 1 && (lab n).length ≤ 5) && labOk n
theorem lab_all : labOk 20 = true := by decide +kernel
theorem lab_le : ∀ (n b : Nat), labOk n = true → b < n → Tm.deep (lab b) = 1 ∧ (lab b).length ≤ 5
 | 0, _, _, h => by omega
 | n + 1, b, hn, h => by
   simp only [labOk, Bool.and_eq_true, beq_iff_eq, decide_eq_true_eq] at hn
   by_cases e : b = n
   · subst e; exact hn.1
   · exact lab_le n b hn.2 (by omega)
theorem lab_one {b : Nat} (h : b < 20) : Tm.deep (lab b) = 1 ∧ (lab b).length ≤ 5 := lab_le 20 b lab_all h
theorem stp_ok {x : Bs} {b : Nat} (hb : b < 20) (hx : Tm.deep x ≠ 0) (hd : Tm.deep x + 1 ≤ 64) (hl : x.length + 6 ≤ 16384) :
   (stp x b).2 = 0 ∧ Tm.deep (stp x b).1 = Tm.deep x + 1 ∧ (stp x b).1.length ≤ x.length + 6 := by
 obtain ⟨h1, h2⟩ := lab_one hb
 have e : stp x b = (68 :: (x ++ lab b), 0) := by
   unfold stp
   rw [bRes_two, if_neg (by rw [h1]; simp [hx]), if_neg (by rw [h1]; omega)]
 have hi := Tm.is_two (Tm.deep_is hx).1 (Tm.deep_is (show Tm.deep (lab b) ≠ 0 by omega)).1 (show Tm.isTwo 68 = true from rfl)
 have hm : max (Tm.deep x) (Tm.deep (lab b)) + 1 = Tm.deep x + 1 := by rw [h1]; omega
 rw [hm] at hi
 rw [e]
 refine ⟨rfl, Tm.is_deep hi hd ?_, ?_⟩ <;> simp <;> omega
def secs (s : Bs) (n : Nat) : List Bs := (List.range n).map (fun j : Nat => (secRes s (1048575 - (j : Int))).1)
end Go.Proofs.YtkifchjpgdmcoaaGreatDoor

/- A name's text is a right term. -/
namespace Go.Proofs.YtkifchjpgdmcoaaGreatDoor
theorem head_app {l r : Bs} (h : l ≠ []) : (l ++ r).head? = l.head? := by
 cases l with
 | nil => exact absurd rfl h
 | cons a b => rfl
theorem digit_nat {d : Nat} (h : d < 10) : (UInt8.ofNat (48 + d)).toNat = 48 + d := by
 rw [UInt8.toNat_ofNat']
 exact Nat.mod_eq_of_lt (by omega)
theorem numGo_dec (e : UInt8) (he : e = 59 ∨ e = 58) : ∀ (k n : Nat), n < k → n ≤ 9223372036854775807 → ∀ (l : Bs), Tm.numGo e 0 (Lib.decDigits n ++ l) = Tm.numGo e n l := by
 have one : ∀ (a d : Nat) (l : Bs), d < 10 → 10 * a + d ≤ 9223372036854775807 → Tm.numGo e a (UInt8.ofNat (48 + d) :: l) = Tm.numGo e (10 * a + d) l := by
   intro a d l hd hb
   have hn := digit_nat hd
   have hne : UInt8.ofNat (48 + d) ≠ e := by
     intro h
     rw [h] at hn
     rcases he with h2 | h2 <;> rw [h2] at hn
     · have : (59 : UInt8).toNat = 59 := rfl
       omega
     · have : (58 : UInt8).toNat = 58 := rfl
       omega
   rw [Tm.numGo, if_neg hne, hn, if_pos ⟨by omega, by omega, by omega⟩]
   congr 1
   omega
 intro k
 induction k with
 | zero => intro n h; omega
 | succ k ih =>
   intro n hk hn l
   rw [Lib.decDigits]
   by_cases h : n < 10
   · rw [dif_pos h]
     have := one 0 n l h (by omega)
     rw [show 10 * 0 + n = n by omega] at this
     exact this
   · rw [dif_neg h, List.append_assoc, ih (n / 10) (by omega) (by omega), List.singleton_append, one _ _ _ (by omega) (by omega)]
     congr 1
     omega
theorem dec_head : ∀ (k n : Nat), n < k → (Lib.decDigits n).length = 1 ∨ (Lib.decDigits n).head? ≠ some 48 := by
 intro k
 induction k with
 | zero => intro n h; omega
 | succ k ih =>
   intro n hk
   rw [Lib.decDigits]
   by_cases h : n < 10
   · rw [dif_pos h]; left; rfl
   · rw [dif_neg h]
     right
     rcases ih (n / 10) (by omega) with h1 | h1
     · by_cases h2 : n / 10 < 10
       · rw [Lib.decDigits, dif_pos h2]
         simp only [List.cons_append, List.head?_cons, ne_eq, Option.some.injEq]
         intro e
         have := digit_nat h2
         rw [e] at this
         have : (48 : UInt8).toNat = 48 := rfl
         omega
       · rw [Lib.decDigits, dif_neg h2] at h1
         simp only [List.length_append, List.length_singleton] at h1
         have : 0 < (Lib.decDigits (n / 10 / 10)).length := by rw [Lib.decDigits]; split <;> simp
         omega
     · have hne : Lib.decDigits (n / 10) ≠ [] := by rw [Lib.decDigits]; split <;> simp
       rw [head_app hne]
       exact h1
theorem num_name (n : Nat) (h : n ≤ 9223372036854775807) (x : Bs) : Tm.num 59 (Lib.decDigits n ++ 59 :: x) = some (n, x) := by
 unfold Tm.num
 rw [numGo_dec 59 (Or.inl rfl) (n + 1) n (by omega) h, Tm.numGo, if_pos rfl]
 have hp : 0 < (Lib.decDigits n).length := by rw [Lib.decDigits]; split <;> simp
 have hne : Lib.decDigits n ≠ [] := List.length_pos_iff.1 hp
 simp only [List.length_append, List.length_cons]
 rw [if_neg]
 rintro (a | ⟨a, b⟩)
 · omega
 · rw [head_app hne] at b
   rcases dec_head (n + 1) n (by omega) with c | c
   · omega
   · exact c b
theorem is_name (n : Nat) (h : n ≤ 9223372036854775807) : Tm.Is 1 (110 :: (Lib.decDigits n ++ [59])) := by
 refine ⟨by omega, by simp, fun m x hm => ?_⟩
 obtain ⟨m, rfl⟩ : ∃ k, m = k + 1 := ⟨m - 1, by omega⟩
 rw [List.cons_append, List.append_assoc, List.singleton_append, Tm.rd_cons, if_pos rfl]
 unfold Tm.nameA
 rw [num_name n h]
theorem name_res {n : Int} (h0 : 0 ≤ n) (h1 : n ≤ 9223372036854775807) : ∃ x, nameRes n = (x, 0) ∧ x.head? = some 110 ∧ Tm.Is 1 x ∧ x.length ≤ 22 ∧ x = 110 :: (Lib.decDigits n.toNat ++ [59]) := by
 have hl := dec_len n.toNat (by omega)
 refine ⟨110 :: (dec n.toNat ++ [59]), ?_, rfl, is_name _ (by omega), by simp; omega, rfl⟩
 unfold nameRes bRes
 rw [if_neg (by omega), if_neg (by simp), if_neg (by simp [bDeep, bSize]; omega)]
 simp
end Go.Proofs.YtkifchjpgdmcoaaGreatDoor
