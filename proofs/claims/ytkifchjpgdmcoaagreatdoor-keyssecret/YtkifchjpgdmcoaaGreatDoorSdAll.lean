import Derived.Test.YtkifchjpgdmcoaaGreatDoorFrAll
import Derived.Test.YtkifchjpgdmcoaaGreatDoorMkAll
import Derived.Test.YtkifchjpgdmcoaaGreatDoorAskAll
import Derived.Test.YtkifchjpgdmcoaaGreatDoorWhAll
/- A row of secrets, told from its end: the mathematics of the store. -/
namespace Go.Proofs.YtkifchjpgdmcoaaGreatDoor
namespace Sd
variable (st : Bs → Nat → Bs × Nat)
def fr : Nat → Nat → Bs → Bs × Nat
 | 0, _, x => (x, 0)
 | k + 1, i, x => if i.testBit k then (if (st x k).2 = 0 then fr k i (st x k).1 else ([], (st x k).2)) else fr k i x
def Ones (c k : Nat) : Prop := (∀ b, b < k → c.testBit b = true) ∧ c.testBit k = false
structure Inv (H : List Bs) (R : Nat → Bs) : Prop where
 le : H.length ≤ 2 ^ 20
 bit : ∀ k, k ≤ 20 → (R k ≠ [] ↔ H.length.testBit k = true)
 row : ∀ k, k ≤ 20 → H.length.testBit k = true → ∀ e, e < 2 ^ k → fr st k e (R k) = (H.getD (H.length - 1 - H.length % 2 ^ k - e) [], 0)
def mkr (R : Nat → Bs) : Nat → Nat → Nat → Bs × Nat
 | 0, _, _ => ([], 0)
 | n + 1, k, a => if R k = [] then mkr R n (k + 1) a else if a < 2 ^ k then (R k, k) else mkr R n (k + 1) (a - 2 ^ k)
def lowF : Nat → Nat → Nat → Nat
 | 0, k, _ => k
 | n + 1, k, i => if i.testBit k then k else lowF n (k + 1) i
def low (i : Nat) : Nat := lowF 20 0 i
def kpF (p : Nat) : Nat → Nat → Bool
 | 0, _ => true
 | n + 1, j => if p >>> low j = j >>> low j then false else kpF p n (j - 1)
def kp (p c : Nat) : Bool := kpF p (p - (2 ^ 20 - c)) (p - 1)
def cntF (c : Nat) : Nat → Nat → Nat
 | 0, _ => 0
 | n + 1, i => (if kp (2 ^ 20 - 1 - i) c then 1 else 0) + cntF c n (i + 1)
def popF (c : Nat) : Nat → Nat → Nat
 | 0, _ => 0
 | n + 1, k => (if c.testBit k then 1 else 0) + popF c n (k + 1)
def cntOk : Nat → Bool
 | 0 => true
 | n + 1 => (cntF n n 0 == popF n 21 0) && cntOk n
def kpOkF (c : Nat) : Nat → Bool
 | 0 => true
 | m + 1 => (m == 0 || kp (2 ^ 20 - 1 - c + m) c == decide (2 ^ Nat.log2 m = m)) && kpOkF c m
def kpOk : Nat → Bool
 | 0 => true
 | n + 1 => kpOkF n (2 ^ low (2 ^ 20 - 1 - n)) && kpOk n
end Sd
end Go.Proofs.YtkifchjpgdmcoaaGreatDoor

/- A step of a secret, and a secret from one on, as the program makes them. -/
namespace Go.Proofs.YtkifchjpgdmcoaaGreatDoor
open Go.RowKit
def lab (b : Nat) : Bs := (textRes (dec b)).1
theorem lab_is {b : Nat} (h : b < 100) : textRes (dec b) = (lab b, 0) := by
 have h1 := dec_len b (by omega)
 have h2 := dec_len (dec b).length (by omega)
 have h3 : (textRes (dec b)).2 = 0 := by
   unfold textRes
   rw [if_neg (by omega)]
   unfold bRes
   simp [bDeep, bSize]
   rw [if_neg (by omega)]
 exact Prod.ext rfl h3
def stp (x : Bs) (b : Nat) : Bs × Nat := bRes 68 [] [x, lab b]
set_option maxHeartbeats 1000000 in
theorem step_any (x : Bs) (b : Nat) (hb : b < 100) (w : World) (hp : Pw w) : Calls Tryz.prog 100 #[St x, .int .i64 (b : Int)] w fun en w' => en = made (stp x b) ∧ Below w.heap.size w w' := by
 have HI : Hid (Calls Tryz.prog 99 #[.int .i64 (b : Int)] w fun e w' => e = .returned (St (dec b)) ∧ Below w.heap.size w w') := hid (itoa_any b (by omega) w hp)
 have HT : Hid (∀ W, Pw W → Calls Tryz.prog 73 #[St (dec b)] W fun en w' => en = made (lab b, 0) ∧ Below W.heap.size W w') := hid (fun W h => by
   have := mktext_any (dec b) W (by have := dec_len b (by omega); omega) h
   rwa [lab_is hb] at this)
 have HP := hid hp
 have HS : Hid (stp x b = bRes 68 [] [x, lab b]) := hid rfl
 generalize stp x b = R at HS ⊢
 generalize dec b = D at HI HT
 generalize lab b = L at HT HS
 clear hp
 go_enter Tryz.func100, Tryz.ntmps100
 go_wp2_with fail
 refine HI.out.mono ?_
 rintro e w1 ⟨rfl, hb1⟩
 have HB1 := hid hb1
 clear hb1
 go_wp2_with fail
 refine (HT.out w1 (HP.out.below HB1.out)).mono ?_
 rintro e w2 ⟨rfl, hb2⟩
 have HB2 := hid (HB1.out.trans (hb2.mono HB1.out.size))
 clear hb2
 go_wp2_with fail
 refine (child_any x L w2).mono ?_
 rintro e w3 ⟨rfl, hb3⟩
 have HB3 := hid (HB2.out.trans (hb3.mono HB2.out.size))
 clear hb3
 go_wp2_with fail
 go_ret2
 exact ⟨by rw [HS.out]; rfl, HB3.out⟩
theorem and_one (a : Nat) (ha : a < 9223372036854775808) : bits .and .i64 (a : Int) 1 = ((a % 2 : Nat) : Int) := by
 have h1 : (BitVec.ofInt 64 (a : Int)).toNat = a := by simp; omega
 have h2 : (BitVec.ofInt 64 (1 : Int)).toNat = 1 := by decide
 change IntKind.i64.wrap ((BitVec.ofInt 64 (a : Int) &&& BitVec.ofInt 64 (1 : Int)).toNat : Int) = _
 rw [BitVec.toNat_and, h1, h2, Nat.and_one_is_mod, IntKind.wrap_i64]
 omega
theorem bit_int (i b : Nat) (hi : i < 9223372036854775808) : bits .and .i64 ((i : Int) / 2 ^ b) 1 = if i.testBit b then 1 else 0 := by
 have h1 : ((i : Int) / 2 ^ b) = ((i / 2 ^ b : Nat) : Int) := by simp
 have h2 : i / 2 ^ b < 9223372036854775808 := Nat.lt_of_le_of_lt (Nat.div_le_self _ _) hi
 rw [h1, and_one _ h2, ← Nat.toNat_testBit]
 cases i.testBit b <;> simp
set_option maxHeartbeats 4000000 in
theorem from_any (x0 : Bs) (k0 : Nat) (hk : k0 ≤ 20) (i : Nat) (hi : i < 9223372036854775808) (w : World) (hp : Pw w) :
   Calls Tryz.prog 76 #[St x0, .int .i64 (k0 : Int), .int .i64 (i : Int)] w fun en w' => en = made (Sd.fr stp k0 i x0) ∧ Below w.heap.size w w' := by
 have HP := hid hp
 have HI := hid hi
 have HK := hid hk
 have hkw : IntKind.i64.wrap ((k0 : Int) - 1) = (k0 : Int) - 1 := by rw [IntKind.wrap_i64]; omega
 obtain ⟨F, hF⟩ : ∃ F, F = Sd.fr stp k0 i x0 := ⟨_, rfl⟩
 have HF := hid hF
 rw [← hF]
 clear hp hi hk hF
 go_enter Tryz.func76, Tryz.ntmps76
 go_wp2_with fail
 go_loopg [0, 8, 9] k0 (fun gg v0 v8 v9 wr => ∃ (k : Nat) (x : Bs), k ≤ 20 ∧ gg = k ∧ v8 = .int .i64 ((k : Int) - 1) ∧ v0 = St x ∧ Hid (F = Sd.fr stp k i x) ∧ Below w.heap.size w wr)
 case atStart => exact ⟨k0, x0, HK.out, rfl, rfl, rfl, HF, Below.refl _ _⟩
 case round =>
   obtain ⟨k, x, hk20, hgk, rfl, rfl, hfr, hbel⟩ := hrel
   subst hgk
   cases gk with
   | zero =>
     have HFR : Hid (F = (x, 0)) := hfr
     have HB := hid hbel
     clear hbel hfr
     go_wp2_with fail
     go_ret2
     exact ⟨by rw [HFR.out]; rfl, HB.out⟩
   | succ k =>
     have HB := hid hbel
     have HKK : Hid (k < 20) := hid (by omega)
     have HPr : Hid (Pw wr) := hid (HP.out.below hbel)
     have hk0 : (0 : Int) ≤ (k : Int) := Int.natCast_nonneg _
     have hk64 : (k : Int) ≤ 64 := by omega
     have e1 : ((k + 1 : Nat) : Int) - 1 = (k : Int) := by omega
     have hw1 : IntKind.i64.wrap ((k : Int) - 1) = (k : Int) - 1 := by rw [IntKind.wrap_i64]; omega
     have hbit := bit_int i k HI.out
     rw [e1]
     clear e1 hbel hk20 HK
     cases hb : i.testBit k with
     | false =>
       rw [hb] at hbit
       have HFR : Hid (F = Sd.fr stp k i x) := hid (by have := hfr.out; rw [Sd.fr, hb] at this; exact this)
       have hbit0 : bits .and .i64 ((i : Int) / 2 ^ k) 1 = 0 := hbit
       clear hb hbit hfr
       go_wp2_with fail
       go_roundg k
       case measure => omega
       case rel => exact ⟨k, x, by have := HKK.out; omega, rfl, rfl, rfl, HFR, HB.out⟩
     | true =>
       rw [hb] at hbit
       have hbit0 : bits .and .i64 ((i : Int) / 2 ^ k) 1 = 1 := hbit
       have HC := hid (step_any x k (by omega) wr HPr.out)
       have HFR : Hid (F = if (stp x k).2 = 0 then Sd.fr stp k i (stp x k).1 else ([], (stp x k).2)) := hid (by have := hfr.out; rw [Sd.fr, hb] at this; exact this)
       clear hb hbit hfr
       generalize stp x k = yq at HC HFR
       obtain ⟨y, q⟩ := yq
       go_wp2_with fail
       refine HC.out.mono ?_
       rintro e w1 ⟨rfl, hb1⟩
       have HB1 := hid (HB.out.trans (hb1.mono HB.out.size))
       clear hb1
       by_cases hq : q = 0
       · subst hq
         go_wp2_with fail
         go_roundg k
         case measure => omega
         case rel => exact ⟨k, y, by have := HKK.out; omega, rfl, rfl, rfl, HFR, HB1.out⟩
       · have hq' : ((q : Int) == 0) = false := by simp; omega
         have hq2 : (q : Int) ≠ 0 := by omega
         have HFR2 : Hid (F = ([], q)) := hid (by have := HFR.out; simp only [hq, if_false] at this; exact this)
         clear hq
         go_wp2_with fail
         go_ret2
         exact ⟨by rw [HFR2.out]; rfl, HB1.out⟩
end Go.Proofs.YtkifchjpgdmcoaaGreatDoor

/- A seed's secret, as the program makes it; what is written anew. -/
namespace Go.Proofs.YtkifchjpgdmcoaaGreatDoor
open Go.RowKit
set_option maxHeartbeats 400000 in
theorem fterm_any (l : Bs) (w : World) (hl : l.length ≤ 20000) : Calls Tryz.prog 77 #[St l] w fun e w' => e = .returned (St l) ∧ Below w.heap.size w w' := by
 have HC : Hid (Calls Tryz.prog 57 #[St l] w fun e w' => e = .returned (St l) ∧ Below w.heap.size w w') := hid (clone_any ⟨l.toArray⟩ w (by rw [st_size]; exact hl))
 clear hl
 go_enter Tryz.func77, Tryz.ntmps77
 go_wp2_with fail
 refine HC.out.mono ?_
 rintro e w1 ⟨rfl, hb⟩
 have HB := hid hb
 clear hb
 go_wp2_with fail
 go_ret
 exact ⟨rfl, HB.out⟩
def secRes (s : Bs) (i : Int) : Bs × Nat := if i < 0 ∨ 1048575 < i then ([], 2) else if Tm.deep s = 0 then ([], 10) else Sd.fr stp 20 i.toNat s
theorem deep_len {l : Bs} (h : Tm.deep l ≠ 0) : l.length ≤ 20000 := Nat.le_trans (Tm.deep_is h).2 (by omega)
set_option maxHeartbeats 1000000 in
theorem secret_any (s : Bs) (i : Int) (w : World) (hp : Pw w) : Calls Tryz.prog 50 #[St s, .int .i64 i] w fun en w' => en = made (secRes s i) ∧ Below w.heap.size w w' := by
 have HP := hid hp
 clear hp
 by_cases h0 : i < 0
 · have HR : Hid (secRes s i = ([], 2)) := hid (by unfold secRes; rw [if_pos (Or.inl h0)])
   go_enter Tryz.func50, Tryz.ntmps50
   go_wp2_with fail
   go_ret2
   exact ⟨by rw [HR.out]; rfl, Below.refl _ _⟩
 · by_cases h1 : 1048575 < i
   · have HR : Hid (secRes s i = ([], 2)) := hid (by unfold secRes; rw [if_pos (Or.inr h1)])
     go_enter Tryz.func50, Tryz.ntmps50
     go_wp2_with fail
     go_ret2
     exact ⟨by rw [HR.out]; rfl, Below.refl _ _⟩
   · obtain ⟨n, rfl⟩ : ∃ n : Nat, i = (n : Int) := ⟨i.toNat, by omega⟩
     by_cases hd : Tm.deep s = 0
     · have HR : Hid (secRes s n = ([], 10)) := hid (by unfold secRes; rw [if_neg (by omega), if_pos hd])
       have HD := hid hd
       clear hd
       go_enter Tryz.func50, Tryz.ntmps50
       go_wp2_with fail
       refine (right_list s w).mono ?_
       rintro e w1 ⟨rfl, hb⟩
       have HB := hid hb
       clear hb
       rw [HD.out]
       go_wp2_with fail
       go_ret2
       exact ⟨by rw [HR.out]; rfl, HB.out⟩
     · have HR : Hid (secRes s n = Sd.fr stp 20 n s) := hid (by unfold secRes; rw [if_neg (by omega), if_neg hd]; simp)
       have HD : Hid ((Tm.deep s != 0) = true) := hid (by simpa using hd)
       have HL := hid (deep_len hd)
       have HN : Hid (n < 9223372036854775808) := hid (by omega)
       clear hd
       go_enter Tryz.func50, Tryz.ntmps50
       go_wp2_with fail
       refine (right_list s w).mono ?_
       rintro e w1 ⟨rfl, hb⟩
       have HB := hid hb
       clear hb
       rw [HD.out]
       go_wp2_with fail
       refine (fterm_any s w1 HL.out).mono ?_
       rintro e w2 ⟨rfl, hb⟩
       have HB2 := hid (HB.out.trans (hb.mono HB.out.size))
       clear hb
       go_wp2_with fail
       refine (from_any s 20 (by omega) n HN.out w2 (HP.out.below HB2.out)).mono ?_
       rintro e w3 ⟨rfl, hb⟩
       have HB3 := hid (HB2.out.trans (hb.mono HB2.out.size))
       clear hb
       generalize Sd.fr stp 20 n s = R at HR
       go_wp2_with fail
       go_ret2
       exact ⟨by rw [HR.out]; rfl, HB3.out⟩
end Go.Proofs.YtkifchjpgdmcoaaGreatDoor
