/- A step of a secret, and a secret from one on, as the program makes them. -/
import Derived.Test.YtmdiggbbgcjcnaaDoorMk
import Derived.Test.YtmdiggbbgcjcnaaDoorSdM
namespace Go.Proofs.YtmdiggbbgcjcnaaDoor
open Go.RowKit

theorem bRes_two (op : UInt8) (a b : Bs) : bRes op [] [a, b] =
    if Tm.deep a = 0 ∨ Tm.deep b = 0 then ([], 10) else if 64 < max (Tm.deep a) (Tm.deep b) + 1 ∨ 16384 < 1 + a.length + b.length then ([], 3) else (op :: (a ++ b), 0) := by
  unfold bRes
  have e1 : ([a, b].any (fun k => Tm.deep k == 0) = true) ↔ (Tm.deep a = 0 ∨ Tm.deep b = 0) := by simp
  have e2 : bDeep [a, b] = max (Tm.deep a) (Tm.deep b) + 1 := by simp [bDeep]
  have e3 : 1 + ([] : Bs).length + bSize [a, b] = 1 + a.length + b.length := by simp [bSize]; omega
  have e4 : ([] : Bs) ++ [a, b].flatten = a ++ b := by simp
  by_cases h : Tm.deep a = 0 ∨ Tm.deep b = 0
  · rw [if_pos (e1.2 h), if_pos h]
  · rw [if_neg (fun x => h (e1.1 x)), if_neg h, e2, e3, e4]

/-- the term of a step's bit -/
def lab (b : Nat) : Bs := (textRes (dec b)).1
theorem lab_is {b : Nat} (h : b < 100) : textRes (dec b) = (lab b, 0) := by
  have h1 := dec_len b (by omega)
  have h2 := dec_len (dec b).length (by omega)
  have h3 : (textRes (dec b)).2 = 0 := by
    unfold textRes
    rw [if_neg (by omega)]
    unfold bRes
    simp [bDeep, bSize]
    rw [if_neg (by omega)]
  exact Prod.ext rfl h3
/-- a step -/
def stp (x : Bs) (b : Nat) : Bs × Nat := bRes 68 [] [x, lab b]
theorem stp_none {x : Bs} {b : Nat} (h : (stp x b).2 ≠ 0) : (stp x b).1 = [] := by
  unfold stp at h ⊢
  rw [bRes_two] at h ⊢
  split
  · rfl
  · rename_i h1
    rw [if_neg h1] at h
    split
    · rfl
    · rename_i h2; rw [if_neg h2] at h; exact absurd rfl h

set_option maxHeartbeats 1000000 in
theorem step_any (x : Bs) (b : Nat) (hb : b < 100) (w : World) (hp : Pw w) : Calls Tryd.prog 32 #[St x, .int .i64 (b : Int)] w fun en w' => en = made (stp x b) ∧ Below w.heap.size w w' := by
  have HI : Hid (Calls Tryd.prog 40 #[.int .i64 (b : Int)] w fun e w' => e = .returned (St (dec b)) ∧ Below w.heap.size w w') := hid (itoa_any b (by omega) w hp)
  have HT : Hid (∀ W, Pw W → Calls Tryd.prog 39 #[St (dec b)] W fun en w' => en = made (lab b, 0) ∧ Below W.heap.size W w') := hid (fun W h => by
    have := mktext_any (dec b) W (by have := dec_len b (by omega); omega) h
    rwa [lab_is hb] at this)
  have HP := hid hp
  have HS : Hid (stp x b = bRes 68 [] [x, lab b]) := hid rfl
  generalize stp x b = R at HS ⊢
  generalize dec b = D at HI HT
  generalize lab b = L at HT HS
  clear hp
  go_enter Tryd.func32, Tryd.ntmps32
  go_wp2_with fail
  refine HI.out.mono ?_
  rintro e w1 ⟨rfl, hb1⟩
  have HB1 := hid hb1
  clear hb1
  go_wp2_with fail
  refine (HT.out w1 (HP.out.below HB1.out)).mono ?_
  rintro e w2 ⟨rfl, hb2⟩
  have HB2 := hid (HB1.out.trans (hb2.mono HB1.out.size))
  clear hb2
  go_wp2_with fail
  refine (child_any x L w2).mono ?_
  rintro e w3 ⟨rfl, hb3⟩
  have HB3 := hid (HB2.out.trans (hb3.mono HB2.out.size))
  clear hb3
  go_wp2_with fail
  go_ret2
  exact ⟨by rw [HS.out]; rfl, HB3.out⟩

theorem and_one (a : Nat) (ha : a < 9223372036854775808) : bits .and .i64 (a : Int) 1 = ((a % 2 : Nat) : Int) := by
  have h1 : (BitVec.ofInt 64 (a : Int)).toNat = a := by simp; omega
  have h2 : (BitVec.ofInt 64 (1 : Int)).toNat = 1 := by decide
  change IntKind.i64.wrap ((BitVec.ofInt 64 (a : Int) &&& BitVec.ofInt 64 (1 : Int)).toNat : Int) = _
  rw [BitVec.toNat_and, h1, h2, Nat.and_one_is_mod, IntKind.wrap_i64]
  omega
theorem bit_int (i b : Nat) (hi : i < 9223372036854775808) : bits .and .i64 ((i : Int) / 2 ^ b) 1 = if i.testBit b then 1 else 0 := by
  have h1 : ((i : Int) / 2 ^ b) = ((i / 2 ^ b : Nat) : Int) := by simp
  have h2 : i / 2 ^ b < 9223372036854775808 := Nat.lt_of_le_of_lt (Nat.div_le_self _ _) hi
  rw [h1, and_one _ h2, ← Nat.toNat_testBit]
  cases i.testBit b <;> simp

set_option maxHeartbeats 4000000 in
theorem from_any (x0 : Bs) (k0 : Nat) (hk : k0 ≤ 20) (i : Nat) (hi : i < 9223372036854775808) (w : World) (hp : Pw w) :
    Calls Tryd.prog 22 #[St x0, .int .i64 (k0 : Int), .int .i64 (i : Int)] w fun en w' => en = made (Sd.fr stp k0 i x0) ∧ Below w.heap.size w w' := by
  have HP := hid hp
  have HI := hid hi
  have HK := hid hk
  have hkw : IntKind.i64.wrap ((k0 : Int) - 1) = (k0 : Int) - 1 := by rw [IntKind.wrap_i64]; omega
  obtain ⟨F, hF⟩ : ∃ F, F = Sd.fr stp k0 i x0 := ⟨_, rfl⟩
  have HF := hid hF
  rw [← hF]
  clear hp hi hk hF
  go_enter Tryd.func22, Tryd.ntmps22
  go_wp2_with fail
  go_loopg [0, 8, 9] k0 (fun gg v0 v8 v9 wr => ∃ (k : Nat) (x : Bs), k ≤ 20 ∧ gg = k ∧ v8 = .int .i64 ((k : Int) - 1) ∧ v0 = St x ∧ Hid (F = Sd.fr stp k i x) ∧ Below w.heap.size w wr)
  case atStart => exact ⟨k0, x0, HK.out, rfl, rfl, rfl, HF, Below.refl _ _⟩
  case round =>
    obtain ⟨k, x, hk20, hgk, rfl, rfl, hfr, hbel⟩ := hrel
    subst hgk
    cases gk with
    | zero =>
      have HFR : Hid (F = (x, 0)) := hfr
      have HB := hid hbel
      clear hbel hfr
      go_wp2_with fail
      go_ret2
      exact ⟨by rw [HFR.out]; rfl, HB.out⟩
    | succ k =>
      have HB := hid hbel
      have HKK : Hid (k < 20) := hid (by omega)
      have HPr : Hid (Pw wr) := hid (HP.out.below hbel)
      have hk0 : (0 : Int) ≤ (k : Int) := Int.natCast_nonneg _
      have hk64 : (k : Int) ≤ 64 := by omega
      have e1 : ((k + 1 : Nat) : Int) - 1 = (k : Int) := by omega
      have hw1 : IntKind.i64.wrap ((k : Int) - 1) = (k : Int) - 1 := by rw [IntKind.wrap_i64]; omega
      have hbit := bit_int i k HI.out
      rw [e1]
      clear e1 hbel hk20 HK
      cases hb : i.testBit k with
      | false =>
        rw [hb] at hbit
        have HFR : Hid (F = Sd.fr stp k i x) := hid (by have := hfr.out; rw [Sd.fr, hb] at this; exact this)
        have hbit0 : bits .and .i64 ((i : Int) / 2 ^ k) 1 = 0 := hbit
        clear hb hbit hfr
        go_wp2_with fail
        go_roundg k
        case measure => omega
        case rel => exact ⟨k, x, by have := HKK.out; omega, rfl, rfl, rfl, HFR, HB.out⟩
      | true =>
        rw [hb] at hbit
        have hbit0 : bits .and .i64 ((i : Int) / 2 ^ k) 1 = 1 := hbit
        have HC := hid (step_any x k (by omega) wr HPr.out)
        have HFR : Hid (F = if (stp x k).2 = 0 then Sd.fr stp k i (stp x k).1 else ([], (stp x k).2)) := hid (by have := hfr.out; rw [Sd.fr, hb] at this; exact this)
        clear hb hbit hfr
        generalize stp x k = yq at HC HFR
        obtain ⟨y, q⟩ := yq
        go_wp2_with fail
        refine HC.out.mono ?_
        rintro e w1 ⟨rfl, hb1⟩
        have HB1 := hid (HB.out.trans (hb1.mono HB.out.size))
        clear hb1
        by_cases hq : q = 0
        · subst hq
          go_wp2_with fail
          go_roundg k
          case measure => omega
          case rel => exact ⟨k, y, by have := HKK.out; omega, rfl, rfl, rfl, HFR, HB1.out⟩
        · have hq' : ((q : Int) == 0) = false := by simp; omega
          have hq2 : (q : Int) ≠ 0 := by omega
          have HFR2 : Hid (F = ([], q)) := hid (by have := HFR.out; simp only [hq, if_false] at this; exact this)
          clear hq
          go_wp2_with fail
          go_ret2
          exact ⟨by rw [HFR2.out]; rfl, HB1.out⟩
end Go.Proofs.YtmdiggbbgcjcnaaDoor
