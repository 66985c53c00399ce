import Derived.Test.YtdllpklecdmghaaGreatDoorLkTxAll
import Derived.Test.YtdllpklecdmghaaGreatDoorLkEAll
import Derived.Test.YtdllpklecdmghaaGreatDoorRkMAll
/- The document's number within a text. -/
namespace Go.Proofs.YtdllpklecdmghaaGreatDoor
open Go.RowKit
def dnRes (L : Nat) (r : Option (Nat × Bs)) : Int × Int := match r with
  | none => (0, -1)
  | some (n, x) => ((n : Int), ((L - x.length : Nat) : Int))
theorem dn_small {n i d : Nat} (hn : n < 10 ^ i) (hi : i < 11) (hd : d ≤ 9) : IntKind.i64.wrap ((n : Int) * 10) = ((n * 10 : Nat) : Int) ∧ IntKind.i64.wrap (d : Int) = (d : Int) ∧ IntKind.i64.wrap ((n : Int) * 10 + (d : Int)) = ((10 * n + d : Nat) : Int) ∧ 10 * n + d < 10 ^ (i + 1) := by
  have hp : 10 ^ i ≤ 10 ^ 10 := Nat.pow_le_pow_right (by decide) (by omega)
  have h10 : (10 : Nat) ^ 10 = 10000000000 := by decide
  rw [Nat.pow_succ]
  generalize 10 ^ i = P at *
  rw [h10] at hp
  rw [IntKind.wrap_i64, IntKind.wrap_i64, IntKind.wrap_i64]
  refine ⟨by omega, by omega, by omega, by omega⟩
theorem dn_ints {j a i L : Nat} (hj : j = a + i) (hL : L ≤ 140737488355328) (ha : a ≤ L) (hi : i ≤ 11) : IntKind.i64.wrap ((a : Int) + 11) = ((a + 11 : Nat) : Int) ∧ IntKind.i64.wrap ((j : Int) + 1) = ((j + 1 : Nat) : Int) ∧ (0 < i → (a : Int) < (j : Int)) ∧ (i = 0 → ¬ (a : Int) < (j : Int)) ∧ (i < 11 → (j : Int) < ((a + 11 : Nat) : Int)) ∧ (¬ i < 11 → ¬ (j : Int) < ((a + 11 : Nat) : Int)) := by
  rw [IntKind.wrap_i64, IntKind.wrap_i64]
  refine ⟨by omega, by omega, fun h => by omega, fun h => by omega, fun h => by omega, fun h => by omega⟩
theorem txt_index (s : Bs) (k : IntKind) (i : Nat) (hi : i < s.length) (W : World) : (Instr.index 9 (St s) (.int k (i : Int))).run Tryz.prog W = .ok (.int .u8 ((s[i].toNat : Nat) : Int)) W := by
  have h1 : (⟨s.toArray⟩ : ByteArray)[i]? = some s[i] := by
    rw [getElem?_pos (⟨s.toArray⟩ : ByteArray) i (by rw [st_size]; exact hi)]
    rfl
  simp [Instr.index, asIntOf, run_underlying Tryz.underlying9, h1, go_sem]
set_option maxHeartbeats 8000000 in
set_option maxRecDepth 100000 in
theorem dnum_any (s : Bs) (a : Nat) (ha : a ≤ s.length) (e : UInt8) (he : 57 < e.toNat) (hs : s.length ≤ 140737488355328) (w : World) : Calls Tryz.prog 66 #[St s, .int .i64 (a : Int), .int .u8 (e.toNat : Int)] w fun en w' => en = .returned (.tuple #[.int .i64 (dnRes s.length (Lk.dn e (s.drop a))).1, .int .i64 (dnRes s.length (Lk.dn e (s.drop a))).2]) ∧ w' = w := by
  have hsz : (⟨s.toArray⟩ : ByteArray).size = s.length := st_size s
  obtain ⟨L, hL⟩ : ∃ L, L = s.length := ⟨_, rfl⟩
  rw [← hL] at hsz hs ha ⊢
  obtain ⟨R, hR⟩ : ∃ R, R = Lk.dn e (s.drop a) := ⟨_, rfl⟩
  rw [← hR]
  have HR : Hid (R = Lk.dnGo e (11 - 0) 0 0 (s.drop (a + 0))) := hid hR
  have HL := hid hL
  have HE : Hid (¬ (e.toNat : Int) < 48 ∧ (57 : Int) < (e.toNat : Int)) := hid ⟨by omega, by omega⟩
  have HHE := hid he
  have HA := hid ha
  have HS := hid hs
  have hal : (a : Int) ≤ (L : Int) := by omega
  clear hL hR he hs
  go_enter Tryz.func66, Tryz.ntmps66
  go_wp2_with fail
  go_loopg [8, 9] 11 (fun gg v8 v9 wr => ∃ i j n : Nat, gg = 11 - i ∧ i ≤ 11 ∧ j = a + i ∧ j ≤ L ∧ v8 = .int .i64 (n : Int) ∧ v9 = .int .i64 (j : Int) ∧ n < 10 ^ i ∧ R = Lk.dnGo e (11 - i) n i (s.drop j) ∧ wr = w)
  case atStart => exact ⟨0, a, 0, rfl, by omega, rfl, HA.out, rfl, rfl, by decide, HR.out, rfl⟩
  case round =>
    obtain ⟨i, j, n, rfl, hi, hj, hjl, rfl, rfl, hn, hrn, rfl⟩ := hrel
    obtain ⟨w1, w2, w3, w4, w5, w6⟩ := dn_ints hj HS.out HA.out hi
    by_cases hjL : j < L
    · have hjLi : (j : Int) < (L : Int) := by omega
      by_cases hi11 : i < 11
      · have q1 := w5 hi11
        have hjs : j < s.length := by have := HL.out; omega
        obtain ⟨c, hc⟩ : ∃ c, c = s[j] := ⟨_, rfl⟩
        have hix : ∀ (W : World), (Instr.index 9 (St s) (.int .i64 (j : Int))).run Tryz.prog W = .ok (.int .u8 (c.toNat : Int)) W := fun W => by rw [hc]; exact txt_index s .i64 j hjs W
        have hdc : s.drop j = c :: s.drop (j + 1) := by rw [hc]; exact List.drop_eq_getElem_cons hjs
        have hfu : 11 - i = (11 - (i + 1)) + 1 := by omega
        rw [hdc, hfu, Lk.dnGo] at hrn
        have HJL := hid hjL
        have HI11 := hid hi11
        have HJ := hid hj
        have HN := hid hn
        have HXL : Hid (L - (s.drop (j + 1)).length = j + 1) := hid (by rw [List.length_drop]; have := HL.out; omega)
        clear hi hj hjl hjL hi11 hjs hc hdc hfu w5 w6 hn
        by_cases hce : c = e
        · subst hce
          obtain ⟨x1, x2⟩ := HE.out
          by_cases hi0 : 0 < i
          · have q2 := w3 hi0
            rw [if_pos ⟨rfl, hi0⟩] at hrn
            have HRN := hid hrn
            clear w3 w4 hrn hi0
            go_wp2_with fail
            go_ret2
            exact ⟨by rw [HRN.out]; unfold dnRes; simp only [HXL.out]; rfl, rfl⟩
          · have q2 := w4 (by omega)
            rw [if_neg (fun h => hi0 h.2), if_pos (.inr (.inl HHE.out))] at hrn
            have HRN := hid hrn
            clear w3 w4 hrn hi0
            go_wp2_with fail
            go_ret2
            exact ⟨by rw [HRN.out]; rfl, rfl⟩
        · have hcb : ((c.toNat : Int) == (e.toNat : Int)) = false := by
            rw [beq_eq_false_iff_ne]
            intro h
            exact hce (UInt8.toNat_inj.1 (by omega))
          have hcn : ¬ (c.toNat : Int) = (e.toNat : Int) := by simpa using hcb
          rw [if_neg (fun h => hce h.1)] at hrn
          clear hce
          by_cases h48 : c.toNat < 48
          · have k48 : (c.toNat : Int) < 48 := by omega
            rw [if_pos (.inl h48)] at hrn
            have HRN := hid hrn
            clear w3 w4 hrn h48
            go_wp2_with fail
            go_ret2
            exact ⟨by rw [HRN.out]; rfl, rfl⟩
          · have k48 : ¬ (c.toNat : Int) < 48 := by omega
            by_cases h57 : 57 < c.toNat
            · have k57 : (57 : Int) < (c.toNat : Int) := by omega
              rw [if_pos (.inr (.inl h57))] at hrn
              have HRN := hid hrn
              clear w3 w4 hrn h48 h57
              go_wp2_with fail
              go_ret2
              exact ⟨by rw [HRN.out]; rfl, rfl⟩
            · have k57 : ¬ (57 : Int) < (c.toNat : Int) := by omega
              obtain ⟨dd, hdd⟩ : ∃ dd, dd = c.toNat - 48 := ⟨_, rfl⟩
              obtain ⟨y1, y2⟩ := nmD hdd h48 h57
              obtain ⟨z1, z2, z3, z4⟩ := dn_small HN.out HI11.out y2
              rw [← hdd] at hrn
              by_cases hn0 : n = 0
              · subst hn0
                by_cases hi0 : 0 < i
                · have q2 := w3 hi0
                  rw [if_pos (.inr (.inr ⟨hi0, rfl⟩))] at hrn
                  have HRN := hid hrn
                  clear w3 w4 hrn h48 h57 hi0 z1 z2 z3 z4 y1 y2 hdd
                  go_wp2_with fail
                  go_ret2
                  exact ⟨by rw [HRN.out]; rfl, rfl⟩
                · have q2 := w4 (by omega)
                  rw [if_neg (by rintro (h | h | h); exact h48 h; exact h57 h; exact hi0 h.1), Nat.mul_zero, Nat.zero_add] at hrn
                  rw [Nat.mul_zero, Nat.zero_add] at z4
                  have HRN := hid hrn
                  have HZ4 := hid z4
                  clear w3 w4 hrn h48 h57 hi0 z4 y2 hdd
                  go_wp2_with fail
                  go_roundg (11 - (i + 1))
                  case measure => have := HI11.out; omega
                  case rel => exact ⟨i + 1, j + 1, dd, rfl, HI11.out, by have := HJ.out; omega, HJL.out, rfl, rfl, HZ4.out, HRN.out, rfl⟩
              · have hn0i : ¬ (n : Int) = 0 := by omega
                have hn0b : ((n : Int) == 0) = false := by simpa using hn0i
                rw [if_neg (by rintro (h | h | h); exact h48 h; exact h57 h; exact hn0 h.2)] at hrn
                have HRN := hid hrn
                have HZ4 := hid z4
                clear w3 w4 hrn h48 h57 z4 y2 hdd hn0
                go_wp2_with fail
                go_roundg (11 - (i + 1))
                case measure => have := HI11.out; omega
                case rel => exact ⟨i + 1, j + 1, 10 * n + dd, rfl, HI11.out, by have := HJ.out; omega, HJL.out, rfl, rfl, HZ4.out, HRN.out, rfl⟩
      · have q1 := w6 hi11
        have HRN : Hid (R = none) := hid (by rw [hrn, show 11 - i = 0 by omega, Lk.dnGo])
        clear hi hj hjl hjL hi11 w3 w4 w5 w6 hn hrn
        go_wp2_with fail
        go_ret2
        exact ⟨by rw [HRN.out]; rfl, rfl⟩
    · have hjLi : ¬ (j : Int) < (L : Int) := by omega
      have HRN : Hid (R = none) := hid (by
        rw [hrn, List.drop_of_length_le (by have := HL.out; omega)]
        cases 11 - i with
        | zero => rfl
        | succ k => rfl)
      clear hi hj hjl hjL w3 w4 w5 w6 hn hrn
      go_wp2_with fail
      go_ret2
      exact ⟨by rw [HRN.out]; rfl, rfl⟩
end Go.Proofs.YtdllpklecdmghaaGreatDoor
/- The document's term within a text. -/
namespace Go.Proofs.YtdllpklecdmghaaGreatDoor
open Go.RowKit
theorem ends_iff (c : UInt8) : Lk.ends c = true ↔ ((c.toNat : Int) = 115 ∨ (c.toNat : Int) = 112 ∨ (c.toNat : Int) = 97 ∨ (c.toNat : Int) = 111 ∨ (c.toNat : Int) = 38 ∨ (c.toNat : Int) = 124) := by
  rw [show (115 : Int) = ((115 : Nat) : Int) from rfl, show (112 : Int) = ((112 : Nat) : Int) from rfl, show (97 : Int) = ((97 : Nat) : Int) from rfl, show (111 : Int) = ((111 : Nat) : Int) from rfl, show (38 : Int) = ((38 : Nat) : Int) from rfl, show (124 : Int) = ((124 : Nat) : Int) from rfl, u8_is c 115 (by omega), u8_is c 112 (by omega), u8_is c 97 (by omega), u8_is c 111 (by omega), u8_is c 38 (by omega), u8_is c 124 (by omega)]
  unfold Lk.ends
  simp [or_assoc]
set_option maxHeartbeats 4000000 in
theorem dends_any (c : UInt8) (w : World) : Calls Tryz.prog 86 #[.int .u8 (c.toNat : Int)] w fun en w' => en = .returned (.bool (Lk.ends c)) ∧ w' = w := by
  by_cases h0 : (c.toNat : Int) = 115
  · have HR : Hid (Lk.ends c = true) := hid ((ends_iff c).2 (by simp [h0]))
    generalize Lk.ends c = R at *
    go_enter Tryz.func86, Tryz.ntmps86
    go_wp2_with fail
    go_ret
    exact ⟨by rw [HR.out]; rfl, rfl⟩
  · by_cases h1 : (c.toNat : Int) = 112
    · have HR : Hid (Lk.ends c = true) := hid ((ends_iff c).2 (by simp [h1]))
      generalize Lk.ends c = R at *
      go_enter Tryz.func86, Tryz.ntmps86
      go_wp2_with fail
      go_ret
      exact ⟨by rw [HR.out]; rfl, rfl⟩
    · by_cases h2 : (c.toNat : Int) = 97
      · have HR : Hid (Lk.ends c = true) := hid ((ends_iff c).2 (by simp [h2]))
        generalize Lk.ends c = R at *
        go_enter Tryz.func86, Tryz.ntmps86
        go_wp2_with fail
        go_ret
        exact ⟨by rw [HR.out]; rfl, rfl⟩
      · by_cases h3 : (c.toNat : Int) = 111
        · have HR : Hid (Lk.ends c = true) := hid ((ends_iff c).2 (by simp [h3]))
          generalize Lk.ends c = R at *
          go_enter Tryz.func86, Tryz.ntmps86
          go_wp2_with fail
          go_ret
          exact ⟨by rw [HR.out]; rfl, rfl⟩
        · by_cases h4 : (c.toNat : Int) = 38
          · have HR : Hid (Lk.ends c = true) := hid ((ends_iff c).2 (by simp [h4]))
            generalize Lk.ends c = R at *
            go_enter Tryz.func86, Tryz.ntmps86
            go_wp2_with fail
            go_ret
            exact ⟨by rw [HR.out]; rfl, rfl⟩
          · by_cases h5 : (c.toNat : Int) = 124
            · have HR : Hid (Lk.ends c = true) := hid ((ends_iff c).2 (by simp [h5]))
              generalize Lk.ends c = R at *
              go_enter Tryz.func86, Tryz.ntmps86
              go_wp2_with fail
              go_ret
              exact ⟨by rw [HR.out]; rfl, rfl⟩
            · skip
              have HR : Hid (Lk.ends c = false) := hid (by rw [Bool.eq_false_iff, ne_eq, ends_iff]; simp [h0, h1, h2, h3, h4, h5])
              generalize Lk.ends c = R at *
              go_enter Tryz.func86, Tryz.ntmps86
              go_wp2_with fail
              go_ret
              exact ⟨by rw [HR.out]; simp [h0, h1, h2, h3, h4, h5], rfl⟩
def dtRes (a : Nat) (r : Option Nat) : Int := match r with
  | none => -1
  | some k => ((a + k : Nat) : Int)
theorem dt_ints {j a i L : Nat} (hj : j = a + i) (hL : L ≤ 140737488355328) (ha : a ≤ L) (hi : i ≤ 16385) (hi1 : 1 ≤ i) : IntKind.i64.wrap ((a : Int) + 16384) = ((a + 16384 : Nat) : Int) ∧ IntKind.i64.wrap ((j : Int) + 1) = ((j + 1 : Nat) : Int) ∧ (a : Int) ≤ (j : Int) ∧ (i ≤ 16384 → (j : Int) ≤ ((a + 16384 : Nat) : Int)) ∧ (¬ i ≤ 16384 → ¬ (j : Int) ≤ ((a + 16384 : Nat) : Int)) ∧ (0 : Int) ≤ (a : Int) := by
  rw [IntKind.wrap_i64, IntKind.wrap_i64]
  refine ⟨by omega, by omega, by omega, fun h => by omega, fun h => by omega, by omega⟩
theorem dt_start {a L : Nat} (hL : L ≤ 140737488355328) (ha : a ≤ L) : IntKind.i64.wrap ((a : Int) + 1) = ((a + 1 : Nat) : Int) := by
  rw [IntKind.wrap_i64]
  omega
theorem dt_ex (s : Bs) (a i j : Nat) (hj : j = a + i) : (⟨s.toArray⟩ : ByteArray).extract a j = ⟨((s.drop a).take i).toArray⟩ := by
  rw [ex_text]
  congr 4
  omega
set_option maxHeartbeats 8000000 in
set_option maxRecDepth 100000 in
theorem dterm_any (s : Bs) (a : Nat) (ha : a ≤ s.length) (hs : s.length ≤ 1000000) (w : World) : Calls Tryz.prog 65 #[St s, .int .i64 (a : Int)] w fun en w' => en = .returned (.int .i64 (dtRes a (Lk.dterm (s.drop a)))) ∧ Below w.heap.size w w' := by
  have hsz : (⟨s.toArray⟩ : ByteArray).size = s.length := st_size s
  obtain ⟨L, hL⟩ : ∃ L, L = s.length := ⟨_, rfl⟩
  obtain ⟨X, hX⟩ : ∃ X, X = s.drop a := ⟨_, rfl⟩
  have HXL : Hid (X.length = L - a) := hid (by rw [hX, List.length_drop, hL])
  have HEX : Hid (∀ i j, j = a + i → (⟨s.toArray⟩ : ByteArray).extract a j = ⟨(X.take i).toArray⟩) := hid (fun i j hj => by rw [hX]; exact dt_ex s a i j hj)
  have HGD : Hid (∀ i j (hj : j < s.length), j = a + i → X.getD i 0 = s[j]) := hid (fun i j hj h => by
    subst h
    rw [hX, List.getD_eq_getElem?_getD, List.getElem?_drop, List.getElem?_eq_getElem hj]
    rfl)
  rw [← hL] at hsz hs ha
  rw [← hX]
  have HL := hid hL
  have HA := hid ha
  have HS : Hid (L ≤ 140737488355328) := hid (by omega)
  have hst := dt_start HS.out ha
  obtain ⟨R, hR⟩ : ∃ R, R = dtRes a (Lk.dterm X) := ⟨_, rfl⟩
  have HR := hid hR
  rw [← hR]
  clear hL hX hR hs ha
  go_enter Tryz.func65, Tryz.ntmps65
  go_wp2_with fail
  clear hst
  go_loopg [5] 16384 (fun gg v5 wr => ∃ i j : Nat, gg = 16385 - i ∧ 1 ≤ i ∧ i ≤ 16385 ∧ j = a + i ∧ v5 = .int .i64 (j : Int) ∧ (∀ k, k < i → ¬ Lk.Cut X k) ∧ Below w.heap.size w wr)
  case atStart => exact ⟨1, a + 1, rfl, Nat.le_refl _, by decide, rfl, rfl, fun k hk hc => by have := hc.1; omega, Below.refl _ _⟩
  case round =>
    obtain ⟨i, j, rfl, hi1, hi, hj, rfl, hno, hB⟩ := hrel
    obtain ⟨w1, w2, w3, w4, w5, w6⟩ := dt_ints hj HS.out HA.out hi hi1
    have HNO := hid hno
    have HB := hid hB
    by_cases hjL : j ≤ L
    · have hjLi : (j : Int) ≤ (L : Int) := by omega
      by_cases hi6 : i ≤ 16384
      · have q1 := w4 hi6
        have hex := HEX.out i j hj
        obtain ⟨P, hP⟩ : ∃ P, P = X.take i := ⟨_, rfl⟩
        rw [← hP] at hex
        have HRR : Hid (∀ W, Below w.heap.size w W → Calls Tryz.prog 60 #[St P] W fun e w' => e = .returned (.bool (Tm.deep P != 0)) ∧ Below w.heap.size w w') := hid (fun W hW => (rright_any P W).mono (fun e w' ⟨h1, h2⟩ => ⟨h1, hW.trans (h2.mono hW.size)⟩))
        have HYES : Hid ((i = X.length ∨ Lk.ends (X.getD i 0) = true) → (Tm.deep P != 0) = true → R = (j : Int)) := hid (fun h1 h2 => by
          have hcut : Lk.Cut X i := ⟨hi1, by have := HXL.out; omega, hi6, h1, by rw [← hP]; simpa using h2⟩
          rw [HR.out, Lk.dterm_some hcut, hj]
          rfl)
        have HNXT : Hid (¬ ((i = X.length ∨ Lk.ends (X.getD i 0) = true) ∧ (Tm.deep P != 0) = true) → ∀ k, k < i + 1 → ¬ Lk.Cut X k) := hid (fun h k hk hc => by
          by_cases he : k = i
          · subst he
            exact h ⟨hc.2.2.2.1, by rw [hP]; simpa using hc.2.2.2.2⟩
          · exact HNO.out k (by omega) hc)
        have HJ := hid hj
        have HI6 := hid hi6
        generalize (Tm.deep P != 0) = dp at *
        by_cases hje : j = L
        · have hjei : (j : Int) = (L : Int) := by omega
          have hjeb : ((j : Int) == (L : Int)) = true := by simpa using hjei
          have hiX : i = X.length := by have := HXL.out; have := HA.out; omega
          subst hje
          clear hi1 hi hj hi6 hjL w4 w5 hno hP hB hjLi
          cases dp with
          | true =>
            have HZ := hid (HYES.out (.inl hiX) rfl)
            clear HYES HNXT hiX
            go_wp2_with fail
            refine (HRR.out wr HB.out).mono ?_
            rintro e wx ⟨rfl, hb⟩
            have HBX := hid hb
            clear hb HRR
            go_wp2_with fail
            go_ret
            exact ⟨by rw [HZ.out]; rfl, HBX.out⟩
          | false =>
            have HZ := hid (HNXT.out (fun h => by cases h.2))
            clear HYES HNXT hiX
            go_wp2_with fail
            refine (HRR.out wr HB.out).mono ?_
            rintro e wx ⟨rfl, hb⟩
            have HBX := hid hb
            clear hb HRR
            go_wp2_with fail
            go_roundg (16385 - (i + 1))
            case measure => have := HI6.out; omega
            case rel => exact ⟨i + 1, j + 1, rfl, by omega, by have := HI6.out; omega, by have := HJ.out; omega, rfl, HZ.out, HBX.out⟩
        · have hjeb : ((j : Int) == (L : Int)) = false := beq_eq_false_iff_ne.2 (by omega)
          have hjs : j < s.length := by have := HL.out; omega
          have hjl : (j : Int) < (L : Int) := by omega
          have hgd := HGD.out i j hjs hj
          obtain ⟨c, hc⟩ : ∃ c, c = s[j] := ⟨_, rfl⟩
          rw [← hc] at hgd
          have hix : ∀ (W : World), (Instr.index 9 (St s) (.int .i64 (j : Int))).run Tryz.prog W = .ok (.int .u8 (c.toNat : Int)) W := fun W => by rw [hc]; exact txt_index s .i64 j hjs W
          rw [hgd] at HYES HNXT
          have HEN := hid (dends_any c)
          have hiX : ¬ i = X.length := by have := HXL.out; have := HA.out; omega
          clear hi1 hi hj hi6 hjL w4 w5 hno hP hje hB hgd hc hjs
          generalize Lk.ends c = en at *
          cases en with
          | false =>
            have HZ := hid (HNXT.out (fun h => by rcases h.1 with h | h; exact hiX h; cases h))
            clear HYES HNXT hiX
            go_wp2_with fail
            refine (HEN.out wr).mono ?_
            rintro e wx ⟨rfl, rfl⟩
            clear HEN
            go_wp2_with fail
            go_roundg (16385 - (i + 1))
            case measure => have := HI6.out; omega
            case rel => exact ⟨i + 1, j + 1, rfl, by omega, by have := HI6.out; omega, by have := HJ.out; omega, rfl, HZ.out, HB.out⟩
          | true =>
            clear hiX
            cases dp with
            | true =>
              have HZ := hid (HYES.out (.inr rfl) rfl)
              clear HYES HNXT
              go_wp2_with fail
              refine (HEN.out wr).mono ?_
              rintro e wx ⟨rfl, rfl⟩
              clear HEN
              go_wp2_with fail
              refine (HRR.out wx HB.out).mono ?_
              rintro e wy ⟨rfl, hb⟩
              have HBX := hid hb
              clear hb HRR
              go_wp2_with fail
              go_ret
              exact ⟨by rw [HZ.out]; rfl, HBX.out⟩
            | false =>
              have HZ := hid (HNXT.out (fun h => by cases h.2))
              clear HYES HNXT
              go_wp2_with fail
              refine (HEN.out wr).mono ?_
              rintro e wx ⟨rfl, rfl⟩
              clear HEN
              go_wp2_with fail
              refine (HRR.out wx HB.out).mono ?_
              rintro e wy ⟨rfl, hb⟩
              have HBX := hid hb
              clear hb HRR
              go_wp2_with fail
              go_roundg (16385 - (i + 1))
              case measure => have := HI6.out; omega
              case rel => exact ⟨i + 1, j + 1, rfl, by omega, by have := HI6.out; omega, by have := HJ.out; omega, rfl, HZ.out, HBX.out⟩
      · have q1 := w5 hi6
        have HZ : Hid (R = -1) := hid (by
          rw [HR.out, Lk.dterm_none (fun k hc => ?_)]
          · rfl
          · by_cases hk : k < i
            · exact hno k hk hc
            · have := hc.2.2.1; omega)
        clear hi1 hi hj hi6 hjL w4 w5 hno hB
        go_wp2_with fail
        go_ret
        exact ⟨by rw [HZ.out]; rfl, HB.out⟩
    · have hjLi : ¬ (j : Int) ≤ (L : Int) := by omega
      have HZ : Hid (R = -1) := hid (by
        rw [HR.out, Lk.dterm_none (fun k hc => ?_)]
        · rfl
        · by_cases hk : k < i
          · exact hno k hk hc
          · have := hc.2.1; have := HXL.out; have := HA.out; omega)
      clear hi1 hi hj hjL w4 w5 hno hB
      go_wp2_with fail
      go_ret
      exact ⟨by rw [HZ.out]; rfl, HB.out⟩
end Go.Proofs.YtdllpklecdmghaaGreatDoor
/- The document's reading of a lock: parts without parts. -/
namespace Go.Proofs.YtdllpklecdmghaaGreatDoor
open Go.RowKit
open Lk (Lt)
abbrev zeroL : Array Value := #[.int .u8 0, .string ⟨#[]⟩, .int .i64 0, .slice none 0 0]
def DrE (L g : Nat) (w : World) (r : Option (Lt × Bs × Nat)) (e : Ending) (w' : World) : Prop := match r with
  | none => ∃ (k : Nat) (q : Int), e = .returned (.tuple #[.agg #[.int .u8 (k : Int), St [], .int .i64 0, .slice none 0 0], .int .i64 (-1), .int .i64 q]) ∧ Below w.heap.size w w'
  | some (l, y, q) => ∃ kv, e = .returned (.tuple #[.agg (lcs l kv), .int .i64 ((L - y.length : Nat) : Int), .int .i64 (q : Int)]) ∧ Kd (fun h => w.heap.size ≤ h) w' g kv l.kids ∧ Below w.heap.size w w'
theorem ret_lock3 {fn : Func} {tmps : Array Value} {k u t g : Nat} {v0 v1 v2 v3 x y : Value} {w : World} (hr : fn.results = #[.cell k 25, .tmp u, .tmp t]) (hk : tmps.getD k undef = .pointer (some ⟨g, 0, none⟩)) (hu : tmps.getD u undef = x) (ht : tmps.getD t undef = y) (h : w.heap[g]? = some (.cells #[v0, v1, v2, v3] 25 (0, 0))) : (results fn tmps).run Tryz.prog w = .ok (.tuple #[.agg #[v0, v1, v2, v3], x, y]) w := by
  have hl := run_loadVar_row (P := Tryz.prog) w g 25 25 _ (0, 0) _ h Tryz.underlying25 rfl zsize25
  have hk' : tmps[k]?.getD undef = .pointer (some ⟨g, 0, none⟩) := by simpa using hk
  have hu' : tmps[u]?.getD undef = x := by simpa using hu
  have ht' : tmps[t]?.getD undef = y := by simpa using ht
  unfold results
  rw [hr]
  simp [hk', hu', ht', asAddr, hl, Result.andThen]
theorem dr_ints {a a1 L p : Nat} (ha1 : a1 = a + 1) (ha : a < L) (hL : L ≤ 1000000) (hp0 : 0 < p) (hp : p ≤ 1000) : IntKind.i64.wrap ((a : Int) + 1) = (a1 : Int) ∧ IntKind.i64.wrap ((p : Int) - 1) = ((p - 1 : Nat) : Int) ∧ ¬ (L : Int) ≤ (a : Int) ∧ ((p : Int) == 0) = false ∧ (0 : Int) ≤ (a : Int) := by
  rw [IntKind.wrap_i64, IntKind.wrap_i64]
  exact ⟨by omega, by omega, by omega, beq_eq_false_iff_ne.2 (by omega), by omega⟩
theorem dr_end {L a1 E i : Nat} (hE : E = a1 + i) (hi : i ≤ L - a1) (ha : a1 ≤ L) : ¬ (E : Int) < 0 ∧ (a1 : Int) ≤ (E : Int) ∧ (E : Int) ≤ (L : Int) := ⟨by omega, by omega, by omega⟩
set_option maxHeartbeats 8000000 in
set_option maxRecDepth 100000 in
theorem dread_t1 (s : Bs) (hs : s.length ≤ 1000000) (a p : Nat) (hp0 : 0 < p) (hp : p ≤ 1000) (r : Bs) (ha : a < s.length) (hc : s[a] = 115) (hX : s.drop (a + 1) = r) (w : World) : Calls Tryz.prog 46 #[St s, .int .i64 (a : Int), .int .i64 (p : Int)] w (DrE s.length 0 w (match Lk.dterm r with
      | none => none
      | some i => some (.mk 1 (r.take i) 0 [], r.drop i, p - 1))) := by
  have hsz : (⟨s.toArray⟩ : ByteArray).size = s.length := st_size s
  have hix : ∀ (W : World), (Instr.index 9 (St s) (.int .i64 (a : Int))).run Tryz.prog W = .ok (.int .u8 115) W := fun W => by rw [txt_index s .i64 a ha W, hc]; rfl
  obtain ⟨a1, ha1⟩ : ∃ a1, a1 = a + 1 := ⟨_, rfl⟩
  have hrl : r.length = s.length - a1 := by rw [← hX, List.length_drop, ha1]
  have HEX : Hid (∀ i j, j = a1 + i → (⟨s.toArray⟩ : ByteArray).extract a1 j = ⟨(r.take i).toArray⟩) := hid (fun i j hj => by rw [← hX, ha1]; exact dt_ex s (a + 1) i j (by omega))
  have HT : Hid (∀ W, Calls Tryz.prog 65 #[St s, .int .i64 (a1 : Int)] W fun en w' => en = .returned (.int .i64 (dtRes a1 (Lk.dterm r))) ∧ Below W.heap.size W w') := hid (fun W => by
    have h := dterm_any s a1 (by omega) hs W
    rw [ha1, hX, ← ha1] at h
    exact h)
  obtain ⟨L, hL⟩ : ∃ L, L = s.length := ⟨_, rfl⟩
  rw [← hL] at hsz ha hs hrl ⊢
  obtain ⟨i1, i2, i3, i4, i5⟩ := dr_ints (a := a) (p := p) ha1 ha (by omega : L ≤ 1000000) hp0 hp
  have HCUT : Hid (∀ i, Lk.dterm r = some i → i ≤ r.length) := hid (fun i h => (Lk.dterm_cut h).2.1)
  obtain ⟨w0, hw0⟩ : ∃ w0, w0 = w.alloc (.cells zeroL 25) := ⟨_, rfl⟩
  have HB0 : Hid (Below w.heap.size w w0) := hid (by rw [hw0]; exact below_al _ _)
  have HZ0 : Hid (w0.heap[w.heap.size]? = some (.cells zeroL 25 (0, 0))) := hid (by rw [hw0]; exact heap_alloc_new w _)
  have HRL := hid hrl
  have HLL := hid hs
  have HLA := hid ha1
  have HAL := hid ha
  clear hL hX hc hrl hs ha hp hp0 ha1
  generalize Lk.dterm r = D at *
  go_enter Tryz.func46, Tryz.ntmps46
  go_wp2_with fail
  rw [show (#[Value.int .u8 0, .string ⟨#[]⟩, .int .i64 0, .slice none 0 0] : Array Value) = zeroL from rfl, ← hw0]
  clear hw0 hix
  refine (HT.out w0).mono ?_
  rintro e w1 ⟨rfl, hb⟩
  have hz := (hb.block _ (lt_of_heap HZ0.out)).trans HZ0.out
  have q0 : w1.cell? ⟨w.heap.size, 0, none⟩ = some (.int .u8 0) := (cell_of_heap hz 0).trans rfl
  have q1 : w1.cell? ⟨w.heap.size, 1, none⟩ = some (.string ⟨#[]⟩) := (cell_of_heap hz 1).trans rfl
  have q2 : w1.cell? ⟨w.heap.size, 2, none⟩ = some (.int .i64 0) := (cell_of_heap hz 2).trans rfl
  have q3 : w1.cell? ⟨w.heap.size, 3, none⟩ = some (.slice none 0 0) := (cell_of_heap hz 3).trans rfl
  have qf : ∀ j, w1.frozen? ⟨w.heap.size, j, none⟩ = false := fun j => frozen_of_heap hz j
  have HB1 := hid (HB0.out.trans (hb.mono HB0.out.size))
  have HST := hid (fun v0 v1 v2 v3 => setL_same hz 0 v0 v1 v2 v3)
  clear hb hz HT
  cases D with
  | none =>
    rw [show dtRes a1 none = -1 from rfl]
    go_wp2_with fail
    refine bodyPost_ret (v := .tuple #[.agg zeroL, .int .i64 (-1), .int .i64 0]) (ret_lock3 Tryz.results46 rfl rfl rfl (HST.out _ _ _ _)) rfl ?_
    exact ⟨0, 0, rfl, setL_below HB1.out (Nat.le_refl _) 0 _ _ _ _⟩
  | some i =>
    have hi := HCUT.out i rfl
    obtain ⟨E, hE⟩ : ∃ E, E = a1 + i := ⟨_, rfl⟩
    have hex := HEX.out i E hE
    have hdt : dtRes a1 (some i) = (E : Int) := by rw [hE]; rfl
    rw [hdt]
    obtain ⟨T, hT⟩ : ∃ T, T = r.take i := ⟨_, rfl⟩
    rw [← hT] at hex
    obtain ⟨k1, k2, k3⟩ := dr_end (L := L) (a1 := a1) (E := E) (i := i) hE (by have := HRL.out; omega) (by have := HLA.out; have := HAL.out; omega)
    have HEND : Hid (L - (r.drop i).length = E) := hid (by rw [List.length_drop]; have := HRL.out; have := HLA.out; have := HAL.out; omega)
    have HTT := hid hT
    clear hi hE hdt hT
    go_wp2_with fail
    refine bodyPost_ret (v := .tuple #[.agg #[.int .u8 1, St T, .int .i64 0, .slice none 0 0], .int .i64 (E : Int), .int .i64 ((p - 1 : Nat) : Int)]) (ret_lock3 Tryz.results46 rfl rfl rfl (HST.out _ _ _ _)) rfl ?_
    refine ⟨.slice none 0 0, ?_, Kd.nil _ _ _, setL_below HB1.out (Nat.le_refl _) 0 _ _ _ _⟩
    rw [HEND.out, ← HTT.out]
    rfl
set_option maxHeartbeats 8000000 in
set_option maxRecDepth 100000 in
theorem dread_t2 (s : Bs) (hs : s.length ≤ 1000000) (a p : Nat) (hp0 : 0 < p) (hp : p ≤ 1000) (r : Bs) (ha : a < s.length) (hc : s[a] = 112) (hX : s.drop (a + 1) = r) (w : World) : Calls Tryz.prog 46 #[St s, .int .i64 (a : Int), .int .i64 (p : Int)] w (DrE s.length 0 w (match Lk.dterm r with
      | none => none
      | some i => some (.mk 2 (r.take i) 0 [], r.drop i, p - 1))) := by
  have hsz : (⟨s.toArray⟩ : ByteArray).size = s.length := st_size s
  have hix : ∀ (W : World), (Instr.index 9 (St s) (.int .i64 (a : Int))).run Tryz.prog W = .ok (.int .u8 112) W := fun W => by rw [txt_index s .i64 a ha W, hc]; rfl
  obtain ⟨a1, ha1⟩ : ∃ a1, a1 = a + 1 := ⟨_, rfl⟩
  have hrl : r.length = s.length - a1 := by rw [← hX, List.length_drop, ha1]
  have HEX : Hid (∀ i j, j = a1 + i → (⟨s.toArray⟩ : ByteArray).extract a1 j = ⟨(r.take i).toArray⟩) := hid (fun i j hj => by rw [← hX, ha1]; exact dt_ex s (a + 1) i j (by omega))
  have HT : Hid (∀ W, Calls Tryz.prog 65 #[St s, .int .i64 (a1 : Int)] W fun en w' => en = .returned (.int .i64 (dtRes a1 (Lk.dterm r))) ∧ Below W.heap.size W w') := hid (fun W => by
    have h := dterm_any s a1 (by omega) hs W
    rw [ha1, hX, ← ha1] at h
    exact h)
  obtain ⟨L, hL⟩ : ∃ L, L = s.length := ⟨_, rfl⟩
  rw [← hL] at hsz ha hs hrl ⊢
  obtain ⟨i1, i2, i3, i4, i5⟩ := dr_ints (a := a) (p := p) ha1 ha (by omega : L ≤ 1000000) hp0 hp
  have HCUT : Hid (∀ i, Lk.dterm r = some i → i ≤ r.length) := hid (fun i h => (Lk.dterm_cut h).2.1)
  obtain ⟨w0, hw0⟩ : ∃ w0, w0 = w.alloc (.cells zeroL 25) := ⟨_, rfl⟩
  have HB0 : Hid (Below w.heap.size w w0) := hid (by rw [hw0]; exact below_al _ _)
  have HZ0 : Hid (w0.heap[w.heap.size]? = some (.cells zeroL 25 (0, 0))) := hid (by rw [hw0]; exact heap_alloc_new w _)
  have HRL := hid hrl
  have HLL := hid hs
  have HLA := hid ha1
  have HAL := hid ha
  clear hL hX hc hrl hs ha hp hp0 ha1
  generalize Lk.dterm r = D at *
  go_enter Tryz.func46, Tryz.ntmps46
  go_wp2_with fail
  rw [show (#[Value.int .u8 0, .string ⟨#[]⟩, .int .i64 0, .slice none 0 0] : Array Value) = zeroL from rfl, ← hw0]
  clear hw0 hix
  refine (HT.out w0).mono ?_
  rintro e w1 ⟨rfl, hb⟩
  have hz := (hb.block _ (lt_of_heap HZ0.out)).trans HZ0.out
  have q0 : w1.cell? ⟨w.heap.size, 0, none⟩ = some (.int .u8 0) := (cell_of_heap hz 0).trans rfl
  have q1 : w1.cell? ⟨w.heap.size, 1, none⟩ = some (.string ⟨#[]⟩) := (cell_of_heap hz 1).trans rfl
  have q2 : w1.cell? ⟨w.heap.size, 2, none⟩ = some (.int .i64 0) := (cell_of_heap hz 2).trans rfl
  have q3 : w1.cell? ⟨w.heap.size, 3, none⟩ = some (.slice none 0 0) := (cell_of_heap hz 3).trans rfl
  have qf : ∀ j, w1.frozen? ⟨w.heap.size, j, none⟩ = false := fun j => frozen_of_heap hz j
  have HB1 := hid (HB0.out.trans (hb.mono HB0.out.size))
  have HST := hid (fun v0 v1 v2 v3 => setL_same hz 0 v0 v1 v2 v3)
  clear hb hz HT
  cases D with
  | none =>
    rw [show dtRes a1 none = -1 from rfl]
    go_wp2_with fail
    refine bodyPost_ret (v := .tuple #[.agg zeroL, .int .i64 (-1), .int .i64 0]) (ret_lock3 Tryz.results46 rfl rfl rfl (HST.out _ _ _ _)) rfl ?_
    exact ⟨0, 0, rfl, setL_below HB1.out (Nat.le_refl _) 0 _ _ _ _⟩
  | some i =>
    have hi := HCUT.out i rfl
    obtain ⟨E, hE⟩ : ∃ E, E = a1 + i := ⟨_, rfl⟩
    have hex := HEX.out i E hE
    have hdt : dtRes a1 (some i) = (E : Int) := by rw [hE]; rfl
    rw [hdt]
    obtain ⟨T, hT⟩ : ∃ T, T = r.take i := ⟨_, rfl⟩
    rw [← hT] at hex
    obtain ⟨k1, k2, k3⟩ := dr_end (L := L) (a1 := a1) (E := E) (i := i) hE (by have := HRL.out; omega) (by have := HLA.out; have := HAL.out; omega)
    have HEND : Hid (L - (r.drop i).length = E) := hid (by rw [List.length_drop]; have := HRL.out; have := HLA.out; have := HAL.out; omega)
    have HTT := hid hT
    clear hi hE hdt hT
    go_wp2_with fail
    refine bodyPost_ret (v := .tuple #[.agg #[.int .u8 2, St T, .int .i64 0, .slice none 0 0], .int .i64 (E : Int), .int .i64 ((p - 1 : Nat) : Int)]) (ret_lock3 Tryz.results46 rfl rfl rfl (HST.out _ _ _ _)) rfl ?_
    refine ⟨.slice none 0 0, ?_, Kd.nil _ _ _, setL_below HB1.out (Nat.le_refl _) 0 _ _ _ _⟩
    rw [HEND.out, ← HTT.out]
    rfl
set_option maxHeartbeats 8000000 in
set_option maxRecDepth 100000 in
theorem dread_n3 (s : Bs) (hs : s.length ≤ 1000000) (a p : Nat) (hp0 : 0 < p) (hp : p ≤ 1000) (r : Bs) (ha : a < s.length) (hc : s[a] = 97) (hX : s.drop (a + 1) = r) (w : World) : Calls Tryz.prog 46 #[St s, .int .i64 (a : Int), .int .i64 (p : Int)] w (DrE s.length 0 w (match Lk.dn 59 r with
      | none => none
      | some (n, x) => some (.mk 3 [] (n : Int) [], x, p - 1))) := by
  have hsz : (⟨s.toArray⟩ : ByteArray).size = s.length := st_size s
  have hix : ∀ (W : World), (Instr.index 9 (St s) (.int .i64 (a : Int))).run Tryz.prog W = .ok (.int .u8 97) W := fun W => by rw [txt_index s .i64 a ha W, hc]; rfl
  obtain ⟨a1, ha1⟩ : ∃ a1, a1 = a + 1 := ⟨_, rfl⟩
  have HT : Hid (∀ W, Calls Tryz.prog 66 #[St s, .int .i64 (a1 : Int), .int .u8 59] W fun en w' => en = .returned (.tuple #[.int .i64 (dnRes s.length (Lk.dn 59 r)).1, .int .i64 (dnRes s.length (Lk.dn 59 r)).2]) ∧ w' = W) := hid (fun W => by
    have h := dnum_any s a1 (by omega) 59 (by decide) (by omega) W
    rw [ha1, hX, ← ha1] at h
    exact h)
  obtain ⟨L, hL⟩ : ∃ L, L = s.length := ⟨_, rfl⟩
  rw [← hL] at hsz ha hs HT ⊢
  obtain ⟨i1, i2, i3, i4, i5⟩ := dr_ints (a := a) (p := p) ha1 ha (by omega : L ≤ 1000000) hp0 hp
  obtain ⟨w0, hw0⟩ : ∃ w0, w0 = w.alloc (.cells zeroL 25) := ⟨_, rfl⟩
  have HB0 : Hid (Below w.heap.size w w0) := hid (by rw [hw0]; exact below_al _ _)
  have hz : w0.heap[w.heap.size]? = some (.cells zeroL 25 (0, 0)) := by rw [hw0]; exact heap_alloc_new w _
  have HST := hid (fun v0 v1 v2 v3 => setL_same hz 0 v0 v1 v2 v3)
  have HZZ := hid hz
  clear hL hX hc hs ha hp hp0 ha1 hz
  generalize Lk.dn 59 r = D at *
  go_enter Tryz.func46, Tryz.ntmps46
  go_wp2_with fail
  rw [show (#[Value.int .u8 0, .string ⟨#[]⟩, .int .i64 0, .slice none 0 0] : Array Value) = zeroL from rfl, ← hw0]
  clear hw0 hix
  refine (HT.out w0).mono ?_
  rintro e w1 ⟨rfl, rfl⟩
  have q0 : w1.cell? ⟨w.heap.size, 0, none⟩ = some (.int .u8 0) := (cell_of_heap HZZ.out 0).trans rfl
  have q1 : w1.cell? ⟨w.heap.size, 1, none⟩ = some (.string ⟨#[]⟩) := (cell_of_heap HZZ.out 1).trans rfl
  have q2 : w1.cell? ⟨w.heap.size, 2, none⟩ = some (.int .i64 0) := (cell_of_heap HZZ.out 2).trans rfl
  have q3 : w1.cell? ⟨w.heap.size, 3, none⟩ = some (.slice none 0 0) := (cell_of_heap HZZ.out 3).trans rfl
  have qf : ∀ j, w1.frozen? ⟨w.heap.size, j, none⟩ = false := fun j => frozen_of_heap HZZ.out j
  clear HT
  cases D with
  | none =>
    rw [show dnRes L none = (0, -1) from rfl]
    go_wp2_with fail
    refine bodyPost_ret (v := .tuple #[.agg #[.int .u8 3, St [], .int .i64 0, .slice none 0 0], .int .i64 (-1), .int .i64 ((p - 1 : Nat) : Int)]) (ret_lock3 Tryz.results46 rfl rfl rfl (HST.out _ _ _ _)) rfl ?_
    exact ⟨3, ((p - 1 : Nat) : Int), rfl, setL_below HB0.out (Nat.le_refl _) 0 _ _ _ _⟩
  | some d =>
    obtain ⟨n, x⟩ := d
    obtain ⟨E, hE⟩ : ∃ E, E = L - x.length := ⟨_, rfl⟩
    rw [show dnRes L (some (n, x)) = ((n : Int), (E : Int)) by rw [hE]; rfl]
    have HEND := hid hE
    clear hE
    go_wp2_with fail
    refine bodyPost_ret (v := .tuple #[.agg #[.int .u8 3, St [], .int .i64 (n : Int), .slice none 0 0], .int .i64 (E : Int), .int .i64 ((p - 1 : Nat) : Int)]) (ret_lock3 Tryz.results46 rfl rfl rfl (HST.out _ _ _ _)) rfl ?_
    refine ⟨.slice none 0 0, ?_, Kd.nil _ _ _, setL_below HB0.out (Nat.le_refl _) 0 _ _ _ _⟩
    rw [← HEND.out]
    rfl
set_option maxHeartbeats 8000000 in
set_option maxRecDepth 100000 in
theorem dread_n4 (s : Bs) (hs : s.length ≤ 1000000) (a p : Nat) (hp0 : 0 < p) (hp : p ≤ 1000) (r : Bs) (ha : a < s.length) (hc : s[a] = 111) (hX : s.drop (a + 1) = r) (w : World) : Calls Tryz.prog 46 #[St s, .int .i64 (a : Int), .int .i64 (p : Int)] w (DrE s.length 0 w (match Lk.dn 59 r with
      | none => none
      | some (n, x) => some (.mk 4 [] (n : Int) [], x, p - 1))) := by
  have hsz : (⟨s.toArray⟩ : ByteArray).size = s.length := st_size s
  have hix : ∀ (W : World), (Instr.index 9 (St s) (.int .i64 (a : Int))).run Tryz.prog W = .ok (.int .u8 111) W := fun W => by rw [txt_index s .i64 a ha W, hc]; rfl
  obtain ⟨a1, ha1⟩ : ∃ a1, a1 = a + 1 := ⟨_, rfl⟩
  have HT : Hid (∀ W, Calls Tryz.prog 66 #[St s, .int .i64 (a1 : Int), .int .u8 59] W fun en w' => en = .returned (.tuple #[.int .i64 (dnRes s.length (Lk.dn 59 r)).1, .int .i64 (dnRes s.length (Lk.dn 59 r)).2]) ∧ w' = W) := hid (fun W => by
    have h := dnum_any s a1 (by omega) 59 (by decide) (by omega) W
    rw [ha1, hX, ← ha1] at h
    exact h)
  obtain ⟨L, hL⟩ : ∃ L, L = s.length := ⟨_, rfl⟩
  rw [← hL] at hsz ha hs HT ⊢
  obtain ⟨i1, i2, i3, i4, i5⟩ := dr_ints (a := a) (p := p) ha1 ha (by omega : L ≤ 1000000) hp0 hp
  obtain ⟨w0, hw0⟩ : ∃ w0, w0 = w.alloc (.cells zeroL 25) := ⟨_, rfl⟩
  have HB0 : Hid (Below w.heap.size w w0) := hid (by rw [hw0]; exact below_al _ _)
  have hz : w0.heap[w.heap.size]? = some (.cells zeroL 25 (0, 0)) := by rw [hw0]; exact heap_alloc_new w _
  have HST := hid (fun v0 v1 v2 v3 => setL_same hz 0 v0 v1 v2 v3)
  have HZZ := hid hz
  clear hL hX hc hs ha hp hp0 ha1 hz
  generalize Lk.dn 59 r = D at *
  go_enter Tryz.func46, Tryz.ntmps46
  go_wp2_with fail
  rw [show (#[Value.int .u8 0, .string ⟨#[]⟩, .int .i64 0, .slice none 0 0] : Array Value) = zeroL from rfl, ← hw0]
  clear hw0 hix
  refine (HT.out w0).mono ?_
  rintro e w1 ⟨rfl, rfl⟩
  have q0 : w1.cell? ⟨w.heap.size, 0, none⟩ = some (.int .u8 0) := (cell_of_heap HZZ.out 0).trans rfl
  have q1 : w1.cell? ⟨w.heap.size, 1, none⟩ = some (.string ⟨#[]⟩) := (cell_of_heap HZZ.out 1).trans rfl
  have q2 : w1.cell? ⟨w.heap.size, 2, none⟩ = some (.int .i64 0) := (cell_of_heap HZZ.out 2).trans rfl
  have q3 : w1.cell? ⟨w.heap.size, 3, none⟩ = some (.slice none 0 0) := (cell_of_heap HZZ.out 3).trans rfl
  have qf : ∀ j, w1.frozen? ⟨w.heap.size, j, none⟩ = false := fun j => frozen_of_heap HZZ.out j
  clear HT
  cases D with
  | none =>
    rw [show dnRes L none = (0, -1) from rfl]
    go_wp2_with fail
    refine bodyPost_ret (v := .tuple #[.agg #[.int .u8 4, St [], .int .i64 0, .slice none 0 0], .int .i64 (-1), .int .i64 ((p - 1 : Nat) : Int)]) (ret_lock3 Tryz.results46 rfl rfl rfl (HST.out _ _ _ _)) rfl ?_
    exact ⟨4, ((p - 1 : Nat) : Int), rfl, setL_below HB0.out (Nat.le_refl _) 0 _ _ _ _⟩
  | some d =>
    obtain ⟨n, x⟩ := d
    obtain ⟨E, hE⟩ : ∃ E, E = L - x.length := ⟨_, rfl⟩
    rw [show dnRes L (some (n, x)) = ((n : Int), (E : Int)) by rw [hE]; rfl]
    have HEND := hid hE
    clear hE
    go_wp2_with fail
    refine bodyPost_ret (v := .tuple #[.agg #[.int .u8 4, St [], .int .i64 (n : Int), .slice none 0 0], .int .i64 (E : Int), .int .i64 ((p - 1 : Nat) : Int)]) (ret_lock3 Tryz.results46 rfl rfl rfl (HST.out _ _ _ _)) rfl ?_
    refine ⟨.slice none 0 0, ?_, Kd.nil _ _ _, setL_below HB0.out (Nat.le_refl _) 0 _ _ _ _⟩
    rw [← HEND.out]
    rfl
end Go.Proofs.YtdllpklecdmghaaGreatDoor
