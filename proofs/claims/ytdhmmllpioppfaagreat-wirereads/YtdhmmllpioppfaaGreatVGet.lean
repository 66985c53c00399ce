/- A number's bytes are read. -/
import Derived.Test.YtdhmmllpioppfaaGreatVPutN
namespace Go.Proofs.YtdhmmllpioppfaaGreat.V
open Go.RowKit

theorem or_disj (a b k : Nat) (h : b < 2 ^ k) : (a * 2 ^ k) ||| b = a * 2 ^ k + b := by
  rw [Nat.mul_comm]
  exact (Nat.two_pow_add_eq_or_of_lt h a).symm
theorem or_byte (a x : Nat) (ha : a < 72057594037927936) (hx : x < 2 ^ 8) : bits .or .u64 ((a : Int) * 256) (x : Int) = ((256 * a + x : Nat) : Int) := by
  have h := bits_or_u64_nat (a * 256) x (by omega) (by omega)
  rw [show a * 256 = a * 2 ^ 8 by rfl, or_disj a x 8 hx] at h
  rw [show ((a * 2 ^ 8 : Nat) : Int) = (a : Int) * 256 by omega] at h
  rw [h]
  omega

set_option maxRecDepth 100000 in
set_option maxHeartbeats 1000000 in
theorem read_any (c : UInt8) (r : Bs) (w : World) (g o cap : Nat) (hl : sizeN (saidN c) ≤ r.length + 1) (hcap : r.length + 1 ≤ cap) (hmax : r.length + 1 ≤ 140737488355328) (hc : ∀ i (h : i < (c :: r).length), w.cell? ⟨g, o + i, none⟩ = some (.int .u8 ((c :: r)[i].toNat : Int))) :
    Calls Tryz.prog 103 #[.int .i64 (saidN c : Int), .slice (some ⟨g, o, none⟩) (r.length + 1) cap] w fun e w' => e = .returned (.int .u64 (valN c r : Int)) ∧ w' = w := by
  by_cases h0 : saidN c = 0
  · have hv : valN c r = c.toNat := by unfold valN; rw [if_pos h0]
    have hc0 := hc 0 (by simp)
    have hc0' : w.cell? ⟨g, o, none⟩ = some (.int .u8 (c.toNat : Int)) := hc0
    rw [h0, hv]
    have hlt := c.toNat_lt
    clear hc hc0 hv h0 hl
    generalize c.toNat = k at *
    go_enter Tryz.func103, Tryz.ntmps103
    go_wp2_with fail
    go_ret
    exact ⟨rfl, rfl⟩
  · have HSZ := hid (fun W => size_any (saidN c) (saidN_lt c) W)
    have hz : ((saidN c : Int) == 0) = false := by simpa using h0
    have hs : sizeN (saidN c) = 1 + 2 ^ saidN c := by unfold sizeN; rw [if_neg h0]
    have hv : valN c r = numOf 0 (r.take (2 ^ saidN c)) := by unfold valN; rw [if_neg h0]
    rw [hs] at hl HSZ
    have h8 : 2 ^ saidN c ≤ 8 := Nat.pow_le_pow_right (by decide) (by have := saidN_lt c; omega : saidN c ≤ 3)
    have h1 : 1 ≤ 2 ^ saidN c := Nat.two_pow_pos _
    rw [hv]
    generalize 2 ^ saidN c = m at *
    generalize saidN c = f at *
    clear hs hv h0
    go_enter Tryz.func103, Tryz.ntmps103
    go_wp2_with fail
    refine (HSZ.out _).mono ?_
    rintro e w1 ⟨rfl, hw1⟩
    subst hw1
    go_wp2_with fail
    have HC : Hid (∀ i (h : i < r.length), w1.cell? ⟨g, o + 1 + i, none⟩ = some (.int .u8 (r[i].toNat : Int))) := hid (fun i h => by
      have := hc (i + 1) (by simp; omega)
      rw [Nat.add_assoc, Nat.add_comm 1 i]
      exact this)
    clear hc
    go_loopg [5, 7, 19] m (fun gg v5 v7 v19 wr => wr = w1 ∧ ∃ i : Nat, i ≤ m ∧ gg = m - i ∧ v19 = .int .i64 (i : Int) ∧ v5 = .int .u64 (numOf 0 (r.take i) : Int))
    case atStart => exact ⟨rfl, 0, by omega, by omega, rfl, rfl⟩
    case round =>
      obtain ⟨hwr, i, hi, rfl, rfl, rfl⟩ := hrel
      subst hwr
      by_cases hil : i < m
      · have hi1 : (i : Int) < (m : Int) := by omega
        have hir : i < r.length := by omega
        have hci := HC.out i hir
        have hx := r[i].toNat_lt
        have HST : Hid (numOf 0 (r.take (i + 1)) = 256 * numOf 0 (r.take i) + r[i].toNat) := hid (by
          rw [List.take_succ_eq_append_getElem hir, numOf_app]; rfl)
        have ha : numOf 0 (r.take i) < 72057594037927936 := by
          have h1 := numOf_lt (r.take i)
          have h2 : 256 ^ (r.take i).length ≤ 256 ^ 7 := Nat.pow_le_pow_right (by decide) (by simp; omega)
          have h3 : (256 : Nat) ^ 7 = 72057594037927936 := by decide
          omega
        generalize numOf 0 (r.take i) = a at *
        generalize r[i].toNat = x at *
        have HOR := hid (or_byte a x ha hx)
        go_wp2_with fail
        go_roundg (m - (i + 1))
        case measure => omega
        case rel => exact ⟨rfl, i + 1, by omega, rfl, by go_num, by rw [HST.out, HOR.out]⟩
      · have e : i = m := by omega
        subst e
        go_wp2_with fail
        go_ret
        exact ⟨rfl, rfl⟩

theorem getB_cons (c : UInt8) (r : Bs) : getB (c :: r) = if r.length + 1 < sizeN (saidN c) then (0, 0, 51) else if formN (valN c r) ≠ saidN c then (0, 0, 50) else (valN c r, sizeN (saidN c), 0) := rfl
theorem valN_lt (c : UInt8) (r : Bs) : valN c r < 18446744073709551616 := by
  unfold valN
  split
  · have := c.toNat_lt; omega
  · have h1 := numOf_lt (r.take (2 ^ saidN c))
    have h2 : (r.take (2 ^ saidN c)).length ≤ 8 := by
      have h3 : 2 ^ saidN c ≤ 2 ^ 3 := Nat.pow_le_pow_right (by decide) (by have := saidN_lt c; omega)
      simp only [List.length_take]
      omega
    have h4 : 256 ^ (r.take (2 ^ saidN c)).length ≤ 256 ^ 8 := Nat.pow_le_pow_right (by decide) h2
    have : (256 : Nat) ^ 8 = 18446744073709551616 := by decide
    omega
/-- what Get answers -/
abbrev gotten (g : Nat × Nat × Nat) : Ending := .returned (.tuple #[.int .u64 (g.1 : Int), .int .i64 (g.2.1 : Int), .int .i64 (g.2.2 : Int)])

set_option maxRecDepth 100000 in
set_option maxHeartbeats 1000000 in
theorem get_any (b : Bs) (w : World) (v : Value) (hs : Sl w v b) (hmax : b.length ≤ 140737488355328) : Calls Tryz.prog 87 #[v] w fun e w' => e = gotten (getB b) ∧ w' = w := by
  obtain ⟨ao, cap, rfl⟩ := hs.shape
  cases b with
  | nil =>
    clear hs
    go_enter Tryz.func87, Tryz.ntmps87
    go_wp2_with fail
    go_ret3
    exact ⟨rfl, rfl⟩
  | cons c r =>
    obtain ⟨g, o, rfl, hg, _, hcap, hc⟩ := hs.at (by simp)
    rw [getB_cons]
    have hc0 : w.cell? ⟨g, o, none⟩ = some (.int .u8 (c.toNat : Int)) := hc 0 (by simp)
    have HSA := hid (fun W => saidBy_any c W)
    have HSZ := hid (fun W => size_any (saidN c) (saidN_lt c) W)
    have HFO := hid (fun W => formOf_any (valN c r) W)
    have HRD := hid (fun hl => read_any c r w g o cap hl (by simpa using hcap) (by simpa using hmax) hc)
    have hz9 := sizeN_le (saidN_lt c)
    have hf4 := formN_lt (valN c r)
    have hs4 := saidN_lt c
    simp only [List.length_cons] at hcap hmax ⊢
    have hpos : ((r.length + 1 : Nat) : Int) = (r.length : Int) + 1 := by omega
    clear hc hs
    generalize c.toNat = cc at *
    generalize r.length = n at *
    generalize sizeN (saidN c) = z at *
    generalize valN c r = vv at *
    generalize saidN c = f at *
    generalize formN vv = f2 at *
    by_cases h1 : n + 1 < z
    · rw [if_pos h1]
      have h1' : (n : Int) + 1 < (z : Int) := by omega
      clear HRD HFO
      go_enter Tryz.func87, Tryz.ntmps87
      go_wp2_with fail
      refine (HSA.out _).mono ?_
      rintro e w1 ⟨rfl, hw1⟩
      subst hw1
      go_wp2_with fail
      refine (HSZ.out _).mono ?_
      rintro e w2 ⟨rfl, hw2⟩
      subst hw2
      go_wp2_with fail
      go_ret3
      exact ⟨rfl, rfl⟩
    · rw [if_neg h1]
      have h1' : ¬ (n : Int) + 1 < (z : Int) := by omega
      have HRE := hid (HRD.out (by omega))
      clear HRD
      by_cases h2 : f2 = f
      · rw [if_neg (fun h => h h2)]
        subst h2
        go_enter Tryz.func87, Tryz.ntmps87
        go_wp2_with fail
        refine (HSA.out _).mono ?_
        rintro e w1 ⟨rfl, hw1⟩
        subst hw1
        go_wp2_with fail
        refine (HSZ.out _).mono ?_
        rintro e w2 ⟨rfl, hw2⟩
        subst hw2
        go_wp2_with fail
        refine HRE.out.mono ?_
        rintro e w3 ⟨rfl, hw3⟩
        subst hw3
        go_wp2_with fail
        refine (HFO.out _).mono ?_
        rintro e w4 ⟨rfl, hw4⟩
        subst hw4
        go_wp2_with fail
        refine (HSZ.out _).mono ?_
        rintro e w5 ⟨rfl, hw5⟩
        subst hw5
        go_wp2_with fail
        go_ret3
        exact ⟨rfl, rfl⟩
      · rw [if_pos h2]
        have h2' : ((f2 : Int) == (f : Int)) = false := by simp; omega
        have h2'' : ¬ (f2 : Int) = (f : Int) := by omega
        go_enter Tryz.func87, Tryz.ntmps87
        go_wp2_with fail
        refine (HSA.out _).mono ?_
        rintro e w1 ⟨rfl, hw1⟩
        subst hw1
        go_wp2_with fail
        refine (HSZ.out _).mono ?_
        rintro e w2 ⟨rfl, hw2⟩
        subst hw2
        go_wp2_with fail
        refine HRE.out.mono ?_
        rintro e w3 ⟨rfl, hw3⟩
        subst hw3
        go_wp2_with fail
        refine (HFO.out _).mono ?_
        rintro e w4 ⟨rfl, hw4⟩
        subst hw4
        go_wp2_with fail
        go_ret3
        exact ⟨rfl, rfl⟩
end Go.Proofs.YtdhmmllpioppfaaGreat.V
