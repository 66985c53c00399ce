/- How the document asks what is kept. -/
import Derived.Test.YtmdiggbbgcjcnaaDoorSdAll
import Derived.Test.YtmdiggbbgcjcnaaDoorSdJ
namespace Go.Proofs.YtmdiggbbgcjcnaaDoor
open Go.RowKit

set_option maxHeartbeats 1000000 in
theorem rlow_any (i : Nat) (hi : i < 9223372036854775808) (w : World) : Calls Tryd.prog 28 #[.int .i64 (i : Int)] w fun e w' => e = .returned (.int .i64 (Sd.low i : Int)) ∧ w' = w := by
  have HI := hid hi
  obtain ⟨K, hK⟩ : ∃ K, K = Sd.low i := ⟨_, rfl⟩
  have HK : Hid (Sd.lowF 20 0 i = K) := hid hK.symm
  rw [← hK]
  clear hi hK
  go_enter Tryd.func28, Tryd.ntmps28
  go_wp2_with fail
  go_loop [3] (fun v3 => ∃ k : Nat, k ≤ 20 ∧ v3 = .int .i64 (k : Int) ∧ Hid (Sd.lowF (20 - k) k i = K)) (fun v3 => 20 - (intOf v3).toNat)
  case atStart => exact ⟨0, by omega, rfl, HK⟩
  case round =>
    obtain ⟨k, hk, rfl, hrel⟩ := hrel
    by_cases h20 : k < 20
    · have HREL : Hid ((if i.testBit k then k else Sd.lowF (20 - (k + 1)) (k + 1) i) = K) := hid (by have := hrel.out; rw [show 20 - k = (20 - (k + 1)) + 1 from by omega, Sd.lowF] at this; exact this)
      have hk1 : (k : Int) < 20 := by omega
      have hk0 : (0 : Int) ≤ (k : Int) := Int.natCast_nonneg _
      have hk64 : (k : Int) ≤ 64 := by omega
      have hw1 : IntKind.i64.wrap ((k : Int) + 1) = ((k + 1 : Nat) : Int) := by rw [IntKind.wrap_i64]; omega
      have hbit := bit_int i k HI.out
      have HK1 := hid h20
      clear hrel h20 hk
      cases hb : i.testBit k with
      | true =>
        rw [hb] at hbit HREL
        have hbit0 : bits .and .i64 ((i : Int) / 2 ^ k) 1 = 1 := hbit
        have HE : Hid (k = K) := HREL
        clear hb hbit HREL
        go_wp2_with fail
        go_ret
        exact ⟨by rw [HE.out]; rfl, rfl⟩
      | false =>
        rw [hb] at hbit HREL
        have hbit0 : bits .and .i64 ((i : Int) / 2 ^ k) 1 = 0 := hbit
        have HE : Hid (Sd.lowF (20 - (k + 1)) (k + 1) i = K) := HREL
        clear hb hbit HREL
        go_wp2_with fail
        go_round
        case rel => exact ⟨k + 1, by have := HK1.out; omega, by go_num, HE⟩
        case measure => simp [intOf]; omega
    · have hk20 : k = 20 := by omega
      subst hk20
      have HE : Hid (20 = K) := hid (by have := hrel.out; simpa [Sd.lowF] using this)
      clear hrel h20 hk
      go_wp2_with fail
      go_ret
      exact ⟨by rw [← HE.out]; rfl, rfl⟩

theorem below_drewN {B : Nat} {w0 w : World} (h : Below B w0 w) (n : Nat) : Below B w0 (w.drewN n) := ⟨h.os, h.tape, h.output, h.size, h.block⟩
theorem shr_int (p k : Nat) : ((p : Int) / 2 ^ k) = ((p >>> k : Nat) : Int) := by rw [Nat.shiftRight_eq_div_pow]; simp

set_option maxHeartbeats 2000000 in
set_option maxRecDepth 100000 in
theorem rkp_any (p c : Nat) (hc : c ≤ 1048576) (hp : p ≤ 1048576) (hpc : 1048576 ≤ p + c) (w : World) : Calls Tryd.prog 29 #[.int .i64 (p : Int), .int .i64 (c : Int)] w fun e w' => e = .returned (.bool (Sd.kp p c)) ∧ Below w.heap.size w w' := by
  obtain ⟨L, hL⟩ : ∃ L, L = 1048576 - c := ⟨_, rfl⟩
  obtain ⟨n0, hn0⟩ : ∃ n, p = L + n := ⟨p - L, by omega⟩
  obtain ⟨K, hK⟩ : ∃ K, K = Sd.kp p c := ⟨_, rfl⟩
  have HK : Hid (K = Sd.kpF p n0 (L + n0 - 1)) := hid (by rw [hK, Sd.kp, show (2 : Nat) ^ 20 - c = L from by rw [hL], show p - L = n0 by omega, hn0])
  have HB : Hid (L ≤ 1048576 ∧ L + n0 ≤ 1048576) := hid ⟨by omega, by omega⟩
  have hp1 : IntKind.i64.wrap ((p : Int) - 1) = (L : Int) + (n0 : Int) - 1 := by rw [IntKind.wrap_i64]; omega
  have hc1 : IntKind.i64.wrap (1048575 - (c : Int)) = (L : Int) - 1 := by rw [IntKind.wrap_i64]; omega
  rw [← hK]
  clear hK hn0 hL hpc hp hc
  go_enter Tryd.func29, Tryd.ntmps29
  go_wp2_with fail
  clear hp1
  go_loopg [5, 6] n0 (fun gg v5 v6 wr => ∃ n : Nat, gg = n ∧ n ≤ n0 ∧ v5 = .int .i64 ((L : Int) + (n : Int) - 1) ∧ Hid (K = Sd.kpF p n (L + n - 1)) ∧ Below w.heap.size w wr)
  case atStart => exact ⟨n0, rfl, Nat.le_refl _, rfl, HK, Below.refl _ _⟩
  case round =>
    obtain ⟨n, hgk, hn, rfl, hrel, hb⟩ := hrel
    subst hgk
    have HBR := hid hb
    have HNB : Hid (L + gk ≤ 1048576) := hid (by have := HB.out; omega)
    cases gk with
    | zero =>
      have HE : Hid (K = true) := hrel
      have hlt : ¬ ((L : Int) - 1 < (L : Int) + ((0 : Nat) : Int) - 1) := by omega
      clear hb hrel hn
      go_wp2_with fail
      go_ret
      exact ⟨by rw [HE.out]; rfl, HBR.out⟩
    | succ n =>
      obtain ⟨j, hj⟩ : ∃ j, j = L + n := ⟨_, rfl⟩
      have HE : Hid (K = if p >>> Sd.low j = j >>> Sd.low j then false else Sd.kpF p n (L + n - 1)) := hid (by have := hrel.out; rw [Sd.kpF, show L + (n + 1) - 1 = L + n from by omega, ← hj] at this; rw [this, hj])
      have e1 : (L : Int) + ((n + 1 : Nat) : Int) - 1 = (j : Int) := by omega
      have hlt : (L : Int) - 1 < (j : Int) := by omega
      have hw1 : IntKind.i64.wrap ((j : Int) - 1) = (L : Int) + (n : Int) - 1 := by rw [IntKind.wrap_i64]; have := HNB.out; omega
      have HLW := hid (rlow_any j (by have := HNB.out; omega) wr)
      have HJ := hid hj
      have HN := hid hn
      rw [e1]
      obtain ⟨k, hk⟩ : ∃ k, k = Sd.low j := ⟨_, rfl⟩
      have HK20 : Hid (k ≤ 20) := hid (by rw [hk]; exact (Sd.low_is j).1)
      rw [← hk] at HLW HE
      have hk0 : (0 : Int) ≤ (k : Int) := Int.natCast_nonneg _
      have hk64 : (k : Int) ≤ 64 := by have := HK20.out; omega
      have hs1 := shr_int p k
      have hs2 := shr_int j k
      clear hb hrel hn hj hk e1
      by_cases he : p >>> k = j >>> k
      · have HE2 : Hid (K = false) := hid (by rw [HE.out, if_pos he])
        have heq : ((p : Int) / 2 ^ k == (j : Int) / 2 ^ k) = true := by rw [hs1, hs2, he]; simp
        have heq2 : ((p : Int) / 2 ^ k) = (j : Int) / 2 ^ k := by rw [hs1, hs2, he]
        clear HE he hs1 hs2
        go_wp2_with fail
        refine HLW.out.mono ?_
        rintro e w1 ⟨rfl, rfl⟩
        go_wp2_with fail
        go_quiet (fail)
        go_wp2_with fail
        go_ret
        exact ⟨by rw [HE2.out]; rfl, below_drewN HBR.out _⟩
      · have HE2 : Hid (K = Sd.kpF p n (L + n - 1)) := hid (by rw [HE.out, if_neg he])
        have hne : ((p : Int) / 2 ^ k) ≠ (j : Int) / 2 ^ k := by rw [hs1, hs2]; omega
        have heq : ((p : Int) / 2 ^ k == (j : Int) / 2 ^ k) = false := by simpa using hne
        clear HE he hs1 hs2
        go_wp2_with fail
        refine HLW.out.mono ?_
        rintro e w1 ⟨rfl, rfl⟩
        go_wp2_with fail
        go_quiet (fail)
        go_wp2_with fail
        go_roundg n
        case measure => omega
        case rel => exact ⟨n, rfl, by have := HN.out; omega, by go_num, HE2, below_drewN HBR.out _⟩
end Go.Proofs.YtmdiggbbgcjcnaaDoor
