/- Quotients of two words by a thousand and by a million. -/
import Derived.Test.YtdgmnfhfnhiloaaBits
namespace Go.Proofs.Ytdgmnfhfnhiloaa
open Go.RowKit

theorem below_drewN (w : World) (n : Nat) : Below w.heap.size w (w.drewN n) := ⟨rfl, rfl, rfl, Nat.le_refl _, fun _ _ => rfl⟩
theorem below_to_drewN {B : Nat} {w w' : World} (h : Below B w w') (n : Nat) : Below B w (w'.drewN n) := ⟨h.os, h.tape, h.output, h.size, h.block⟩
theorem or_disj (a b i : Nat) (h : b < 2 ^ i) : a * 2 ^ i ||| b = a * 2 ^ i + b := by
  rw [← Nat.shiftLeft_eq]
  exact (Nat.shiftLeft_add_eq_or_of_lt h a).symm

set_option maxHeartbeats 2000000 in
theorem div_mega_nought (L : Int) (hl0 : 0 ≤ L) (hl : L < 18446744073709551616) (w : World) :
    Calls Try.prog 35 #[.int .u64 0, .int .u64 L, .int .u64 1000000] w fun e w' => ∃ r, e = .returned (.tuple #[.int .u64 (L / 1000000), .int .u64 r]) ∧ Below w.heap.size w w' := by
  go_enter Try.func35, Try.ntmps35
  go_wp2_with fail
  go_quiet (fail)
  go_wp2_with fail
  go_ret2
  exact ⟨_, rfl, below_drewN _ _⟩

theorem or_mega (H L : Int) (h0 : 0 < H) (hh : H < 1000000) (hl0 : 0 ≤ L) (hl : L < 18446744073709551616) : bits .or .u64 (H * 17592186044416) (L / 1048576) = H * 17592186044416 + L / 1048576 := by
  obtain ⟨a, rfl⟩ : ∃ a : Nat, H = (a : Int) := ⟨H.toNat, by omega⟩
  obtain ⟨b, hb⟩ : ∃ b : Nat, L / 1048576 = (b : Int) := ⟨(L / 1048576).toNat, by omega⟩
  rw [hb]
  have hb' : b < 17592186044416 := by omega
  have h := bits_or_u64_nat (a * 17592186044416) b (by omega) (by omega)
  rw [or_disj a b 44 hb'] at h
  rw [show ((a * 17592186044416 : Nat) : Int) = (a : Int) * 17592186044416 by omega, show ((a * 17592186044416 + b : Nat) : Int) = (a : Int) * 17592186044416 + (b : Int) by omega] at h
  exact h

theorem end_mega (H L U M M1 Q R V Q0 : Int) (hU : U = H * 17592186044416 + L / 1048576) (hM : M = L * 17592186044416 % 18446744073709551616) (hM1 : M1 = M / 4294967296) (_hl0 : 0 ≤ L) (_hl : L < 18446744073709551616)
    (hQ : U = Q * 4096000000 + R) (hV : V = R * 4294967296 + M1) (hQ0 : Q0 = V / 4096000000) : Q * 4294967296 + Q0 = (H * 18446744073709551616 + L) / 1000000 := by
  obtain ⟨l2, l, e, g0, g1⟩ : ∃ l2 l : Int, L = l2 * 1048576 + l ∧ 0 ≤ l ∧ l < 1048576 := ⟨L / 1048576, L % 1048576, by omega, by omega, by omega⟩
  have e1 : L / 1048576 = l2 := by omega
  have e2 : L * 17592186044416 = l2 * 18446744073709551616 + l * 17592186044416 := by omega
  have e3 : M = l * 17592186044416 := by omega
  have e4 : M1 = l * 4096 := by omega
  have e5 : Q0 * 4096000000 ≤ V := by omega
  have e6 : V < (Q0 + 1) * 4096000000 := by omega
  clear hQ0 hM1 hM e2
  rw [e1] at hU
  symm
  apply Int.le_antisymm
  · apply Int.le_of_lt_add_one
    apply Int.ediv_lt_of_lt_mul (by omega)
    omega
  · apply Int.le_ediv_of_mul_le (by omega)
    omega

set_option maxHeartbeats 4000000 in
theorem div_mega_some (H L : Int) (h0 : 0 < H) (hh : H < 1000000) (hl0 : 0 ≤ L) (hl : L < 18446744073709551616) (w : World) :
    Calls Try.prog 35 #[.int .u64 H, .int .u64 L, .int .u64 1000000] w fun e w' => ∃ r, e = .returned (.tuple #[.int .u64 ((H * 18446744073709551616 + L) / 1000000), .int .u64 r]) ∧ Below w.heap.size w w' := by
  have hand : bits .and .u64 17592186044416000000 4294967295 = 0 := by decide +kernel
  obtain ⟨U, hU⟩ : ∃ U, U = H * 17592186044416 + L / 1048576 := ⟨_, rfl⟩
  have hor : bits .or .u64 (H * 17592186044416) (L / 1048576) = U := by rw [hU]; exact or_mega H L h0 hh hl0 hl
  have hU0 : 0 ≤ U := by omega
  have hU1 : U < 17592186044416000000 := by omega
  obtain ⟨M, hM⟩ : ∃ M, M = L * 17592186044416 % 18446744073709551616 := ⟨_, rfl⟩
  have hmw : IntKind.u64.wrap (L * 17592186044416) = M := by rw [IntKind.wrap_u64, hM]
  have hM0 : 0 ≤ M := by omega
  have hM9 : M < 18446744073709551616 := by omega
  obtain ⟨M1, hM1⟩ : ∃ M1, M1 = M / 4294967296 := ⟨_, rfl⟩
  obtain ⟨M0, hm0⟩ : ∃ M0, bits .and .u64 M 4294967295 = M0 := ⟨_, rfl⟩
  have hM00 : 0 ≤ M0 ∧ M0 < 4294967296 := by
    have h := n_mask M.toNat (by omega)
    rw [show ((M.toNat : Nat) : Int) = M by omega] at h
    rw [← hm0, h]; omega
  obtain ⟨hM01, hM02⟩ := hM00
  have hM11 : 0 ≤ M1 := by omega
  have hM12 : M1 < 4294967296 := by omega
  obtain ⟨Q, R, hQ, hR0, hR1⟩ : ∃ Q R : Int, U = Q * 4096000000 + R ∧ 0 ≤ R ∧ R < 4096000000 := ⟨U / 4096000000, U % 4096000000, by omega, by omega, by omega⟩
  have hQ0 : 0 ≤ Q := by omega
  have hQ1 : Q < 4294967296 := by omega
  have hd : U / 4096000000 = Q := by omega
  have hr : U - Q * 4096000000 = R := by omega
  obtain ⟨A, hA⟩ : ∃ A, IntKind.u64.wrap (U * 4294967296) = A := ⟨_, rfl⟩
  obtain ⟨B, hB⟩ : ∃ B, IntKind.u64.wrap (A + M1) = B := ⟨_, rfl⟩
  obtain ⟨C, hC⟩ : ∃ C, IntKind.u64.wrap (Q * 17592186044416000000) = C := ⟨_, rfl⟩
  obtain ⟨V, hV⟩ : ∃ V, V = R * 4294967296 + M1 := ⟨_, rfl⟩
  have hBC : IntKind.u64.wrap (B - C) = V := by
    rw [← hC, ← hB, ← hA, hV, IntKind.wrap_u64, IntKind.wrap_u64, IntKind.wrap_u64, IntKind.wrap_u64]; omega
  have hV0 : 0 ≤ V := by omega
  have hV1 : V < 17592186044416000000 := by omega
  obtain ⟨Q0, R0, hq, hr0, hr1⟩ : ∃ Q0 R0 : Int, V = Q0 * 4096000000 + R0 ∧ 0 ≤ R0 ∧ R0 < 4096000000 := ⟨V / 4096000000, V % 4096000000, by omega, by omega, by omega⟩
  have hq0 : 0 ≤ Q0 := by omega
  have hq1 : Q0 < 4294967296 := by omega
  have hd0 : V / 4096000000 = Q0 := by omega
  have hrr : V - Q0 * 4096000000 = R0 := by omega
  have HE : Hid (Q * 4294967296 + Q0 = (H * 18446744073709551616 + L) / 1000000) := hid (end_mega H L U M M1 Q R V Q0 hU hM hM1 hl0 hl hQ hV hd0.symm)
  have hm1 : M / 4294967296 = M1 := hM1.symm
  clear hU hM hM1 hQ hV hq
  go_enter Try.func35, Try.ntmps35
  go_wp2_with (go_at_call 36; refine (lead_mega _).mono ?_; rintro e w' ⟨rfl, rfl⟩)
  go_loop [15, 16] (fun v r => v = .int .u64 Q ∧ r = .int .u64 R) (fun _ _ => 0)
  case atStart => exact ⟨by rw [hd], by first | rfl | rw [hd, hr]⟩
  case round =>
    obtain ⟨rfl, rfl⟩ := hrel
    go_wp2_with fail
    go_loop [18, 16] (fun v r => v = .int .u64 Q0 ∧ r = .int .u64 R0) (fun _ _ => 0)
    case atStart => exact ⟨by first | rfl | rw [hd0], by first | rfl | rw [hd0, hrr]⟩
    case round =>
      obtain ⟨rfl, rfl⟩ := hrel
      go_wp2_with fail
      go_ret2
      rw [← HE.out]
      exact ⟨⟨_, rfl⟩, Below.refl _ _⟩

theorem div_mega (H L : Int) (h0 : 0 ≤ H) (hh : H < 1000000) (hl0 : 0 ≤ L) (hl : L < 18446744073709551616) (w : World) :
    Calls Try.prog 35 #[.int .u64 H, .int .u64 L, .int .u64 1000000] w fun e w' => ∃ r, e = .returned (.tuple #[.int .u64 ((H * 18446744073709551616 + L) / 1000000), .int .u64 r]) ∧ Below w.heap.size w w' := by
  by_cases h : H = 0
  · subst h
    rw [Int.zero_mul, Int.zero_add]
    exact div_mega_nought L hl0 hl w
  · exact div_mega_some H L (by omega) hh hl0 hl w

set_option maxHeartbeats 2000000 in
theorem div_kilo_nought (L : Int) (hl0 : 0 ≤ L) (hl : L < 18446744073709551616) (w : World) :
    Calls Try.prog 35 #[.int .u64 0, .int .u64 L, .int .u64 1000] w fun e w' => ∃ r, e = .returned (.tuple #[.int .u64 (L / 1000), .int .u64 r]) ∧ Below w.heap.size w w' := by
  go_enter Try.func35, Try.ntmps35
  go_wp2_with fail
  go_quiet (fail)
  go_wp2_with fail
  go_ret2
  exact ⟨_, rfl, below_drewN _ _⟩

theorem or_kilo (H L : Int) (h0 : 0 < H) (hh : H < 1000) (hl0 : 0 ≤ L) (hl : L < 18446744073709551616) : bits .or .u64 (H * 18014398509481984) (L / 1024) = H * 18014398509481984 + L / 1024 := by
  obtain ⟨a, rfl⟩ : ∃ a : Nat, H = (a : Int) := ⟨H.toNat, by omega⟩
  obtain ⟨b, hb⟩ : ∃ b : Nat, L / 1024 = (b : Int) := ⟨(L / 1024).toNat, by omega⟩
  rw [hb]
  have hb' : b < 18014398509481984 := by omega
  have h := bits_or_u64_nat (a * 18014398509481984) b (by omega) (by omega)
  rw [or_disj a b 54 hb'] at h
  rw [show ((a * 18014398509481984 : Nat) : Int) = (a : Int) * 18014398509481984 by omega, show ((a * 18014398509481984 + b : Nat) : Int) = (a : Int) * 18014398509481984 + (b : Int) by omega] at h
  exact h

theorem end_kilo (H L U M M1 Q R V Q0 : Int) (hU : U = H * 18014398509481984 + L / 1024) (hM : M = L * 18014398509481984 % 18446744073709551616) (hM1 : M1 = M / 4294967296) (_hl0 : 0 ≤ L) (_hl : L < 18446744073709551616)
    (hQ : U = Q * 4194304000 + R) (hV : V = R * 4294967296 + M1) (hQ0 : Q0 = V / 4194304000) : Q * 4294967296 + Q0 = (H * 18446744073709551616 + L) / 1000 := by
  obtain ⟨l2, l, e, g0, g1⟩ : ∃ l2 l : Int, L = l2 * 1024 + l ∧ 0 ≤ l ∧ l < 1024 := ⟨L / 1024, L % 1024, by omega, by omega, by omega⟩
  have e1 : L / 1024 = l2 := by omega
  have e2 : L * 18014398509481984 = l2 * 18446744073709551616 + l * 18014398509481984 := by omega
  have e3 : M = l * 18014398509481984 := by omega
  have e4 : M1 = l * 4194304 := by omega
  have e5 : Q0 * 4194304000 ≤ V := by omega
  have e6 : V < (Q0 + 1) * 4194304000 := by omega
  clear hQ0 hM1 hM e2
  rw [e1] at hU
  symm
  apply Int.le_antisymm
  · apply Int.le_of_lt_add_one
    apply Int.ediv_lt_of_lt_mul (by omega)
    omega
  · apply Int.le_ediv_of_mul_le (by omega)
    omega

set_option maxHeartbeats 4000000 in
theorem div_kilo_some (H L : Int) (h0 : 0 < H) (hh : H < 1000) (hl0 : 0 ≤ L) (hl : L < 18446744073709551616) (w : World) :
    Calls Try.prog 35 #[.int .u64 H, .int .u64 L, .int .u64 1000] w fun e w' => ∃ r, e = .returned (.tuple #[.int .u64 ((H * 18446744073709551616 + L) / 1000), .int .u64 r]) ∧ Below w.heap.size w w' := by
  have hand : bits .and .u64 18014398509481984000 4294967295 = 0 := by decide +kernel
  obtain ⟨U, hU⟩ : ∃ U, U = H * 18014398509481984 + L / 1024 := ⟨_, rfl⟩
  have hor : bits .or .u64 (H * 18014398509481984) (L / 1024) = U := by rw [hU]; exact or_kilo H L h0 hh hl0 hl
  have hU0 : 0 ≤ U := by omega
  have hU1 : U < 18014398509481984000 := by omega
  obtain ⟨M, hM⟩ : ∃ M, M = L * 18014398509481984 % 18446744073709551616 := ⟨_, rfl⟩
  have hmw : IntKind.u64.wrap (L * 18014398509481984) = M := by rw [IntKind.wrap_u64, hM]
  have hM0 : 0 ≤ M := by omega
  have hM9 : M < 18446744073709551616 := by omega
  obtain ⟨M1, hM1⟩ : ∃ M1, M1 = M / 4294967296 := ⟨_, rfl⟩
  obtain ⟨M0, hm0⟩ : ∃ M0, bits .and .u64 M 4294967295 = M0 := ⟨_, rfl⟩
  have hM00 : 0 ≤ M0 ∧ M0 < 4294967296 := by
    have h := n_mask M.toNat (by omega)
    rw [show ((M.toNat : Nat) : Int) = M by omega] at h
    rw [← hm0, h]; omega
  obtain ⟨hM01, hM02⟩ := hM00
  have hM11 : 0 ≤ M1 := by omega
  have hM12 : M1 < 4294967296 := by omega
  obtain ⟨Q, R, hQ, hR0, hR1⟩ : ∃ Q R : Int, U = Q * 4194304000 + R ∧ 0 ≤ R ∧ R < 4194304000 := ⟨U / 4194304000, U % 4194304000, by omega, by omega, by omega⟩
  have hQ0 : 0 ≤ Q := by omega
  have hQ1 : Q < 4294967296 := by omega
  have hd : U / 4194304000 = Q := by omega
  have hr : U - Q * 4194304000 = R := by omega
  obtain ⟨A, hA⟩ : ∃ A, IntKind.u64.wrap (U * 4294967296) = A := ⟨_, rfl⟩
  obtain ⟨B, hB⟩ : ∃ B, IntKind.u64.wrap (A + M1) = B := ⟨_, rfl⟩
  obtain ⟨C, hC⟩ : ∃ C, IntKind.u64.wrap (Q * 18014398509481984000) = C := ⟨_, rfl⟩
  obtain ⟨V, hV⟩ : ∃ V, V = R * 4294967296 + M1 := ⟨_, rfl⟩
  have hBC : IntKind.u64.wrap (B - C) = V := by
    rw [← hC, ← hB, ← hA, hV, IntKind.wrap_u64, IntKind.wrap_u64, IntKind.wrap_u64, IntKind.wrap_u64]; omega
  have hV0 : 0 ≤ V := by omega
  have hV1 : V < 18014398509481984000 := by omega
  obtain ⟨Q0, R0, hq, hr0, hr1⟩ : ∃ Q0 R0 : Int, V = Q0 * 4194304000 + R0 ∧ 0 ≤ R0 ∧ R0 < 4194304000 := ⟨V / 4194304000, V % 4194304000, by omega, by omega, by omega⟩
  have hq0 : 0 ≤ Q0 := by omega
  have hq1 : Q0 < 4294967296 := by omega
  have hd0 : V / 4194304000 = Q0 := by omega
  have hrr : V - Q0 * 4194304000 = R0 := by omega
  have HE : Hid (Q * 4294967296 + Q0 = (H * 18446744073709551616 + L) / 1000) := hid (end_kilo H L U M M1 Q R V Q0 hU hM hM1 hl0 hl hQ hV hd0.symm)
  have hm1 : M / 4294967296 = M1 := hM1.symm
  clear hU hM hM1 hQ hV hq
  go_enter Try.func35, Try.ntmps35
  go_wp2_with (go_at_call 36; refine (lead_kilo _).mono ?_; rintro e w' ⟨rfl, rfl⟩)
  go_loop [15, 16] (fun v r => v = .int .u64 Q ∧ r = .int .u64 R) (fun _ _ => 0)
  case atStart => exact ⟨by rw [hd], by first | rfl | rw [hd, hr]⟩
  case round =>
    obtain ⟨rfl, rfl⟩ := hrel
    go_wp2_with fail
    go_loop [18, 16] (fun v r => v = .int .u64 Q0 ∧ r = .int .u64 R0) (fun _ _ => 0)
    case atStart => exact ⟨by first | rfl | rw [hd0], by first | rfl | rw [hd0, hrr]⟩
    case round =>
      obtain ⟨rfl, rfl⟩ := hrel
      go_wp2_with fail
      go_ret2
      rw [← HE.out]
      exact ⟨⟨_, rfl⟩, Below.refl _ _⟩

theorem div_kilo (H L : Int) (h0 : 0 ≤ H) (hh : H < 1000) (hl0 : 0 ≤ L) (hl : L < 18446744073709551616) (w : World) :
    Calls Try.prog 35 #[.int .u64 H, .int .u64 L, .int .u64 1000] w fun e w' => ∃ r, e = .returned (.tuple #[.int .u64 ((H * 18446744073709551616 + L) / 1000), .int .u64 r]) ∧ Below w.heap.size w w' := by
  by_cases h : H = 0
  · subst h
    rw [Int.zero_mul, Int.zero_add]
    exact div_kilo_nought L hl0 hl w
  · exact div_kilo_some H L (by omega) hh hl0 hl w
end Go.Proofs.Ytdgmnfhfnhiloaa
