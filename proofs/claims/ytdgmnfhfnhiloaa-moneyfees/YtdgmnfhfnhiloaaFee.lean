/- Fees, gross amounts, costs; amounts and satoshi. -/
import Derived.Test.YtdgmnfhfnhiloaaWords
namespace Go.Proofs.Ytdgmnfhfnhiloaa
open Go.RowKit

theorem shr_nonneg {a r u : Int} (ha : 0 ≤ a) (hr : 0 ≤ r) (hu : 0 < u) : 0 ≤ shr a r u := Int.ediv_nonneg (Int.mul_nonneg ha hr) (by omega)
theorem up_fee (a r : Int) (ha : 0 ≤ a) (hr : 0 ≤ r) : upO (a * r / 18446744073709551616 / 1000000) ((a * r / 18446744073709551616 % 1000000 * 18446744073709551616 + a * r % 18446744073709551616) / 1000000) 2100000000000000000 = if rt (shr a r 1000000) then some (shr a r 1000000) else none := by
  rw [up_share (a * r) 1000000 _ (by omega) (Int.mul_nonneg ha hr) (by omega)]
  have h0 := shr_nonneg ha hr (u := 1000000) (by omega)
  unfold shr at *
  by_cases h : a * r / 1000000 ≤ 2100000000000000000
  · rw [if_pos h, rt_iff.2 ⟨h0, h⟩]; rfl
  · rw [if_neg h, rt_not.2 (Or.inr (by omega))]; rfl
theorem up_cost (a r : Int) (ha : 0 ≤ a) (hr : 0 ≤ r) : upO (a * r / 18446744073709551616 / 1000) ((a * r / 18446744073709551616 % 1000 * 18446744073709551616 + a * r % 18446744073709551616) / 1000) 2100000000000000 = if rc (shr a r 1000) then some (shr a r 1000) else none := by
  rw [up_share (a * r) 1000 _ (by omega) (Int.mul_nonneg ha hr) (by omega)]
  have h0 := shr_nonneg ha hr (u := 1000) (by omega)
  unfold shr at *
  by_cases h : a * r / 1000 ≤ 2100000000000000
  · rw [if_pos h, rc_iff.2 ⟨h0, h⟩]; rfl
  · rw [if_neg h, rc_not.2 (Or.inr (by omega))]; rfl
theorem prod_hi {a r : Int} (ha : 0 ≤ a) (ha1 : a < 9223372036854775808) (hr : 0 ≤ r) (hr1 : r < 9223372036854775808) : 0 ≤ a * r / 18446744073709551616 ∧ a * r / 18446744073709551616 < 18446744073709551616 := by
  have h0 := Int.mul_nonneg ha hr
  have h1 : a * r ≤ 9223372036854775808 * 9223372036854775808 := Int.mul_le_mul (by omega) (by omega) hr (by omega)
  omega

/-- the product, its quotient, and what is no greater than the bound, as one behind the other -/
structure Shares (y : Int) (m : Int) (a r : Int) (o : Option Int) : Prop where
  run : ∃ h l h2 l2 : Int, (∀ W, Calls Try.prog 28 #[.int .i64 a, .int .i64 r] W fun e w' => e = .returned (.agg #[.int .u64 h, .int .u64 l]) ∧ Below W.heap.size W w') ∧
    (∀ W, Calls Try.prog 29 #[.agg #[.int .u64 h, .int .u64 l], .int .u64 y] W fun e w' => e = .returned (.agg #[.int .u64 h2, .int .u64 l2]) ∧ Below W.heap.size W w') ∧
    (∀ W, Calls Try.prog 30 #[.agg #[.int .u64 h2, .int .u64 l2], .int .i64 m] W fun e w' => e = ans o ∧ Below W.heap.size W w')
theorem shares_fee {a r : Int} (ha : rt a = true) (hr : rt r = true) : Shares 1000000 2100000000000000000 a r (if rt (shr a r 1000000) then some (shr a r 1000000) else none) := by
  obtain ⟨a0, a1⟩ := rt_iff.1 ha
  obtain ⟨r0, r1⟩ := rt_iff.1 hr
  have hp := prod_hi a0 (by omega) r0 (by omega)
  refine ⟨_, _, _, _, fun W => multiply_any a r a0 (by omega) r0 (by omega) W, fun W => over_mega _ _ hp.1 hp.2 (by omega) (by omega) W, fun W => ?_⟩
  rw [← up_fee a r a0 r0]
  exact upto_any _ _ _ (split_lt (a * r) 1000000 (by omega) (Int.mul_nonneg a0 r0)).1 (by omega) (by omega) W
theorem shares_cost {a r : Int} (ha : rc a = true) (hr : rc r = true) : Shares 1000 2100000000000000 a r (if rc (shr a r 1000) then some (shr a r 1000) else none) := by
  obtain ⟨a0, a1⟩ := rc_iff.1 ha
  obtain ⟨r0, r1⟩ := rc_iff.1 hr
  have hp := prod_hi a0 (by omega) r0 (by omega)
  refine ⟨_, _, _, _, fun W => multiply_any a r a0 (by omega) r0 (by omega) W, fun W => over_kilo _ _ hp.1 hp.2 (by omega) (by omega) W, fun W => ?_⟩
  rw [← up_cost a r a0 r0]
  exact upto_any _ _ _ (split_lt (a * r) 1000 (by omega) (Int.mul_nonneg a0 r0)).1 (by omega) (by omega) W

set_option maxHeartbeats 2000000 in
theorem fee_any (a b r : Int) (w : World) : Calls Try.prog 18 #[.int .i64 a, .int .i64 b, .int .i64 r] w fun e w' => e = ans (feeO a b r) ∧ Below w.heap.size w w' := by
  cases ha : rt a
  · go_enter Try.func18, Try.ntmps18
    go_wp2_with (go_at_call 15; refine (right_any _ _).mono ?_; rintro e w' ⟨rfl, rfl⟩)
    go_ret2
    exact ⟨by simp [feeO, ha, val, err], Below.refl _ _⟩
  · cases hb : rt b
    · go_enter Try.func18, Try.ntmps18
      go_wp2_with (go_at_call 15; refine (right_any _ _).mono ?_; rintro e w' ⟨rfl, rfl⟩)
      go_ret2
      exact ⟨by simp [feeO, hb, val, err], Below.refl _ _⟩
    · cases hr : rt r
      · go_enter Try.func18, Try.ntmps18
        go_wp2_with (go_at_call 15; refine (right_any _ _).mono ?_; rintro e w' ⟨rfl, rfl⟩)
        go_ret2
        exact ⟨by simp [feeO, hr, val, err], Below.refl _ _⟩
      · obtain ⟨h, l, h2, l2, c1, c2, c3⟩ := (shares_fee ha hr).run
        have HF : Hid (feeO a b r = if rt (shr a r 1000000) then addO b (shr a r 1000000) else none) := by apply hid; rw [feeO, ha, hb, hr]; rfl
        generalize shr a r 1000000 = s at c3 HF
        have hfld : ∀ W, Sem.run Try.prog (Instr.field 42 (.agg #[.int .u64 h, .int .u64 l]) 0) W = .ok (.agg #[.int .u64 h, .int .u64 l]) W := fun _ => rfl
        have HC1 := hid c1
        have HC2 := hid c2
        clear c1 c2
        cases hs : rt s
        · rw [hs] at HF c3
          have HC3 : Hid (∀ W, Calls Try.prog 30 #[.agg #[.int .u64 h2, .int .u64 l2], .int .i64 2100000000000000000] W fun e w' => e = .returned (.tuple #[.int .i64 0, .int .i64 40]) ∧ Below W.heap.size W w') := hid c3
          clear c3
          go_enter Try.func18, Try.ntmps18
          go_wp2_with (first | (go_at_call 15; refine (right_any _ _).mono ?_; rintro e w' ⟨rfl, rfl⟩) | fail)
          refine (HC1.out _).mono ?_
          rintro e w1 ⟨rfl, hb1⟩
          have HB1 := hid hb1
          clear hb1
          go_wp2_with fail
          refine (HC2.out _).mono ?_
          rintro e w2 ⟨rfl, hb2⟩
          have HB2 := hid (HB1.out.trans (hb2.mono HB1.out.size))
          clear hb2 HB1
          go_wp2_with fail
          refine (HC3.out _).mono ?_
          rintro e w3 ⟨rfl, hb3⟩
          have HB3 := hid (HB2.out.trans (hb3.mono HB2.out.size))
          clear hb3 HB2
          go_wp2_with fail
          go_ret2
          exact ⟨by rw [HF.out]; rfl, HB3.out⟩
        · rw [hs] at HF c3
          have HC3 : Hid (∀ W, Calls Try.prog 30 #[.agg #[.int .u64 h2, .int .u64 l2], .int .i64 2100000000000000000] W fun e w' => e = .returned (.tuple #[.int .i64 s, .int .i64 0]) ∧ Below W.heap.size W w') := hid c3
          clear c3
          go_enter Try.func18, Try.ntmps18
          go_wp2_with (first | (go_at_call 15; refine (right_any _ _).mono ?_; rintro e w' ⟨rfl, rfl⟩) | fail)
          refine (HC1.out _).mono ?_
          rintro e w1 ⟨rfl, hb1⟩
          have HB1 := hid hb1
          clear hb1
          go_wp2_with fail
          refine (HC2.out _).mono ?_
          rintro e w2 ⟨rfl, hb2⟩
          have HB2 := hid (HB1.out.trans (hb2.mono HB1.out.size))
          clear hb2 HB1
          go_wp2_with fail
          refine (HC3.out _).mono ?_
          rintro e w3 ⟨rfl, hb3⟩
          have HB3 := hid (HB2.out.trans (hb3.mono HB2.out.size))
          clear hb3 HB2
          go_wp2_with fail
          refine (add_any _ _ _).mono ?_
          rintro e w4 ⟨rfl, hb4⟩
          have HB4 := hid (HB3.out.trans (hb4.mono HB3.out.size))
          clear hb4 HB3
          go_wp2_with fail
          go_ret2
          exact ⟨by rw [HF.out]; rfl, HB4.out⟩

set_option maxHeartbeats 2000000 in
theorem gross_any (a b r : Int) (w : World) : Calls Try.prog 19 #[.int .i64 a, .int .i64 b, .int .i64 r] w fun e w' => e = ans (grossO a b r) ∧ Below w.heap.size w w' := by
  have hc := fun W => fee_any a b r W
  have HG : Hid (grossO a b r = (feeO a b r).bind (addO a)) := hid rfl
  cases hf : feeO a b r with
  | none =>
    rw [hf] at hc HG
    have HC : Hid (∀ W, Calls Try.prog 18 #[.int .i64 a, .int .i64 b, .int .i64 r] W fun e w' => e = .returned (.tuple #[.int .i64 0, .int .i64 40]) ∧ Below W.heap.size W w') := hid hc
    clear hc hf
    go_enter Try.func19, Try.ntmps19
    go_wp2_with fail
    refine (HC.out _).mono ?_
    rintro e w1 ⟨rfl, hb1⟩
    have HB1 := hid hb1
    clear hb1
    go_wp2_with fail
    go_ret2
    exact ⟨by rw [HG.out]; rfl, HB1.out⟩
  | some v =>
    rw [hf] at hc HG
    have HC : Hid (∀ W, Calls Try.prog 18 #[.int .i64 a, .int .i64 b, .int .i64 r] W fun e w' => e = .returned (.tuple #[.int .i64 v, .int .i64 0]) ∧ Below W.heap.size W w') := hid hc
    clear hc hf
    go_enter Try.func19, Try.ntmps19
    go_wp2_with fail
    refine (HC.out _).mono ?_
    rintro e w1 ⟨rfl, hb1⟩
    have HB1 := hid hb1
    clear hb1
    go_wp2_with fail
    refine (add_any _ _ _).mono ?_
    rintro e w2 ⟨rfl, hb2⟩
    have HB2 := hid (HB1.out.trans (hb2.mono HB1.out.size))
    clear hb2 HB1
    go_wp2_with fail
    go_ret2
    exact ⟨by rw [HG.out]; rfl, HB2.out⟩

set_option maxHeartbeats 2000000 in
theorem cost_any (a r : Int) (w : World) : Calls Try.prog 20 #[.int .i64 a, .int .i64 r] w fun e w' => e = ans (costO a r) ∧ Below w.heap.size w w' := by
  cases ha : rc a
  · go_enter Try.func20, Try.ntmps20
    go_wp2_with (go_at_call 31; refine (coins_any _ _).mono ?_; rintro e w' ⟨rfl, rfl⟩)
    go_ret2
    exact ⟨by simp [costO, ha, val, err], Below.refl _ _⟩
  · cases hr : rc r
    · go_enter Try.func20, Try.ntmps20
      go_wp2_with (go_at_call 31; refine (coins_any _ _).mono ?_; rintro e w' ⟨rfl, rfl⟩)
      go_ret2
      exact ⟨by simp [costO, hr, val, err], Below.refl _ _⟩
    · obtain ⟨h, l, h2, l2, c1, c2, c3⟩ := (shares_cost ha hr).run
      have HF : Hid (costO a r = if rc (shr a r 1000) then some (shr a r 1000) else none) := by apply hid; rw [costO, ha, hr]; rfl
      rw [← HF.out] at c3
      have hfld : ∀ W, Sem.run Try.prog (Instr.field 42 (.agg #[.int .u64 h, .int .u64 l]) 0) W = .ok (.agg #[.int .u64 h, .int .u64 l]) W := fun _ => rfl
      have HC1 := hid c1
      have HC2 := hid c2
      have HC3 := hid c3
      clear c1 c2 c3 HF
      go_enter Try.func20, Try.ntmps20
      go_wp2_with (first | (go_at_call 31; refine (coins_any _ _).mono ?_; rintro e w' ⟨rfl, rfl⟩) | fail)
      refine (HC1.out _).mono ?_
      rintro e w1 ⟨rfl, hb1⟩
      have HB1 := hid hb1
      clear hb1
      go_wp2_with fail
      refine (HC2.out _).mono ?_
      rintro e w2 ⟨rfl, hb2⟩
      have HB2 := hid (HB1.out.trans (hb2.mono HB1.out.size))
      clear hb2 HB1
      go_wp2_with fail
      refine (HC3.out _).mono ?_
      rintro e w3 ⟨rfl, hb3⟩
      have HB3 := hid (HB2.out.trans (hb3.mono HB2.out.size))
      clear hb3 HB2
      go_wp2_with fail
      go_ret2
      exact ⟨rfl, HB3.out⟩

set_option maxHeartbeats 2000000 in
theorem coin_any (a : Int) (w : World) : Calls Try.prog 24 #[.int .i64 a] w fun e w' => e = .returned (.tuple #[.int .i64 (val (coinsO a)), .int .i64 (val (restO a)), .int .i64 (err (coinsO a))]) ∧ w' = w := by
  cases ha : rt a
  · go_enter Try.func24, Try.ntmps24
    go_wp2_with (go_at_call 15; refine (right_any _ _).mono ?_; rintro e w' ⟨rfl, rfl⟩)
    exact bodyPost_ret (v := .tuple #[.int .i64 0, .int .i64 0, .int .i64 40]) (by simp [results, Try.results24, go_sem]) rfl ⟨by simp [coinsO, restO, ha, val, err], rfl⟩
  · obtain ⟨a0, a1⟩ := rt_iff.1 ha
    go_enter Try.func24, Try.ntmps24
    go_wp2_with (go_at_call 15; refine (right_any _ _).mono ?_; rintro e w' ⟨rfl, rfl⟩)
    exact bodyPost_ret (v := .tuple #[.int .i64 (a / 1000), .int .i64 (a % 1000), .int .i64 0]) (by simp [results, Try.results24, go_sem]) rfl ⟨by simp [coinsO, restO, ha, val, err], rfl⟩

set_option maxHeartbeats 2000000 in
theorem milli_any (a : Int) (w : World) : Calls Try.prog 25 #[.int .i64 a] w fun e w' => e = ans (milliO a) ∧ w' = w := by
  cases ha : rc a
  · go_enter Try.func25, Try.ntmps25
    go_wp2_with (go_at_call 31; refine (coins_any _ _).mono ?_; rintro e w' ⟨rfl, rfl⟩)
    go_ret2
    exact ⟨by simp [milliO, ha, val, err], rfl⟩
  · obtain ⟨a0, a1⟩ := rc_iff.1 ha
    go_enter Try.func25, Try.ntmps25
    go_wp2_with (go_at_call 31; refine (coins_any _ _).mono ?_; rintro e w' ⟨rfl, rfl⟩)
    go_ret2
    exact ⟨by simp [milliO, ha, val, err], rfl⟩
end Go.Proofs.Ytdgmnfhfnhiloaa
