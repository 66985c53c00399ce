/- The document's shares, bit by bit. -/
import Derived.Test.YtdgmnfhfnhiloaaFee
import Derived.Laws.BitsLemmas
namespace Go.Proofs.Ytdgmnfhfnhiloaa
open Go.RowKit

theorem pow_half (b : Int) (k : Nat) (_hb : 0 ≤ b) : b / 2 ^ k = 2 * (b / 2 ^ (k + 1)) + b / 2 ^ k % 2 := by
  have e : b / 2 ^ (k + 1) = b / 2 ^ k / 2 := by rw [Int.ediv_ediv_of_nonneg (Int.pow_nonneg (by omega)), Int.pow_succ]
  rw [e]
  omega
theorem pow_le (b : Int) (k : Nat) (hb : 0 ≤ b) : b / 2 ^ k ≤ b := Int.ediv_le_self _ hb
theorem and_one (x : Int) (h0 : 0 ≤ x) (h1 : x < 9223372036854775808) : bits .and .i64 x 1 = x % 2 :=
  bits_mask .i64 63 (by decide) (fun n a b => by rw [IntKind.wrap_i64]; omega) 1 (by decide) x h0 h1

/-- one more bit, not set -/
theorem bit0_mega (a b q r : Int) (k : Nat) (hb : 0 ≤ b) (h : a * (b / 2 ^ (k + 1)) = q * 1000000 + r) (hz : b / 2 ^ k % 2 = 0) : a * (b / 2 ^ k) = (2 * q + 2 * r / 1000000) * 1000000 + 2 * r % 1000000 := by
  rw [pow_half b k hb, hz, Int.add_zero, show a * (2 * (b / 2 ^ (k + 1))) = 2 * (a * (b / 2 ^ (k + 1))) by rw [← Int.mul_assoc, Int.mul_comm a 2, Int.mul_assoc], h]
  omega
theorem bit1_mega (a b q r : Int) (k : Nat) (hb : 0 ≤ b) (h : a * (b / 2 ^ (k + 1)) = q * 1000000 + r) (hz : b / 2 ^ k % 2 = 1) : a * (b / 2 ^ k) = (2 * q + 2 * r / 1000000 + a / 1000000 + (2 * r % 1000000 + a % 1000000) / 1000000) * 1000000 + (2 * r % 1000000 + a % 1000000) % 1000000 := by
  rw [pow_half b k hb, hz, Int.mul_add, show a * (2 * (b / 2 ^ (k + 1))) = 2 * (a * (b / 2 ^ (k + 1))) by rw [← Int.mul_assoc, Int.mul_comm a 2, Int.mul_assoc], h, Int.mul_one]
  omega
theorem most_mega (a b q r : Int) (k : Nat) (ha : 0 ≤ a) (hb : 0 ≤ b) (hr : 0 ≤ r) (h : a * (b / 2 ^ k) = q * 1000000 + r) : q ≤ a * b / 1000000 := by
  have h1 : a * (b / 2 ^ k) ≤ a * b := Int.mul_le_mul_of_nonneg_left (pow_le b k hb) ha
  omega

set_option maxHeartbeats 4000000 in
theorem share_mega (a b : Int) (ha : rt a = true) (hb : rt b = true) (w : World) :
    Calls Try.prog 32 #[.int .i64 a, .int .i64 b, .int .i64 1000000] w fun e w' => ∃ v, e = .returned (.tuple #[.int .i64 v, .bool (rt (shr a b 1000000))]) ∧ (rt (shr a b 1000000) = true → v = shr a b 1000000) ∧ Below w.heap.size w w' := by
  obtain ⟨a0, a1⟩ := rt_iff.1 ha
  obtain ⟨b0, b1⟩ := rt_iff.1 hb
  clear ha hb
  have HS : Hid (shr a b 1000000 = a * b / 1000000) := hid rfl
  have HN := hid (shr_nonneg a0 b0 (u := 1000000) (by omega))
  generalize shr a b 1000000 = S at HS HN ⊢
  go_enter Try.func32, Try.ntmps32
  go_wp2_with fail
  go_quiet (fail)
  go_wp2_with fail
  generalize hWW : w.drewN nq = W
  have HB : Hid (Below w.heap.size w W) := by rw [← hWW]; exact hid (below_drewN _ _)
  clear hWW
  go_loop [8, 9, 12] (fun vq vr vk => ∃ (k : Nat) (q r : Int), k ≤ 63 ∧ vk = .int .i64 ((k : Int) - 1) ∧ vq = .int .i64 q ∧ vr = .int .i64 r ∧ 0 ≤ q ∧ q ≤ 4300000000000000000 ∧ 0 ≤ r ∧ r < 1000000 ∧ a * (b / 2 ^ k) = q * 1000000 + r) (fun _ _ vk => (intOf vk + 1).toNat)
  case atStart => exact ⟨63, 0, 0, by omega, rfl, rfl, rfl, by omega, by omega, by omega, by omega, by rw [show b / 2 ^ 63 = 0 by omega]; omega⟩
  case round =>
    obtain ⟨k, q, r, hk, rfl, rfl, rfl, q0, q1, r0, r1, hinv⟩ := hrel
    have HI := hid hinv
    have HM := hid (most_mega a b q r k a0 b0 r0 hinv)
    clear hinv
    cases k with
    | zero =>
      have hi := HI.out
      rw [Int.pow_zero, Int.ediv_one] at hi
      have HI2 : Hid (q = S) := by apply hid; rw [HS.out]; omega
      clear hi
      have hk1 : ((0 : Nat) : Int) - 1 = -1 := rfl
      rw [hk1]
      by_cases hq : q ≤ 2100000000000000000
      · go_wp2_with fail
        go_ret2
        rw [show rt S = true from rt_iff.2 ⟨HN.out, by rw [← HI2.out]; exact hq⟩]
        exact ⟨_, rfl, fun _ => HI2.out, HB.out⟩
      · go_wp2_with fail
        go_ret2
        rw [show rt S = false from rt_not.2 (Or.inr (by rw [← HI2.out]; omega))]
        exact ⟨_, rfl, fun h => (by cases h), HB.out⟩
    | succ k =>
      have hk' : ((k + 1 : Nat) : Int) - 1 = (k : Int) := by omega
      rw [hk']
      have hx := and_one (b / 2 ^ k) (Int.ediv_nonneg b0 (Int.pow_nonneg (by omega))) (by have := pow_le b k b0; omega)
      by_cases hq : q ≤ 2100000000000000000
      · rcases (show b / 2 ^ k % 2 = 0 ∨ b / 2 ^ k % 2 = 1 by omega) with hz | hz
        · have HV := hid (bit0_mega a b q r k b0 HI.out hz)
          rw [hz] at hx
          clear hz
          go_wp2_with fail
          go_round
          case rel => exact ⟨k, _, _, by omega, rfl, rfl, rfl, by omega, by omega, by omega, by omega, HV.out⟩
          case measure => simp [intOf]
        · have HV := hid (bit1_mega a b q r k b0 HI.out hz)
          rw [hz] at hx
          clear hz
          go_wp2_with fail
          go_round
          case rel => exact ⟨k, _, _, by omega, rfl, rfl, rfl, by omega, by omega, by omega, by omega, HV.out⟩
          case measure => simp [intOf]
      · have HR : Hid (rt S = false) := hid (rt_not.2 (Or.inr (by rw [HS.out]; have := HM.out; omega)))
        go_wp2_with fail
        go_ret2
        rw [HR.out]
        exact ⟨_, rfl, fun h => (by cases h), HB.out⟩

/-- one more bit, not set -/
theorem bit0_kilo (a b q r : Int) (k : Nat) (hb : 0 ≤ b) (h : a * (b / 2 ^ (k + 1)) = q * 1000 + r) (hz : b / 2 ^ k % 2 = 0) : a * (b / 2 ^ k) = (2 * q + 2 * r / 1000) * 1000 + 2 * r % 1000 := by
  rw [pow_half b k hb, hz, Int.add_zero, show a * (2 * (b / 2 ^ (k + 1))) = 2 * (a * (b / 2 ^ (k + 1))) by rw [← Int.mul_assoc, Int.mul_comm a 2, Int.mul_assoc], h]
  omega
theorem bit1_kilo (a b q r : Int) (k : Nat) (hb : 0 ≤ b) (h : a * (b / 2 ^ (k + 1)) = q * 1000 + r) (hz : b / 2 ^ k % 2 = 1) : a * (b / 2 ^ k) = (2 * q + 2 * r / 1000 + a / 1000 + (2 * r % 1000 + a % 1000) / 1000) * 1000 + (2 * r % 1000 + a % 1000) % 1000 := by
  rw [pow_half b k hb, hz, Int.mul_add, show a * (2 * (b / 2 ^ (k + 1))) = 2 * (a * (b / 2 ^ (k + 1))) by rw [← Int.mul_assoc, Int.mul_comm a 2, Int.mul_assoc], h, Int.mul_one]
  omega
theorem most_kilo (a b q r : Int) (k : Nat) (ha : 0 ≤ a) (hb : 0 ≤ b) (hr : 0 ≤ r) (h : a * (b / 2 ^ k) = q * 1000 + r) : q ≤ a * b / 1000 := by
  have h1 : a * (b / 2 ^ k) ≤ a * b := Int.mul_le_mul_of_nonneg_left (pow_le b k hb) ha
  omega

set_option maxHeartbeats 4000000 in
theorem share_kilo (a b : Int) (ha : rt a = true) (hb : rt b = true) (w : World) :
    Calls Try.prog 32 #[.int .i64 a, .int .i64 b, .int .i64 1000] w fun e w' => ∃ v, e = .returned (.tuple #[.int .i64 v, .bool (rt (shr a b 1000))]) ∧ (rt (shr a b 1000) = true → v = shr a b 1000) ∧ Below w.heap.size w w' := by
  obtain ⟨a0, a1⟩ := rt_iff.1 ha
  obtain ⟨b0, b1⟩ := rt_iff.1 hb
  clear ha hb
  have HS : Hid (shr a b 1000 = a * b / 1000) := hid rfl
  have HN := hid (shr_nonneg a0 b0 (u := 1000) (by omega))
  generalize shr a b 1000 = S at HS HN ⊢
  go_enter Try.func32, Try.ntmps32
  go_wp2_with fail
  go_quiet (fail)
  go_wp2_with fail
  generalize hWW : w.drewN nq = W
  have HB : Hid (Below w.heap.size w W) := by rw [← hWW]; exact hid (below_drewN _ _)
  clear hWW
  go_loop [8, 9, 12] (fun vq vr vk => ∃ (k : Nat) (q r : Int), k ≤ 63 ∧ vk = .int .i64 ((k : Int) - 1) ∧ vq = .int .i64 q ∧ vr = .int .i64 r ∧ 0 ≤ q ∧ q ≤ 4300000000000000000 ∧ 0 ≤ r ∧ r < 1000 ∧ a * (b / 2 ^ k) = q * 1000 + r) (fun _ _ vk => (intOf vk + 1).toNat)
  case atStart => exact ⟨63, 0, 0, by omega, rfl, rfl, rfl, by omega, by omega, by omega, by omega, by rw [show b / 2 ^ 63 = 0 by omega]; omega⟩
  case round =>
    obtain ⟨k, q, r, hk, rfl, rfl, rfl, q0, q1, r0, r1, hinv⟩ := hrel
    have HI := hid hinv
    have HM := hid (most_kilo a b q r k a0 b0 r0 hinv)
    clear hinv
    cases k with
    | zero =>
      have hi := HI.out
      rw [Int.pow_zero, Int.ediv_one] at hi
      have HI2 : Hid (q = S) := by apply hid; rw [HS.out]; omega
      clear hi
      have hk1 : ((0 : Nat) : Int) - 1 = -1 := rfl
      rw [hk1]
      by_cases hq : q ≤ 2100000000000000000
      · go_wp2_with fail
        go_ret2
        rw [show rt S = true from rt_iff.2 ⟨HN.out, by rw [← HI2.out]; exact hq⟩]
        exact ⟨_, rfl, fun _ => HI2.out, HB.out⟩
      · go_wp2_with fail
        go_ret2
        rw [show rt S = false from rt_not.2 (Or.inr (by rw [← HI2.out]; omega))]
        exact ⟨_, rfl, fun h => (by cases h), HB.out⟩
    | succ k =>
      have hk' : ((k + 1 : Nat) : Int) - 1 = (k : Int) := by omega
      rw [hk']
      have hx := and_one (b / 2 ^ k) (Int.ediv_nonneg b0 (Int.pow_nonneg (by omega))) (by have := pow_le b k b0; omega)
      by_cases hq : q ≤ 2100000000000000000
      · rcases (show b / 2 ^ k % 2 = 0 ∨ b / 2 ^ k % 2 = 1 by omega) with hz | hz
        · have HV := hid (bit0_kilo a b q r k b0 HI.out hz)
          rw [hz] at hx
          clear hz
          go_wp2_with fail
          go_round
          case rel => exact ⟨k, _, _, by omega, rfl, rfl, rfl, by omega, by omega, by omega, by omega, HV.out⟩
          case measure => simp [intOf]
        · have HV := hid (bit1_kilo a b q r k b0 HI.out hz)
          rw [hz] at hx
          clear hz
          go_wp2_with fail
          go_round
          case rel => exact ⟨k, _, _, by omega, rfl, rfl, rfl, by omega, by omega, by omega, by omega, HV.out⟩
          case measure => simp [intOf]
      · have HR : Hid (rt S = false) := hid (rt_not.2 (Or.inr (by rw [HS.out]; have := HM.out; omega)))
        go_wp2_with fail
        go_ret2
        rw [HR.out]
        exact ⟨_, rfl, fun h => (by cases h), HB.out⟩

theorem rt_of_rc {a : Int} (h : rc a = true) : rt a = true := rt_iff.2 (by have := rc_iff.1 h; omega)

set_option maxHeartbeats 2000000 in
theorem rfee_any (a b r : Int) (w : World) : Calls Try.prog 21 #[.int .i64 a, .int .i64 b, .int .i64 r] w fun e w' => e = ans (feeO a b r) ∧ Below w.heap.size w w' := by
  cases ha : rt a
  · go_enter Try.func21, Try.ntmps21
    go_wp2_with (go_at_call 16; refine (rright_any _ _).mono ?_; rintro e w' ⟨rfl, rfl⟩)
    go_ret2
    exact ⟨by simp [feeO, ha, val, err], Below.refl _ _⟩
  · cases hb : rt b
    · go_enter Try.func21, Try.ntmps21
      go_wp2_with (go_at_call 16; refine (rright_any _ _).mono ?_; rintro e w' ⟨rfl, rfl⟩)
      go_ret2
      exact ⟨by simp [feeO, hb, val, err], Below.refl _ _⟩
    · cases hr : rt r
      · go_enter Try.func21, Try.ntmps21
        go_wp2_with (go_at_call 16; refine (rright_any _ _).mono ?_; rintro e w' ⟨rfl, rfl⟩)
        go_ret2
        exact ⟨by simp [feeO, hr, val, err], Below.refl _ _⟩
      · have HF : Hid (feeO a b r = if rt (shr a r 1000000) then addO b (shr a r 1000000) else none) := by apply hid; rw [feeO, ha, hb, hr]; rfl
        have HC := hid (fun W => share_mega a r ha hr W)
        generalize shr a r 1000000 = s at HC HF
        cases hs : rt s
        · rw [hs] at HF HC
          go_enter Try.func21, Try.ntmps21
          go_wp2_with (first | (go_at_call 16; refine (rright_any _ _).mono ?_; rintro e w' ⟨rfl, rfl⟩) | fail)
          refine (HC.out _).mono ?_
          rintro e w1 ⟨v, rfl, _, hb1⟩
          have HB1 := hid hb1
          clear hb1
          go_wp2_with fail
          go_ret2
          exact ⟨by rw [HF.out]; rfl, HB1.out⟩
        · rw [hs] at HF HC
          go_enter Try.func21, Try.ntmps21
          go_wp2_with (first | (go_at_call 16; refine (rright_any _ _).mono ?_; rintro e w' ⟨rfl, rfl⟩) | fail)
          refine (HC.out _).mono ?_
          rintro e w1 ⟨v, rfl, hv, hb1⟩
          have HB1 := hid hb1
          obtain rfl := hv trivial
          clear hb1 hv
          go_wp2_with (go_at_call 12; refine (radd_any _ _ _).mono ?_; rintro e w' ⟨rfl, rfl⟩)
          go_ret2
          exact ⟨by rw [HF.out]; rfl, HB1.out⟩

set_option maxHeartbeats 2000000 in
theorem rgross_any (a b r : Int) (w : World) : Calls Try.prog 22 #[.int .i64 a, .int .i64 b, .int .i64 r] w fun e w' => e = ans (grossO a b r) ∧ Below w.heap.size w w' := by
  have hc := fun W => rfee_any a b r W
  have HG : Hid (grossO a b r = (feeO a b r).bind (addO a)) := hid rfl
  cases hf : feeO a b r with
  | none =>
    rw [hf] at hc HG
    have HC : Hid (∀ W, Calls Try.prog 21 #[.int .i64 a, .int .i64 b, .int .i64 r] W fun e w' => e = .returned (.tuple #[.int .i64 0, .int .i64 40]) ∧ Below W.heap.size W w') := hid hc
    clear hc hf
    go_enter Try.func22, Try.ntmps22
    go_wp2_with fail
    refine (HC.out _).mono ?_
    rintro e w1 ⟨rfl, hb1⟩
    have HB1 := hid hb1
    clear hb1
    go_wp2_with fail
    go_ret2
    exact ⟨by rw [HG.out]; rfl, HB1.out⟩
  | some v =>
    rw [hf] at hc HG
    have HC : Hid (∀ W, Calls Try.prog 21 #[.int .i64 a, .int .i64 b, .int .i64 r] W fun e w' => e = .returned (.tuple #[.int .i64 v, .int .i64 0]) ∧ Below W.heap.size W w') := hid hc
    clear hc hf
    go_enter Try.func22, Try.ntmps22
    go_wp2_with fail
    refine (HC.out _).mono ?_
    rintro e w1 ⟨rfl, hb1⟩
    have HB1 := hid hb1
    clear hb1
    go_wp2_with (go_at_call 12; refine (radd_any _ _ _).mono ?_; rintro e w' ⟨rfl, rfl⟩)
    go_ret2
    exact ⟨by rw [HG.out]; rfl, HB1.out⟩

set_option maxHeartbeats 2000000 in
theorem rcost_any (a r : Int) (w : World) : Calls Try.prog 23 #[.int .i64 a, .int .i64 r] w fun e w' => e = ans (costO a r) ∧ Below w.heap.size w w' := by
  cases ha : rc a
  · go_enter Try.func23, Try.ntmps23
    go_wp2_with (go_at_call 33; refine (rcoins_any _ _).mono ?_; rintro e w' ⟨rfl, rfl⟩)
    go_ret2
    exact ⟨by simp [costO, ha, val, err], Below.refl _ _⟩
  · cases hr : rc r
    · go_enter Try.func23, Try.ntmps23
      go_wp2_with (go_at_call 33; refine (rcoins_any _ _).mono ?_; rintro e w' ⟨rfl, rfl⟩)
      go_ret2
      exact ⟨by simp [costO, hr, val, err], Below.refl _ _⟩
    · have HF : Hid (costO a r = if rc (shr a r 1000) then some (shr a r 1000) else none) := by apply hid; rw [costO, ha, hr]; rfl
      have HC := hid (fun W => share_kilo a r (rt_of_rc ha) (rt_of_rc hr) W)
      have HP := hid (shr_nonneg (rc_iff.1 ha).1 (rc_iff.1 hr).1 (u := 1000) (by omega))
      generalize shr a r 1000 = s at HC HF HP
      cases hs : rt s
      · rw [hs] at HC
        have HR : Hid (rc s = false) := hid (by cases h : rc s with | false => rfl | true => rw [rt_of_rc h] at hs; cases hs)
        go_enter Try.func23, Try.ntmps23
        go_wp2_with (first | (go_at_call 33; refine (rcoins_any _ _).mono ?_; rintro e w' ⟨rfl, rfl⟩) | fail)
        refine (HC.out _).mono ?_
        rintro e w1 ⟨v, rfl, _, hb1⟩
        have HB1 := hid hb1
        clear hb1
        go_wp2_with fail
        go_ret2
        exact ⟨by rw [HF.out, HR.out]; rfl, HB1.out⟩
      · rw [hs] at HC
        cases hc : rc s
        · go_enter Try.func23, Try.ntmps23
          go_wp2_with (first | (go_at_call 33; refine (rcoins_any _ _).mono ?_; rintro e w' ⟨rfl, rfl⟩) | fail)
          refine (HC.out _).mono ?_
          rintro e w1 ⟨v, rfl, hv, hb1⟩
          have HB1 := hid hb1
          obtain rfl := hv trivial
          clear hb1 hv
          go_wp2_with (first | (go_at_call 33; refine (rcoins_any _ _).mono ?_; rintro e w' ⟨rfl, rfl⟩) | fail)
          go_ret2
          exact ⟨by rw [HF.out, hc]; rfl, HB1.out⟩
        · go_enter Try.func23, Try.ntmps23
          go_wp2_with (first | (go_at_call 33; refine (rcoins_any _ _).mono ?_; rintro e w' ⟨rfl, rfl⟩) | fail)
          refine (HC.out _).mono ?_
          rintro e w1 ⟨v, rfl, hv, hb1⟩
          have HB1 := hid hb1
          obtain rfl := hv trivial
          clear hb1 hv
          go_wp2_with (first | (go_at_call 33; refine (rcoins_any _ _).mono ?_; rintro e w' ⟨rfl, rfl⟩) | fail)
          go_ret2
          exact ⟨by rw [HF.out, hc]; rfl, HB1.out⟩

set_option maxHeartbeats 2000000 in
theorem rcoin_any (a : Int) (w : World) : Calls Try.prog 26 #[.int .i64 a] w fun e w' => e = .returned (.tuple #[.int .i64 (val (coinsO a)), .int .i64 (val (restO a)), .int .i64 (err (coinsO a))]) ∧ w' = w := by
  cases ha : rt a
  · go_enter Try.func26, Try.ntmps26
    go_wp2_with (go_at_call 16; refine (rright_any _ _).mono ?_; rintro e w' ⟨rfl, rfl⟩)
    exact bodyPost_ret (v := .tuple #[.int .i64 0, .int .i64 0, .int .i64 40]) (by simp [results, Try.results26, go_sem]) rfl ⟨by simp [coinsO, restO, ha, val, err], rfl⟩
  · obtain ⟨a0, a1⟩ := rt_iff.1 ha
    go_enter Try.func26, Try.ntmps26
    go_wp2_with (go_at_call 16; refine (rright_any _ _).mono ?_; rintro e w' ⟨rfl, rfl⟩)
    exact bodyPost_ret (v := .tuple #[.int .i64 (a / 1000), .int .i64 (a % 1000), .int .i64 0]) (by simp [results, Try.results26, go_sem]) rfl ⟨by simp [coinsO, restO, ha, val, err], rfl⟩

set_option maxHeartbeats 2000000 in
theorem rmilli_any (a : Int) (w : World) : Calls Try.prog 27 #[.int .i64 a] w fun e w' => e = ans (milliO a) ∧ w' = w := by
  cases ha : rc a
  · go_enter Try.func27, Try.ntmps27
    go_wp2_with (go_at_call 33; refine (rcoins_any _ _).mono ?_; rintro e w' ⟨rfl, rfl⟩)
    go_ret2
    exact ⟨by simp [milliO, ha, val, err], rfl⟩
  · obtain ⟨a0, a1⟩ := rc_iff.1 ha
    go_enter Try.func27, Try.ntmps27
    go_wp2_with (go_at_call 33; refine (rcoins_any _ _).mono ?_; rintro e w' ⟨rfl, rfl⟩)
    go_ret2
    exact ⟨by simp [milliO, ha, val, err], rfl⟩
end Go.Proofs.Ytdgmnfhfnhiloaa
