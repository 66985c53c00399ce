/- Words: products, quotients, and what is no greater than a bound. -/
import Derived.Test.YtdgmnfhfnhiloaaDiv
namespace Go.Proofs.Ytdgmnfhfnhiloaa
open Go.RowKit

theorem below_setCell {w0 w : World} {g o : Nat} {v : Value} (h : Below w0.heap.size w0 w) (hg : w0.heap.size ≤ g) : Below w0.heap.size w0 (w.setCell ⟨g, o, none⟩ v) :=
  ⟨h.os, h.tape, h.output, by simpa [World.setCell] using h.size, fun k hk => by rw [Below.heap_setCell _ _ _ _ (by show k ≠ g; omega)]; exact h.block k hk⟩
theorem cell_of_heap {w : World} {b : Nat} {cs : Array Value} {t : TypeId} (h : w.heap[b]? = some (.cells cs t (0, 0))) (o : Nat) : w.cell? ⟨b, o, none⟩ = cs[o]? := by
  simp [World.cell?, h]
theorem frozen_of_heap {w : World} {b : Nat} {cs : Array Value} {t : TypeId} (h : w.heap[b]? = some (.cells cs t (0, 0))) (o : Nat) : w.frozen? ⟨b, o, none⟩ = false := by
  simp [World.frozen?, h]

set_option maxHeartbeats 2000000 in
theorem multiply_any (a b : Int) (ha : 0 ≤ a) (ha1 : a < 9223372036854775808) (hb : 0 ≤ b) (hb1 : b < 9223372036854775808) (w : World) :
    Calls Try.prog 28 #[.int .i64 a, .int .i64 b] w fun e w' => e = .returned (.agg #[.int .u64 (a * b / 18446744073709551616), .int .u64 (a * b % 18446744073709551616)]) ∧ Below w.heap.size w w' := by
  have HC : Hid (∀ W, Calls Try.prog 34 #[.int .u64 a, .int .u64 b] W fun e w' => e = .returned (.tuple #[.int .u64 (a * b / 18446744073709551616), .int .u64 (a * b % 18446744073709551616)]) ∧ w' = W) := by
    apply hid
    intro W
    have h := mul64_any a.toNat b.toNat (by omega) (by omega) W
    rw [show ((a.toNat * b.toNat / 18446744073709551616 : Nat) : Int) = a * b / 18446744073709551616 by rw [Int.natCast_ediv, Int.natCast_mul, show ((a.toNat : Nat) : Int) = a by omega, show ((b.toNat : Nat) : Int) = b by omega]; rfl,
      show ((a.toNat * b.toNat % 18446744073709551616 : Nat) : Int) = a * b % 18446744073709551616 by rw [Int.natCast_emod, Int.natCast_mul, show ((a.toNat : Nat) : Int) = a by omega, show ((b.toNat : Nat) : Int) = b by omega]; rfl,
      show ((a.toNat : Nat) : Int) = a by omega, show ((b.toNat : Nat) : Int) = b by omega] at h
    exact h
  generalize a * b / 18446744073709551616 = hi at HC ⊢
  generalize a * b % 18446744073709551616 = lo at HC ⊢
  go_enter Try.func28, Try.ntmps28
  go_wp2_with (go_at_call 34; refine (HC.out _).mono ?_; rintro e w' ⟨rfl, rfl⟩)
  exact bodyPost_ret (v := .agg #[.int .u64 hi, .int .u64 lo]) (by simp [results, Try.results28, go_sem]) rfl ⟨rfl, below_alloc_self' _ _⟩

set_option maxHeartbeats 2000000 in
theorem over_mega (hi lo : Int) (h0 : 0 ≤ hi) (h1 : hi < 18446744073709551616) (l0 : 0 ≤ lo) (l1 : lo < 18446744073709551616) (w : World) :
    Calls Try.prog 29 #[.agg #[.int .u64 hi, .int .u64 lo], .int .u64 1000000] w fun e w' => e = .returned (.agg #[.int .u64 (hi / 1000000), .int .u64 ((hi % 1000000 * 18446744073709551616 + lo) / 1000000)]) ∧ Below w.heap.size w w' := by
  have HC : Hid (∀ W, Calls Try.prog 35 #[.int .u64 (hi % 1000000), .int .u64 lo, .int .u64 1000000] W fun e w' => ∃ r, e = .returned (.tuple #[.int .u64 ((hi % 1000000 * 18446744073709551616 + lo) / 1000000), .int .u64 r]) ∧ Below W.heap.size W w') :=
    hid fun W => div_mega (hi % 1000000) lo (by omega) (by omega) l0 l1 W
  generalize (hi % 1000000 * 18446744073709551616 + lo) / 1000000 = q at HC ⊢
  go_enter Try.func29, Try.ntmps29
  go_wp2_with fail
  go_quiet (fail)
  go_wp2_with fail
  have HG : Hid ((((w.alloc (.cells #[.int .u64 hi, .int .u64 lo] 40)).alloc (.cells #[.int .u64 0, .int .u64 0] 40)).drewN nq).heap[w.heap.size + 1]? = some (.cells #[.int .u64 0, .int .u64 0] 40 (0, 0))) := by
    apply hid
    have := heap_alloc_new (w.alloc (.cells #[.int .u64 hi, .int .u64 lo] 40)) (.cells #[.int .u64 0, .int .u64 0] 40)
    rw [show (w.alloc (.cells #[.int .u64 hi, .int .u64 lo] 40)).heap.size = w.heap.size + 1 by simp] at this
    exact this
  have HB0 : Hid (Below w.heap.size w (((w.alloc (.cells #[.int .u64 hi, .int .u64 lo] 40)).alloc (.cells #[.int .u64 0, .int .u64 0] 40)).drewN nq)) :=
    hid (below_to_drewN ((below_alloc_self' w _).alloc (by simp) _) nq)
  have HS : Hid (w.heap.size + 1 < (((w.alloc (.cells #[.int .u64 hi, .int .u64 lo] 40)).alloc (.cells #[.int .u64 0, .int .u64 0] 40)).drewN nq).heap.size) := by
    apply hid; show _ < ((w.alloc (.cells #[.int .u64 hi, .int .u64 lo] 40)).alloc (.cells #[.int .u64 0, .int .u64 0] 40)).heap.size; simp
  generalize ((w.alloc (.cells #[.int .u64 hi, .int .u64 lo] 40)).alloc (.cells #[.int .u64 0, .int .u64 0] 40)).drewN nq = w0 at HG HB0 HS ⊢
  refine (HC.out w0).mono ?_
  rintro e w1 ⟨r, rfl, hb⟩
  have HG1 : Hid (w1.heap[w.heap.size + 1]? = some (.cells #[.int .u64 0, .int .u64 0] 40 (0, 0))) := hid ((hb.block _ HS.out).trans HG.out)
  have HB1 : Hid (Below w.heap.size w w1) := hid (HB0.out.trans (hb.mono HB0.out.size))
  have c0 : w1.cell? ⟨w.heap.size + 1, 0, none⟩ = some (.int .u64 0) := by rw [cell_of_heap HG1.out]; rfl
  have c1 : w1.cell? ⟨w.heap.size + 1, 1, none⟩ = some (.int .u64 0) := by rw [cell_of_heap HG1.out]; rfl
  have hf : ∀ o, w1.frozen? ⟨w.heap.size + 1, o, none⟩ = false := fun o => frozen_of_heap HG1.out o
  clear hb HG HS HB0 HC
  go_wp2_with fail
  refine bodyPost_ret (v := .agg #[.int .u64 (hi / 1000000), .int .u64 q]) (by simp [results, Try.results29, go_sem, c0, c1]) rfl ⟨rfl, ?_⟩
  exact below_setCell (below_setCell HB1.out (by omega)) (by omega)

set_option maxHeartbeats 2000000 in
theorem over_kilo (hi lo : Int) (h0 : 0 ≤ hi) (h1 : hi < 18446744073709551616) (l0 : 0 ≤ lo) (l1 : lo < 18446744073709551616) (w : World) :
    Calls Try.prog 29 #[.agg #[.int .u64 hi, .int .u64 lo], .int .u64 1000] w fun e w' => e = .returned (.agg #[.int .u64 (hi / 1000), .int .u64 ((hi % 1000 * 18446744073709551616 + lo) / 1000)]) ∧ Below w.heap.size w w' := by
  have HC : Hid (∀ W, Calls Try.prog 35 #[.int .u64 (hi % 1000), .int .u64 lo, .int .u64 1000] W fun e w' => ∃ r, e = .returned (.tuple #[.int .u64 ((hi % 1000 * 18446744073709551616 + lo) / 1000), .int .u64 r]) ∧ Below W.heap.size W w') :=
    hid fun W => div_kilo (hi % 1000) lo (by omega) (by omega) l0 l1 W
  generalize (hi % 1000 * 18446744073709551616 + lo) / 1000 = q at HC ⊢
  go_enter Try.func29, Try.ntmps29
  go_wp2_with fail
  go_quiet (fail)
  go_wp2_with fail
  have HG : Hid ((((w.alloc (.cells #[.int .u64 hi, .int .u64 lo] 40)).alloc (.cells #[.int .u64 0, .int .u64 0] 40)).drewN nq).heap[w.heap.size + 1]? = some (.cells #[.int .u64 0, .int .u64 0] 40 (0, 0))) := by
    apply hid
    have := heap_alloc_new (w.alloc (.cells #[.int .u64 hi, .int .u64 lo] 40)) (.cells #[.int .u64 0, .int .u64 0] 40)
    rw [show (w.alloc (.cells #[.int .u64 hi, .int .u64 lo] 40)).heap.size = w.heap.size + 1 by simp] at this
    exact this
  have HB0 : Hid (Below w.heap.size w (((w.alloc (.cells #[.int .u64 hi, .int .u64 lo] 40)).alloc (.cells #[.int .u64 0, .int .u64 0] 40)).drewN nq)) :=
    hid (below_to_drewN ((below_alloc_self' w _).alloc (by simp) _) nq)
  have HS : Hid (w.heap.size + 1 < (((w.alloc (.cells #[.int .u64 hi, .int .u64 lo] 40)).alloc (.cells #[.int .u64 0, .int .u64 0] 40)).drewN nq).heap.size) := by
    apply hid; show _ < ((w.alloc (.cells #[.int .u64 hi, .int .u64 lo] 40)).alloc (.cells #[.int .u64 0, .int .u64 0] 40)).heap.size; simp
  generalize ((w.alloc (.cells #[.int .u64 hi, .int .u64 lo] 40)).alloc (.cells #[.int .u64 0, .int .u64 0] 40)).drewN nq = w0 at HG HB0 HS ⊢
  refine (HC.out w0).mono ?_
  rintro e w1 ⟨r, rfl, hb⟩
  have HG1 : Hid (w1.heap[w.heap.size + 1]? = some (.cells #[.int .u64 0, .int .u64 0] 40 (0, 0))) := hid ((hb.block _ HS.out).trans HG.out)
  have HB1 : Hid (Below w.heap.size w w1) := hid (HB0.out.trans (hb.mono HB0.out.size))
  have c0 : w1.cell? ⟨w.heap.size + 1, 0, none⟩ = some (.int .u64 0) := by rw [cell_of_heap HG1.out]; rfl
  have c1 : w1.cell? ⟨w.heap.size + 1, 1, none⟩ = some (.int .u64 0) := by rw [cell_of_heap HG1.out]; rfl
  have hf : ∀ o, w1.frozen? ⟨w.heap.size + 1, o, none⟩ = false := fun o => frozen_of_heap HG1.out o
  clear hb HG HS HB0 HC
  go_wp2_with fail
  refine bodyPost_ret (v := .agg #[.int .u64 (hi / 1000), .int .u64 q]) (by simp [results, Try.results29, go_sem, c0, c1]) rfl ⟨rfl, ?_⟩
  exact below_setCell (below_setCell HB1.out (by omega)) (by omega)

/-- what is no greater than a bound -/
def upO (hi lo m : Int) : Option Int := if hi = 0 ∧ lo ≤ m then some lo else none

set_option maxHeartbeats 2000000 in
theorem upto_any (hi lo m : Int) (l0 : 0 ≤ lo) (m0 : 0 ≤ m) (m1 : m < 9223372036854775808) (w : World) :
    Calls Try.prog 30 #[.agg #[.int .u64 hi, .int .u64 lo], .int .i64 m] w fun e w' => e = ans (upO hi lo m) ∧ Below w.heap.size w w' := by
  by_cases h : hi = 0
  · subst h
    by_cases hl : lo ≤ m
    · go_enter Try.func30, Try.ntmps30
      go_wp2_with fail
      go_ret2
      exact ⟨by rw [upO, if_pos ⟨rfl, hl⟩]; rfl, below_alloc_self' _ _⟩
    · go_enter Try.func30, Try.ntmps30
      go_wp2_with fail
      go_ret2
      exact ⟨by rw [upO, if_neg (fun g => by omega)]; rfl, below_alloc_self' _ _⟩
  · go_enter Try.func30, Try.ntmps30
    go_wp2_with fail
    go_ret2
    exact ⟨by rw [upO, if_neg (fun g => h g.1)]; rfl, below_alloc_self' _ _⟩

theorem split_over (N y : Int) (hy : 0 < y) (_hN : 0 ≤ N) : N / y = N / 18446744073709551616 / y * 18446744073709551616 + (N / 18446744073709551616 % y * 18446744073709551616 + N % 18446744073709551616) / y := by
  have e : N = y * (N / 18446744073709551616 / y * 18446744073709551616) + (N / 18446744073709551616 % y * 18446744073709551616 + N % 18446744073709551616) := by
    have h1 := Int.mul_ediv_add_emod N 18446744073709551616
    have h2 := Int.mul_ediv_add_emod (N / 18446744073709551616) y
    generalize N / 18446744073709551616 = q at h1 h2 ⊢
    rw [← Int.mul_assoc]
    generalize y * (q / y) = t at h2 ⊢
    omega
  conv => lhs; rw [e]
  rw [Int.add_comm, Int.add_mul_ediv_left _ _ (by omega), Int.add_comm]
theorem split_lt (N y : Int) (hy : 0 < y) (_hN : 0 ≤ N) : 0 ≤ (N / 18446744073709551616 % y * 18446744073709551616 + N % 18446744073709551616) / y ∧ (N / 18446744073709551616 % y * 18446744073709551616 + N % 18446744073709551616) / y < 18446744073709551616 := by
  have h1 := Int.emod_nonneg (N / 18446744073709551616) (show y ≠ 0 by omega)
  have h2 := Int.emod_lt_of_pos (N / 18446744073709551616) hy
  generalize N / 18446744073709551616 % y = r at h1 h2 ⊢
  constructor
  · exact Int.ediv_nonneg (by omega) (by omega)
  · apply Int.ediv_lt_of_lt_mul hy
    rw [Int.mul_comm]
    have : (r + 1) * 18446744073709551616 ≤ y * 18446744073709551616 := Int.mul_le_mul_of_nonneg_right (by omega) (by omega)
    omega
theorem up_share (N y m : Int) (hy : 0 < y) (hN : 0 ≤ N) (hm : m < 18446744073709551616) :
    upO (N / 18446744073709551616 / y) ((N / 18446744073709551616 % y * 18446744073709551616 + N % 18446744073709551616) / y) m = if N / y ≤ m then some (N / y) else none := by
  have h1 := split_over N y hy hN
  have h2 := split_lt N y hy hN
  have h3 : 0 ≤ N / 18446744073709551616 / y := Int.ediv_nonneg (Int.ediv_nonneg hN (by omega)) (by omega)
  rw [h1]
  generalize (N / 18446744073709551616 % y * 18446744073709551616 + N % 18446744073709551616) / y = b at h2 ⊢
  generalize N / 18446744073709551616 / y = a at h3 ⊢
  unfold upO
  by_cases h : a = 0
  · subst h; simp
  · rw [if_neg (fun g => h g.1), if_neg (by omega)]
end Go.Proofs.Ytdgmnfhfnhiloaa
