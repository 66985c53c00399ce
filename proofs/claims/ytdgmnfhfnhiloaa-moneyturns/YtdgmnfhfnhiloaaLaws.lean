/- The short calls that stand in each statement; MoneyFees as a call. -/
import Derived.Test.YtdgmnfhfnhiloaaShare
namespace Go.Proofs.Ytdgmnfhfnhiloaa
open Go.RowKit

theorem w_fee (w : World) : Calls Try.prog 18 #[.int .i64 1000000, .int .i64 1000, .int .i64 100] w fun e w' => e = .returned (.tuple #[.int .i64 1100, .int .i64 0]) ∧ Below w.heap.size w w' := fee_any 1000000 1000 100 w
theorem w_gross (w : World) : Calls Try.prog 19 #[.int .i64 1000000, .int .i64 1000, .int .i64 100] w fun e w' => e = .returned (.tuple #[.int .i64 1001100, .int .i64 0]) ∧ Below w.heap.size w w' := gross_any 1000000 1000 100 w
theorem w_cost (w : World) : Calls Try.prog 20 #[.int .i64 253, .int .i64 724] w fun e w' => e = .returned (.tuple #[.int .i64 183, .int .i64 0]) ∧ Below w.heap.size w w' := cost_any 253 724 w
theorem w_sum (w : World) : Calls Try.prog 11 #[.slice (some ⟨w.heap.size, 0, none⟩) 3 3] (w.alloc (.cells #[.int .i64 1, .int .i64 2, .int .i64 3] 2)) fun e w' => e = .returned (.tuple #[.int .i64 6, .int .i64 0]) ∧ Below w.heap.size w w' := by
  refine (sum_any _ _ 3 [1, 2, 3] (li_new w [1, 2, 3] 3 rfl) (by simp)).mono ?_
  rintro e w' ⟨rfl, rfl⟩
  exact ⟨rfl, below_alloc_self' w _⟩
theorem w_right (w : World) : Calls Try.prog 15 #[.int .i64 0] w fun e w' => e = .returned (.bool true) ∧ Below w.heap.size w w' := by
  refine (right_any 0 w).mono ?_
  rintro e w' ⟨rfl, rfl⟩
  exact ⟨rfl, Below.refl _ _⟩

set_option maxHeartbeats 2000000 in
theorem works_any (w : World) : Calls Try.prog 17 #[] w fun e w' => e = .returned (.bool true) ∧ Below w.heap.size w w' := by
  go_enter Try.func17, Try.ntmps17
  go_wp2_with fail
  refine (w_fee _).mono ?_
  rintro e w1 ⟨rfl, hb⟩
  have HB1 := hid hb
  clear hb
  go_wp2_with fail
  refine (w_gross _).mono ?_
  rintro e w2 ⟨rfl, hb⟩
  have HB2 := hid (HB1.out.trans (hb.mono HB1.out.size))
  clear hb HB1
  go_wp2_with fail
  refine (w_cost _).mono ?_
  rintro e w3 ⟨rfl, hb⟩
  have HB3 := hid (HB2.out.trans (hb.mono HB2.out.size))
  clear hb HB2
  go_wp2_with fail
  refine (w_sum _).mono ?_
  rintro e w4 ⟨rfl, hb⟩
  have HB4 := hid (HB3.out.trans (hb.mono HB3.out.size))
  clear hb HB3
  go_wp2_with fail
  refine (w_right _).mono ?_
  rintro e w5 ⟨rfl, hb⟩
  have HB5 := hid (HB4.out.trans (hb.mono HB4.out.size))
  clear hb HB4
  go_wp2_with fail
  go_ret
  exact ⟨rfl, HB5.out⟩

set_option maxHeartbeats 2000000 in
theorem fees_any (a b r : Int) (w : World) : Calls Try.prog 4 #[.int .i64 a, .int .i64 b, .int .i64 r] w fun e w' => e = .returned (.bool true) ∧ Below w.heap.size w w' := by
  have H1 := hid (fun W => fee_any a b r W)
  have H2 := hid (fun W => gross_any a b r W)
  have H3 := hid (fun W => cost_any a r W)
  have H4 := hid (fun W => rfee_any a b r W)
  have H5 := hid (fun W => rgross_any a b r W)
  have H6 := hid (fun W => rcost_any a r W)
  generalize feeO a b r = o1 at H1 H4
  generalize grossO a b r = o2 at H2 H5
  generalize costO a r = o3 at H3 H6
  unfold ans at H1 H2 H3 H4 H5 H6
  generalize val o1 = v1 at H1 H4
  generalize err o1 = e1 at H1 H4
  generalize val o2 = v2 at H2 H5
  generalize err o2 = e2 at H2 H5
  generalize val o3 = v3 at H3 H6
  generalize err o3 = e3 at H3 H6
  go_enter Try.func4, Try.ntmps4
  go_wp2_with fail
  refine (H1.out _).mono ?_
  rintro e w1 ⟨rfl, hb⟩
  have HB1 := hid hb
  clear hb
  go_wp2_with fail
  refine (H2.out _).mono ?_
  rintro e w2 ⟨rfl, hb⟩
  have HB2 := hid (HB1.out.trans (hb.mono HB1.out.size))
  clear hb HB1
  go_wp2_with fail
  refine (H3.out _).mono ?_
  rintro e w3 ⟨rfl, hb⟩
  have HB3 := hid (HB2.out.trans (hb.mono HB2.out.size))
  clear hb HB2
  go_wp2_with fail
  refine (H4.out _).mono ?_
  rintro e w4 ⟨rfl, hb⟩
  have HB4 := hid (HB3.out.trans (hb.mono HB3.out.size))
  clear hb HB3
  go_wp2_with fail
  refine (H5.out _).mono ?_
  rintro e w5 ⟨rfl, hb⟩
  have HB5 := hid (HB4.out.trans (hb.mono HB4.out.size))
  clear hb HB4
  go_wp2_with fail
  refine (H6.out _).mono ?_
  rintro e w6 ⟨rfl, hb⟩
  have HB6 := hid (HB5.out.trans (hb.mono HB5.out.size))
  clear hb HB5
  go_wp2_with fail
  refine (works_any _).mono ?_
  rintro e w7 ⟨rfl, hb⟩
  have HB7 := hid (HB6.out.trans (hb.mono HB6.out.size))
  clear hb HB6
  go_wp2_with fail
  go_ret
  exact ⟨rfl, HB7.out⟩
end Go.Proofs.Ytdgmnfhfnhiloaa
