/- The small functions, of both sides. -/
import Derived.Test.YtdgmnfhfnhiloaaProg
import Derived.Test.YtdgmnfhfnhiloaaMath
import Derived.WalkKit
import Derived.WalkSpells
import Derived.WalkLawsBesides
import Derived.Deep.QuietTactic
import Derived.BigQuiet
import Derived.Deep.LoopGhost
namespace Go.Proofs.Ytdgmnfhfnhiloaa
open Go.RowKit

/-- a fact kept from the walk -/
theorem hid {p : Prop} (h : p) : Hid p := h

/-- what is answered, as a value -/
abbrev ans (o : Option Int) : Ending := .returned (.tuple #[.int .i64 (val o), .int .i64 (err o)])
/-- a whole number of 64 bits -/
def I64 (a : Int) : Prop := -9223372036854775808 ≤ a ∧ a ≤ 9223372036854775807

set_option maxHeartbeats 400000 in
theorem right_any (a : Int) (w : World) : Calls Try.prog 15 #[.int .i64 a] w fun e w' => e = .returned (.bool (rt a)) ∧ w' = w := by
  by_cases h0 : 0 ≤ a
  · by_cases h1 : a ≤ 2100000000000000000
    · go_enter Try.func15, Try.ntmps15
      go_wp2
      go_ret
      exact ⟨by rw [rt_iff.2 ⟨h0, h1⟩]; rfl, rfl⟩
    · go_enter Try.func15, Try.ntmps15
      go_wp2
      go_ret
      exact ⟨by rw [rt_not.2 (by omega)]; rfl, rfl⟩
  · go_enter Try.func15, Try.ntmps15
    go_wp2
    go_ret
    exact ⟨by rw [rt_not.2 (by omega)]; rfl, rfl⟩

set_option maxHeartbeats 400000 in
theorem rright_any (a : Int) (w : World) : Calls Try.prog 16 #[.int .i64 a] w fun e w' => e = .returned (.bool (rt a)) ∧ w' = w := by
  by_cases h0 : 0 ≤ a
  · by_cases h1 : a ≤ 2100000000000000000
    · go_enter Try.func16, Try.ntmps16
      go_wp2
      go_ret
      exact ⟨by rw [rt_iff.2 ⟨h0, h1⟩]; rfl, rfl⟩
    · go_enter Try.func16, Try.ntmps16
      go_wp2
      go_ret
      exact ⟨by rw [rt_not.2 (by omega)]; rfl, rfl⟩
  · go_enter Try.func16, Try.ntmps16
    go_wp2
    go_ret
    exact ⟨by rw [rt_not.2 (by omega)]; rfl, rfl⟩

set_option maxHeartbeats 400000 in
theorem coins_any (a : Int) (w : World) : Calls Try.prog 31 #[.int .i64 a] w fun e w' => e = .returned (.bool (rc a)) ∧ w' = w := by
  by_cases h0 : 0 ≤ a
  · by_cases h1 : a ≤ 2100000000000000
    · go_enter Try.func31, Try.ntmps31
      go_wp2
      go_ret
      exact ⟨by rw [rc_iff.2 ⟨h0, h1⟩]; rfl, rfl⟩
    · go_enter Try.func31, Try.ntmps31
      go_wp2
      go_ret
      exact ⟨by rw [rc_not.2 (by omega)]; rfl, rfl⟩
  · go_enter Try.func31, Try.ntmps31
    go_wp2
    go_ret
    exact ⟨by rw [rc_not.2 (by omega)]; rfl, rfl⟩

set_option maxHeartbeats 400000 in
theorem rcoins_any (a : Int) (w : World) : Calls Try.prog 33 #[.int .i64 a] w fun e w' => e = .returned (.bool (rc a)) ∧ w' = w := by
  by_cases h0 : 0 ≤ a
  · by_cases h1 : a ≤ 2100000000000000
    · go_enter Try.func33, Try.ntmps33
      go_wp2
      go_ret
      exact ⟨by rw [rc_iff.2 ⟨h0, h1⟩]; rfl, rfl⟩
    · go_enter Try.func33, Try.ntmps33
      go_wp2
      go_ret
      exact ⟨by rw [rc_not.2 (by omega)]; rfl, rfl⟩
  · go_enter Try.func33, Try.ntmps33
    go_wp2
    go_ret
    exact ⟨by rw [rc_not.2 (by omega)]; rfl, rfl⟩

set_option maxHeartbeats 1000000 in
theorem sub_any (a b : Int) (w : World) : Calls Try.prog 10 #[.int .i64 a, .int .i64 b] w fun e w' => e = ans (subO a b) ∧ w' = w := by
  cases ha : rt a
  · go_enter Try.func10, Try.ntmps10
    go_wp2_with (go_at_call 15; refine (right_any _ _).mono ?_; rintro e w' ⟨rfl, rfl⟩)
    go_ret2
    exact ⟨by rw [subO_no (by simp [ha])]; rfl, rfl⟩
  · cases hb : rt b
    · go_enter Try.func10, Try.ntmps10
      go_wp2_with (go_at_call 15; refine (right_any _ _).mono ?_; rintro e w' ⟨rfl, rfl⟩)
      go_ret2
      exact ⟨by rw [subO_no (by simp [hb])]; rfl, rfl⟩
    · obtain ⟨ha0, ha1⟩ := rt_iff.1 ha
      obtain ⟨hb0, hb1⟩ := rt_iff.1 hb
      by_cases h : a < b
      · go_enter Try.func10, Try.ntmps10
        go_wp2_with (go_at_call 15; refine (right_any _ _).mono ?_; rintro e w' ⟨rfl, rfl⟩)
        go_ret2
        exact ⟨by rw [subO_no (by simp [h])]; rfl, rfl⟩
      · go_enter Try.func10, Try.ntmps10
        go_wp2_with (go_at_call 15; refine (right_any _ _).mono ?_; rintro e w' ⟨rfl, rfl⟩)
        go_ret2
        exact ⟨by rw [subO_yes ha hb (by omega)]; rfl, rfl⟩
end Go.Proofs.Ytdgmnfhfnhiloaa
