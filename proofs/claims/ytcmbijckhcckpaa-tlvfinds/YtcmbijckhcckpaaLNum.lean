/- The law TlvNumbers. -/
import Derived.Test.YtcmbijckhcckpaaWork
namespace Go.Proofs.Ytcmbijckhcckpaa
open Go.RowKit

theorem two_below {w0 w1 w2 : World} (h1 : Below w0.heap.size w0 w1) (h2 : Below w1.heap.size w1 w2) : Below w0.heap.size w0 w2 := h1.trans (h2.mono h1.size)

theorem below_drew {B : Nat} {w0 w : World} (h : Below B w0 w) : Below B w0 w.drew := ⟨h.os, h.tape, h.output, h.size, h.block⟩

set_option maxRecDepth 100000 in
set_option maxHeartbeats 4000000 in
theorem numbers_any (w : World) (n : Nat) (hn : n < 18446744073709551616) (v : Value) (b : Bs) (hb : Sl w v b) :
    Calls Try.prog 3 #[.int .u64 (n : Int), v] w fun e w' => e = .returned (.bool true) ∧ Below w.heap.size w w' := by
  obtain ⟨ao, cap, rfl⟩ := hb.shape
  have HG := hid (fun W hb' hbm => get_any b W _ (hb.below (w' := W) hb') hbm)
  have HR := hid (fun W hb' hbm => rget_any b W _ (hb.below (w' := W) hb') hbm)
  have HP := hid (fun W => put12_any n hn W)
  have HQ := hid (fun W => rput_any n hn W)
  clear hb
  generalize b.length = m at *
  by_cases hbig : 3000 < m
  · have hbig' : (3000 : Int) < (m : Int) := by omega
    go_enter Try.func3, Try.ntmps3
    go_wp2_with fail
    refine (works_any _).mono ?_
    rintro e w1 ⟨rfl, hb1⟩
    have HB1 := hid hb1
    clear hb1
    go_wp2_with fail
    go_ret
    exact ⟨rfl, HB1.out⟩
  · have hbig' : ¬ (3000 : Int) < (m : Int) := by omega
    generalize getB b = gb at *
    obtain ⟨g1, g2, g3⟩ := gb
    generalize putB n = x at *
    go_enter Try.func3, Try.ntmps3
    go_wp2_with fail
    refine (HG.out _ (Below.refl _ _) (by omega)).mono ?_
    rintro e w1 ⟨rfl, hw1⟩
    subst hw1
    go_wp2_with fail
    refine (HR.out _ (Below.refl _ _) (by omega)).mono ?_
    rintro e w2 ⟨rfl, hb2⟩
    have HB2 := hid hb2
    clear hb2 HG HR
    go_upto_region 5 with (fail)
    obtain ⟨xl, hxl⟩ : ∃ k, k = x.length := ⟨_, rfl⟩
    rw [← hxl] at HP HQ
    have HXL := hid hxl
    clear hxl
    go_region_held (fun _ => True) (trivial) (first | (go_at_call 12; refine (HP.out _).mono ?_; rintro e w3 ⟨a3, c3, rfl, ho3, hb3⟩; have HS3 := hid (Sl.own ho3 HXL.out); have HB3 := hid hb3; have q3 := (Sl.own ho3 HXL.out).string; clear ho3 hb3) | (go_at_call 13; refine (HQ.out _).mono ?_; rintro e w4 ⟨a4, c4, rfl, ho4, hb4⟩; have HB4 := hid hb4; have q4 := (Sl.own ho4 HXL.out).string; have q5 := (HS3.out.below hb4).string; clear ho4 hb4) | (go_at_call 9; refine (works_any _).mono ?_; rintro e w5 ⟨rfl, hb5⟩; have HB5 := hid hb5; clear hb5))
    all_goals
      go_wp2_with fail
      go_ret
      exact ⟨rfl, two_below (below_drew HB2.out) (two_below HB3.out (two_below HB4.out HB5.out))⟩
end Go.Proofs.Ytcmbijckhcckpaa
