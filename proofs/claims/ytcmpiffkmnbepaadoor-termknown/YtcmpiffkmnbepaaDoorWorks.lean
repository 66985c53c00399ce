/- What the short calls that stand in each statement answer. -/
import Derived.Test.YtcmpiffkmnbepaaDoorAskB
namespace Go.Proofs.YtcmpiffkmnbepaaDoor
open Go.RowKit

theorem cl_name : bRes 110 (dig1 7 ++ [59]) [] = ([110, 55, 59], 0) := by decide +kernel
theorem cl_pub : pubRes [110, 55, 59] = ([80, 110, 55, 59], 0) := by decide +kernel
theorem cl_text : bRes 116 (dig1 2 ++ [58] ++ [97, 98]) [] = ([116, 50, 58, 97, 98], 0) := by decide +kernel
theorem cl_sign : bRes 83 [] [[110, 55, 59], [116, 50, 58, 97, 98]] = ([83, 110, 55, 59, 116, 50, 58, 97, 98], 0) := by decide +kernel
theorem cl_box : bRes 66 [] [[110, 55, 59], [116, 50, 58, 97, 98]] = ([66, 110, 55, 59, 116, 50, 58, 97, 98], 0) := by decide +kernel
theorem cl_unbox : unboxRes [110, 55, 59] [66, 110, 55, 59, 116, 50, 58, 97, 98] = ([116, 50, 58, 97, 98], true) := by decide +kernel
theorem cl_verify : verifyRes [80, 110, 55, 59] [116, 50, 58, 97, 98] [83, 110, 55, 59, 116, 50, 58, 97, 98] = true := by decide +kernel
theorem cl_verify2 : verifyRes [110, 55, 59] [116, 50, 58, 97, 98] [83, 110, 55, 59, 116, 50, 58, 97, 98] = false := by decide +kernel
theorem cl_deep : Tm.deep [83, 110, 55, 59, 116, 50, 58, 97, 98] = 2 := by decide +kernel
theorem cl_deep2 : Tm.deep [116, 50, 58, 97, 98] = 1 := by decide +kernel

theorem w_name (w : World) : Calls Tryd.prog 21 #[.int .i64 7] w fun en w' => en = made ([110, 55, 59], 0) ∧ Below w.heap.size w w' := by
  have := name_digit 7 w (by omega)
  rw [cl_name] at this
  exact this
theorem w_pub (w : World) : Calls Tryd.prog 33 #[St [110, 55, 59]] w fun en w' => en = made ([80, 110, 55, 59], 0) ∧ Below w.heap.size w w' := by
  have := pubs_any [110, 55, 59] w
  rw [cl_pub] at this
  exact this
theorem w_text (w : World) : Calls Tryd.prog 23 #[St [97, 98]] w fun en w' => en = made ([116, 50, 58, 97, 98], 0) ∧ Below w.heap.size w w' := by
  have := text_digit [97, 98] w (by decide)
  rw [show bRes 116 (dig1 ([97, 98] : Bs).length ++ [58] ++ [97, 98]) [] = _ from cl_text] at this
  exact this
theorem w_sign (w : World) : Calls Tryd.prog 31 #[St [110, 55, 59], St [116, 50, 58, 97, 98]] w fun en w' => en = made ([83, 110, 55, 59, 116, 50, 58, 97, 98], 0) ∧ Below w.heap.size w w' := by
  have := sign_any [110, 55, 59] [116, 50, 58, 97, 98] w
  rw [cl_sign] at this
  exact this
theorem w_box (w : World) : Calls Tryd.prog 32 #[St [110, 55, 59], St [116, 50, 58, 97, 98]] w fun en w' => en = made ([66, 110, 55, 59, 116, 50, 58, 97, 98], 0) ∧ Below w.heap.size w w' := by
  have := box_any [110, 55, 59] [116, 50, 58, 97, 98] w
  rw [cl_box] at this
  exact this
theorem w_unbox (w : World) : Calls Tryd.prog 43 #[St [110, 55, 59], St [66, 110, 55, 59, 116, 50, 58, 97, 98]] w fun en w' => en = asked2 ([116, 50, 58, 97, 98], true) ∧ Below w.heap.size w w' := by
  have := unbox_any [110, 55, 59] [66, 110, 55, 59, 116, 50, 58, 97, 98] w
  rw [cl_unbox] at this
  exact this
theorem w_verify (w : World) : Calls Tryd.prog 45 #[St [80, 110, 55, 59], St [116, 50, 58, 97, 98], St [83, 110, 55, 59, 116, 50, 58, 97, 98]] w fun en w' => en = .returned (.bool true) ∧ Below w.heap.size w w' := by
  have := verify_any [80, 110, 55, 59] [116, 50, 58, 97, 98] [83, 110, 55, 59, 116, 50, 58, 97, 98] w
  rw [cl_verify] at this
  exact this
theorem w_verify2 (w : World) : Calls Tryd.prog 45 #[St [110, 55, 59], St [116, 50, 58, 97, 98], St [83, 110, 55, 59, 116, 50, 58, 97, 98]] w fun en w' => en = .returned (.bool false) ∧ Below w.heap.size w w' := by
  have := verify_any [110, 55, 59] [116, 50, 58, 97, 98] [83, 110, 55, 59, 116, 50, 58, 97, 98] w
  rw [cl_verify2] at this
  exact this
theorem w_right (w : World) : Calls Tryd.prog 15 #[St [83, 110, 55, 59, 116, 50, 58, 97, 98]] w fun en w' => en = .returned (.bool true) ∧ Below w.heap.size w w' := by
  have := right_list [83, 110, 55, 59, 116, 50, 58, 97, 98] w
  rw [cl_deep] at this
  exact this
theorem w_deep (w : World) : Calls Tryd.prog 18 #[St [83, 110, 55, 59, 116, 50, 58, 97, 98]] w fun en w' => en = .returned (.int .i64 2) ∧ Below w.heap.size w w' := by
  have := deep_list [83, 110, 55, 59, 116, 50, 58, 97, 98] w
  rw [cl_deep] at this
  exact this
theorem w_size (w : World) : Calls Tryd.prog 16 #[St [116, 50, 58, 97, 98]] w fun en w' => en = .returned (.int .i64 5) ∧ Below w.heap.size w w' := by
  have := size_any ⟨([116, 50, 58, 97, 98] : Bs).toArray⟩ w
  rw [show Tm.deep (⟨([116, 50, 58, 97, 98] : Bs).toArray⟩ : ByteArray).data.toList = 1 from cl_deep2] at this
  exact this

set_option maxHeartbeats 2000000 in
theorem works_any (w : World) : Calls Tryd.prog 20 #[] w fun en w' => en = .returned (.bool true) ∧ Below w.heap.size w w' := by
  go_enter Tryd.func20, Tryd.ntmps20
  go_wp2_with fail
  refine (w_name _).mono ?_
  rintro e w1 ⟨rfl, hb⟩
  have HB1 := hid hb
  clear hb
  go_wp2_with fail
  refine (w_pub _).mono ?_
  rintro e w2 ⟨rfl, hb⟩
  have HB2 := hid (HB1.out.trans (hb.mono HB1.out.size))
  clear hb HB1
  go_wp2_with fail
  refine (w_text _).mono ?_
  rintro e w3 ⟨rfl, hb⟩
  have HB3 := hid (HB2.out.trans (hb.mono HB2.out.size))
  clear hb HB2
  go_wp2_with fail
  refine (w_sign _).mono ?_
  rintro e w4 ⟨rfl, hb⟩
  have HB4 := hid (HB3.out.trans (hb.mono HB3.out.size))
  clear hb HB3
  go_wp2_with fail
  refine (w_box _).mono ?_
  rintro e w5 ⟨rfl, hb⟩
  have HB5 := hid (HB4.out.trans (hb.mono HB4.out.size))
  clear hb HB4
  go_wp2_with fail
  refine (w_unbox _).mono ?_
  rintro e w6 ⟨rfl, hb⟩
  have HB6 := hid (HB5.out.trans (hb.mono HB5.out.size))
  clear hb HB5
  go_wp2_with fail
  refine (w_verify _).mono ?_
  rintro e w7 ⟨rfl, hb⟩
  have HB7 := hid (HB6.out.trans (hb.mono HB6.out.size))
  clear hb HB6
  go_wp2_with fail
  refine (w_verify2 _).mono ?_
  rintro e w8 ⟨rfl, hb⟩
  have HB8 := hid (HB7.out.trans (hb.mono HB7.out.size))
  clear hb HB7
  go_wp2_with fail
  refine (w_right _).mono ?_
  rintro e w9 ⟨rfl, hb⟩
  have HB9 := hid (HB8.out.trans (hb.mono HB8.out.size))
  clear hb HB8
  go_wp2_with fail
  refine (w_deep _).mono ?_
  rintro e w10 ⟨rfl, hb⟩
  have HB10 := hid (HB9.out.trans (hb.mono HB9.out.size))
  clear hb HB9
  go_wp2_with fail
  refine (w_size _).mono ?_
  rintro e w11 ⟨rfl, hb⟩
  have HB11 := hid (HB10.out.trans (hb.mono HB10.out.size))
  clear hb HB10
  go_wp2_with fail
  go_ret
  exact ⟨rfl, HB11.out⟩
end Go.Proofs.YtcmpiffkmnbepaaDoor
