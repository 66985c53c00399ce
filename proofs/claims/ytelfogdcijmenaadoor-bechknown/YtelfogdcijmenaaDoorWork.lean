/- A head alone. -/
import Derived.Test.YtelfogdcijmenaaDoorDec
namespace Go.Proofs.YtelfogdcijmenaaDoor
open Go.RowKit

theorem wk_enc : encB [97] [] = ([97, 49, 50, 117, 101, 108, 53, 108], 0) := by decide +kernel
theorem wk_dec : decB [65, 49, 50, 85, 69, 76, 53, 76] = ([97], [], 0) := by decide +kernel
set_option maxRecDepth 100000 in
set_option maxHeartbeats 1000000 in
theorem works_any (w : World) (hx : Mx w) : Calls Tryd.prog 9 #[] w fun e w' => e = .returned (.bool true) ∧ Below w.heap.size w w' := by
  have HE := hid (enc_any [97] [] (.slice none 0 0) w (Sl.nil w) (by simp) (by simp) hx)
  have HDE := hid (fun W (hb : Below w.heap.size w W) => dec_any [65, 49, 50, 85, 69, 76, 53, 76] W (by simp) (hx.below hb))
  rw [wk_enc] at HE
  rw [wk_dec] at HDE
  clear hx
  go_enter Tryd.func9, Tryd.ntmps9
  go_wp2_with fail
  refine HE.out.mono ?_
  rintro e w1 ⟨rfl, hb1⟩
  have HB1 := hid hb1
  clear hb1 HE
  go_wp2_with fail
  refine (HDE.out w1 HB1.out).mono ?_
  rintro e w2 ⟨v, rfl, hs, hb2⟩
  obtain ⟨ao, cap, rfl⟩ := hs.shape
  have HB2 := hid (two_below HB1.out hb2)
  clear hb2 hs HDE
  go_wp2_with fail
  go_ret
  exact ⟨rfl, HB2.out⟩
end Go.Proofs.YtelfogdcijmenaaDoor
