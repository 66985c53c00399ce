/- bad: a message that may not be is refused. -/
import Derived.Test.YtdhmmllpioppfaaKTab
import Derived.Test.YtdhmmllpioppfaaWWork
namespace Go.Proofs.Ytdhmmllpioppfaa.V
open Go.RowKit

theorem enc_bad {m : Msg} (h : mayB m = false) : encR m = ([], 80) := if_pos h
set_option maxRecDepth 100000 in
set_option maxHeartbeats 4000000 in
theorem bad_any (w : World) (nv tv mv : Value) (m : Msg) (h : Ms w nv tv mv m) (hl : MLen m) (hm : mayB m = false) :
    Calls Try.prog 13 #[Mv m.k m.ch nv tv m.tx mv] w fun e w' => e = .returned (.bool true) ∧ Below w.heap.size w w' := by
  have hb0 : Below w.heap.size w (w.alloc (.cells #[.int .u16 (m.k : Int), St m.ch, nv, tv, St m.tx, mv] 27)) := (Below.refl _ w).alloc (Nat.le_refl _) _
  have HB0 := hid hb0
  have HE := hid (enc_any _ nv tv mv m (h.below hb0) hl)
  rw [enc_bad hm] at HE
  obtain ⟨an, cn, rfl, _⟩ := h.ns
  obtain ⟨at', ct, rfl, _⟩ := h.ts
  obtain ⟨am, cm, rfl⟩ := h.mo.shape
  clear h hl hm hb0
  go_enter Try.func13, Try.ntmps13
  go_wp2_with fail
  refine HE.out.mono ?_
  rintro e w1 ⟨ao, cap, rfl, _, hb1⟩
  have HB1 := hid (two_low HB0.out hb1)
  clear hb1 HE
  go_wp2_with fail
  go_ret
  exact ⟨rfl, HB1.out⟩
end Go.Proofs.Ytdhmmllpioppfaa.V
