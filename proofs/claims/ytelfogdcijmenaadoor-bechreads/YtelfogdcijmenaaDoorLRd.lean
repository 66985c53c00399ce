/- The law BechReads. -/
import Derived.Test.YtelfogdcijmenaaDoorRDecB
import Derived.Test.YtelfogdcijmenaaDoorWork
namespace Go.Proofs.YtelfogdcijmenaaDoor
open Go.RowKit

set_option maxRecDepth 100000 in
set_option maxHeartbeats 4000000 in
theorem reads_any (s : Bs) (w : World) (hx : Mx w) : Calls Tryd.prog 4 #[St s] w fun e w' => e = .returned (.bool true) ∧ Below w.heap.size w w' := by
  have HX := hid hx
  have HW := hid (fun W (hb : Below w.heap.size w W) => works_any W (hx.below hb))
  have HW0 := hid (works_any w hx)
  have hs0 := st_size s
  by_cases hm2 : 2000 < s.length
  · have hc : (2000 : Int) < (s.length : Int) := by omega
    generalize s.length = n at *
    go_enter Tryd.func4, Tryd.ntmps4
    go_wp2_with fail
    refine HW0.out.mono ?_
    rintro e w1 ⟨rfl, hb⟩
    have HB := hid hb
    clear hb
    go_wp2_with fail
    go_ret
    exact ⟨rfl, HB.out⟩
  · have hc : ¬ (2000 : Int) < (s.length : Int) := by omega
    have HD := hid (dec_any s w (by omega) hx)
    have HR := hid (fun W => rdec_any s W)
    generalize s.length = n at *
    generalize hen : decB s = en at *
    obtain ⟨h, ws, er⟩ := en
    simp only [decoded] at HD HR
    clear hen hx
    go_enter Tryd.func4, Tryd.ntmps4
    go_wp2_with fail
    refine HD.out.mono ?_
    rintro e w1 ⟨v1, rfl, hs1, hb1⟩
    have HB1 := hid hb1
    have HS1 := hid hs1
    clear hb1 hs1 HD
    go_wp2_with fail
    refine (HR.out w1).mono ?_
    rintro e w2 ⟨v2, rfl, hs2, hb2⟩
    have HB2 := hid (two_below HB1.out hb2)
    have q1 := (HS1.out.below hb2).string
    have q2 := hs2.string
    clear hb2 hs2 HR
    go_wp2_with fail
    refine (HW.out _ HB2.out).mono ?_
    rintro e w4 ⟨rfl, hb⟩
    have HB := hid (two_below HB2.out hb)
    clear hb
    go_wp2_with fail
    go_ret
    exact ⟨rfl, HB.out⟩
end Go.Proofs.YtelfogdcijmenaaDoor
