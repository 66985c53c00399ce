/- The law BechWrites. -/
import Derived.Test.YtelfogdcijmenaaDoorREnc
import Derived.Test.YtelfogdcijmenaaDoorWork
namespace Go.Proofs.YtelfogdcijmenaaDoor
open Go.RowKit

set_option maxRecDepth 100000 in
set_option maxHeartbeats 8000000 in
theorem writes_any (h ws : Bs) (v : Value) (w : World) (hs : Sl w v ws) (hx : Mx w) :
    Calls Tryd.prog 3 #[St h, v] w fun e w' => e = .returned (.bool true) ∧ Below w.heap.size w w' := by
  have HS := hid hs
  have HX := hid hx
  obtain ⟨av, cv, rfl⟩ := hs.shape
  have HW := hid (fun W (hb : Below w.heap.size w W) => works_any W (hx.below hb))
  have HW0 := hid (works_any w hx)
  have hs0 := st_size h
  obtain ⟨n, hn⟩ : ∃ n, n = ws.length := ⟨_, rfl⟩
  obtain ⟨m, hm⟩ : ∃ m, m = h.length := ⟨_, rfl⟩
  rw [← hn]
  rw [← hm] at hs0
  have HN := hid hn
  have HM := hid hm
  clear hs hx hn hm
  by_cases hm2 : 2000 < m
  · have hc : (2000 : Int) < (m : Int) := by omega
    go_enter Tryd.func3, Tryd.ntmps3
    go_wp2_with fail
    refine HW0.out.mono ?_
    rintro e w1 ⟨rfl, hb⟩
    have HB := hid hb
    clear hb
    go_wp2_with fail
    go_ret
    exact ⟨rfl, HB.out⟩
  · have hc : ¬ (2000 : Int) < (m : Int) := by omega
    by_cases hn2 : 2000 < n
    · have hc2 : (2000 : Int) < (n : Int) := by omega
      go_enter Tryd.func3, Tryd.ntmps3
      go_wp2_with fail
      refine HW0.out.mono ?_
      rintro e w1 ⟨rfl, hb⟩
      have HB := hid hb
      clear hb
      go_wp2_with fail
      go_ret
      exact ⟨rfl, HB.out⟩
    · have hc2 : ¬ (2000 : Int) < (n : Int) := by omega
      have q0 := HS.out.string
      obtain ⟨c1, w1, q1, ho1, hb1⟩ := text_bytes w ws (by rw [← HN.out]; omega)
      rw [← HN.out] at q0 q1 ho1
      have HB1 := hid hb1
      have HS1 := hid ho1.sl
      have HE := hid (enc_any h ws _ w1 ho1.sl (by rw [← HN.out]; omega) (by rw [← HM.out]; omega) (HX.out.below hb1))
      have HR := hid (fun W (hb : Below w.heap.size w W) => renc_any h ws _ W (HS.out.below hb) (by rw [← HN.out]; omega) (by rw [← HM.out]; omega))
      rw [← HN.out] at HR
      generalize hen : encB h ws = en at *
      obtain ⟨t, er⟩ := en
      simp only [encoded] at HE HR
      clear hen ho1 hb1
      go_enter Tryd.func3, Tryd.ntmps3
      go_wp2_with fail
      refine HE.out.mono ?_
      rintro e w2 ⟨rfl, hb2⟩
      have HB2 := hid (two_below HB1.out hb2)
      have HS2 := hid (HS1.out.below hb2)
      clear hb2 HE q0 q1
      go_wp2_with fail
      refine (HR.out w2 HB2.out).mono ?_
      rintro e w3 ⟨rfl, hb3⟩
      have HB3 := hid (two_below HB2.out hb3)
      have q3 := (HS2.out.below hb3).string
      have q4 := (HS.out.below HB3.out).string
      rw [← HN.out] at q4
      clear hb3 HR
      go_wp2_with fail
      refine (HW.out _ HB3.out).mono ?_
      rintro e w4 ⟨rfl, hb⟩
      have HB := hid (two_below HB3.out hb)
      clear hb
      go_wp2_with fail
      go_ret
      exact ⟨rfl, HB.out⟩
end Go.Proofs.YtelfogdcijmenaaDoor
