/- A seed's secret, as the document makes it. -/
import Derived.Test.YtkifchjpgdmcoaaDoorSdI
namespace Go.Proofs.YtkifchjpgdmcoaaDoor
open Go.RowKit

set_option maxHeartbeats 1000000 in
set_option maxRecDepth 100000 in
theorem rsecret_any (s : Bs) (i : Int) (w : World) : Calls Tryd.prog 34 #[St s, .int .i64 i] w fun en w' => en = made (secRes s i) ∧ Below w.heap.size w w' := by
  by_cases h0 : i < 0
  · have HR : Hid (secRes s i = ([], 2)) := hid (by unfold secRes; rw [if_pos (Or.inl h0)])
    go_enter Tryd.func34, Tryd.ntmps34
    go_wp2_with fail
    go_ret2
    exact ⟨by rw [HR.out]; rfl, Below.refl _ _⟩
  · by_cases h1 : 1048575 < i
    · have HR : Hid (secRes s i = ([], 2)) := hid (by unfold secRes; rw [if_pos (Or.inr h1)])
      go_enter Tryd.func34, Tryd.ntmps34
      go_wp2_with fail
      go_ret2
      exact ⟨by rw [HR.out]; rfl, Below.refl _ _⟩
    · obtain ⟨n, rfl⟩ : ∃ n : Nat, i = (n : Int) := ⟨i.toNat, by omega⟩
      by_cases hd : Tm.deep s = 0
      · have HR : Hid (secRes s n = ([], 10)) := hid (by unfold secRes; rw [if_neg (by omega), if_pos hd])
        have HD := hid hd
        clear hd
        go_enter Tryd.func34, Tryd.ntmps34
        go_wp2_with fail
        refine (rright_any s w).mono ?_
        rintro e w1 ⟨rfl, hb⟩
        have HB := hid hb
        clear hb
        rw [HD.out]
        go_wp2_with fail
        go_ret2
        exact ⟨by rw [HR.out]; rfl, HB.out⟩
      · have HR : Hid (secRes s n = Sd.fr stp 20 n s) := hid (by unfold secRes; rw [if_neg (by omega), if_neg hd]; simp)
        have HD : Hid ((Tm.deep s != 0) = true) := hid (by simpa using hd)
        have HN : Hid (n < 9223372036854775808) := hid (by omega)
        clear hd
        go_enter Tryd.func34, Tryd.ntmps34
        go_wp2_with fail
        refine (rright_any s w).mono ?_
        rintro e w1 ⟨rfl, hb⟩
        have HB := hid hb
        clear hb
        rw [HD.out]
        go_wp2_with fail
        refine (on_any s 20 (by omega) n HN.out w1).mono ?_
        rintro e w3 ⟨rfl, hb⟩
        have HB3 := hid (HB.out.trans (hb.mono HB.out.size))
        clear hb
        generalize Sd.fr stp 20 n s = R at HR
        go_wp2_with fail
        go_ret2
        exact ⟨by rw [HR.out]; rfl, HB3.out⟩
end Go.Proofs.YtkifchjpgdmcoaaDoor
