/- What TermAsks answers. -/
import Derived.Test.YtcmpiffkmnbepaaDoorRAskB
import Derived.Test.YtcmpiffkmnbepaaDoorWorks
namespace Go.Proofs.YtcmpiffkmnbepaaDoor
open Go.RowKit

set_option maxHeartbeats 2000000 in
set_option maxRecDepth 100000 in
theorem asks_small (p m s : Bs) (w : World) (h1 : p.length ≤ 20000) (h2 : m.length ≤ 20000) (h3 : s.length ≤ 20000) :
    Calls Tryd.prog 6 #[St p, St m, St s] w fun en w' => en = .returned (.bool true) ∧ Below w.heap.size w w' := by
  have hs1 : (⟨p.toArray⟩ : ByteArray).size = p.length := st_size p
  have hs2 : (⟨m.toArray⟩ : ByteArray).size = m.length := st_size m
  have hs3 : (⟨s.toArray⟩ : ByteArray).size = s.length := st_size s
  have l1 : ¬ (20000 : Int) < (p.length : Int) := by omega
  have l2 : ¬ (20000 : Int) < (m.length : Int) := by omega
  have l3 : ¬ (20000 : Int) < (s.length : Int) := by omega
  clear h1 h2 h3
  go_enter Tryd.func6, Tryd.ntmps6
  go_wp2_with fail
  refine (unbox_any p s _).mono ?_
  rintro e w1 ⟨rfl, hb⟩
  have HB1 := hid hb
  clear hb
  go_wp2_with fail
  refine (runbox_any p s _).mono ?_
  rintro e w2 ⟨rfl, hb⟩
  have HB2 := hid (HB1.out.trans (hb.mono HB1.out.size))
  clear hb HB1
  go_wp2_with fail
  refine (verify_any p m s _).mono ?_
  rintro e w3 ⟨rfl, hb⟩
  have HB3 := hid (HB2.out.trans (hb.mono HB2.out.size))
  clear hb HB2
  go_wp2_with fail
  refine (rverify_any p m s _).mono ?_
  rintro e w4 ⟨rfl, hb⟩
  have HB4 := hid (HB3.out.trans (hb.mono HB3.out.size))
  clear hb HB3
  go_wp2_with fail
  refine (works_any _).mono ?_
  rintro e w5 ⟨rfl, hb⟩
  have HB5 := hid (HB4.out.trans (hb.mono HB4.out.size))
  clear hb HB4
  go_wp2_with fail
  go_ret
  exact ⟨rfl, HB5.out⟩

set_option maxHeartbeats 2000000 in
set_option maxRecDepth 100000 in
theorem asks_any (p m s : Bs) (w : World) (_ : p.length ≤ 140737488355328) (_ : m.length ≤ 140737488355328) (_ : s.length ≤ 140737488355328) :
    Calls Tryd.prog 6 #[St p, St m, St s] w fun en w' => en = .returned (.bool true) ∧ Below w.heap.size w w' := by
  have hs1 : (⟨p.toArray⟩ : ByteArray).size = p.length := st_size p
  have hs2 : (⟨m.toArray⟩ : ByteArray).size = m.length := st_size m
  have hs3 : (⟨s.toArray⟩ : ByteArray).size = s.length := st_size s
  by_cases h1 : p.length ≤ 20000
  · by_cases h2 : m.length ≤ 20000
    · by_cases h3 : s.length ≤ 20000
      · exact asks_small p m s w h1 h2 h3
      · have l1 : ¬ (20000 : Int) < (p.length : Int) := by omega
        have l2 : ¬ (20000 : Int) < (m.length : Int) := by omega
        have l3 : (20000 : Int) < (s.length : Int) := by omega
        go_enter Tryd.func6, Tryd.ntmps6
        go_wp2_with fail
        go_ret
        exact ⟨rfl, Below.refl _ _⟩
    · have l1 : ¬ (20000 : Int) < (p.length : Int) := by omega
      have l2 : (20000 : Int) < (m.length : Int) := by omega
      go_enter Tryd.func6, Tryd.ntmps6
      go_wp2_with fail
      go_ret
      exact ⟨rfl, Below.refl _ _⟩
  · have l1 : (20000 : Int) < (p.length : Int) := by omega
    go_enter Tryd.func6, Tryd.ntmps6
    go_wp2_with fail
    go_ret
    exact ⟨rfl, Below.refl _ _⟩
end Go.Proofs.YtcmpiffkmnbepaaDoor
