/- What TermBack answers. -/
import Derived.Test.YtcmpiffkmnbepaaDoorWorks
import Derived.Test.YtcmpiffkmnbepaaDoorLaws
import Derived.Test.YtcmpiffkmnbepaaDoorOpen
namespace Go.Proofs.YtcmpiffkmnbepaaDoor
open Go.RowKit

set_option maxHeartbeats 4000000 in
set_option maxRecDepth 100000 in
theorem back_big1 (a b : Bs) (w : World) (hs : 20000 < a.length) :
    Calls Tryd.prog 7 #[St a, St b] w fun en w' => en = .returned (.bool true) ∧ Below w.heap.size w w' := by
  have e1 : (⟨a.toArray⟩ : ByteArray).size = a.length := st_size a
  have e2 : (⟨b.toArray⟩ : ByteArray).size = b.length := st_size b
  have hs' : (20000 : Int) < (a.length : Int) := by omega
  go_enter Tryd.func7, Tryd.ntmps7
  go_wp2_with fail
  refine (works_any _).mono ?_
  rintro e w1 ⟨rfl, hb⟩
  have HB := hid hb
  clear hb
  go_wp2_with fail
  go_ret
  exact ⟨rfl, HB.out⟩

set_option maxHeartbeats 4000000 in
set_option maxRecDepth 100000 in
theorem back_big2 (a b : Bs) (w : World) (hs1 : a.length ≤ 20000) (hs : 20000 < b.length) :
    Calls Tryd.prog 7 #[St a, St b] w fun en w' => en = .returned (.bool true) ∧ Below w.heap.size w w' := by
  have e1 : (⟨a.toArray⟩ : ByteArray).size = a.length := st_size a
  have e2 : (⟨b.toArray⟩ : ByteArray).size = b.length := st_size b
  have hs1' : ¬ (20000 : Int) < (a.length : Int) := by omega
  have hs' : (20000 : Int) < (b.length : Int) := by omega
  go_enter Tryd.func7, Tryd.ntmps7
  go_wp2_with fail
  refine (works_any _).mono ?_
  rintro e w1 ⟨rfl, hb⟩
  have HB := hid hb
  clear hb
  go_wp2_with fail
  go_ret
  exact ⟨rfl, HB.out⟩

set_option maxHeartbeats 4000000 in
set_option maxRecDepth 100000 in
theorem back_no1 (a b : Bs) (w : World) (hs1 : a.length ≤ 20000) (hs2 : b.length ≤ 20000) (hd : Tm.deep a = 0) :
    Calls Tryd.prog 7 #[St a, St b] w fun en w' => en = .returned (.bool true) ∧ Below w.heap.size w w' := by
  have e1 : (⟨a.toArray⟩ : ByteArray).size = a.length := st_size a
  have e2 : (⟨b.toArray⟩ : ByteArray).size = b.length := st_size b
  have hs1' : ¬ (20000 : Int) < (a.length : Int) := by omega
  have hs2' : ¬ (20000 : Int) < (b.length : Int) := by omega
  have HD := hid hd
  clear hd
  go_enter Tryd.func7, Tryd.ntmps7
  go_wp2_with fail
  refine (right_list a _).mono ?_
  rintro e w1 ⟨rfl, hb⟩
  have HB1 := hid hb
  clear hb
  rw [HD.out]
  go_wp2_with fail
  refine (works_any _).mono ?_
  rintro e w2 ⟨rfl, hb⟩
  have HB := hid (HB1.out.trans (hb.mono HB1.out.size))
  clear hb
  go_wp2_with fail
  go_ret
  exact ⟨rfl, HB.out⟩

set_option maxHeartbeats 4000000 in
set_option maxRecDepth 100000 in
theorem back_no2 (a b : Bs) (w : World) (hs1 : a.length ≤ 20000) (hs2 : b.length ≤ 20000) (ha : Tm.deep a ≠ 0) (hd : Tm.deep b = 0) :
    Calls Tryd.prog 7 #[St a, St b] w fun en w' => en = .returned (.bool true) ∧ Below w.heap.size w w' := by
  have e1 : (⟨a.toArray⟩ : ByteArray).size = a.length := st_size a
  have e2 : (⟨b.toArray⟩ : ByteArray).size = b.length := st_size b
  have hs1' : ¬ (20000 : Int) < (a.length : Int) := by omega
  have hs2' : ¬ (20000 : Int) < (b.length : Int) := by omega
  have HD := hid hd
  have HA : Hid ((Tm.deep a != 0) = true) := by apply hid; simpa using ha
  clear hd ha
  go_enter Tryd.func7, Tryd.ntmps7
  go_wp2_with fail
  refine (right_list a _).mono ?_
  rintro e w1 ⟨rfl, hb⟩
  have HB1 := hid hb
  clear hb
  rw [HA.out]
  go_wp2_with fail
  refine (right_list b _).mono ?_
  rintro e w2 ⟨rfl, hb⟩
  have HB2 := hid (HB1.out.trans (hb.mono HB1.out.size))
  clear hb
  rw [HD.out]
  go_wp2_with fail
  refine (works_any _).mono ?_
  rintro e w3 ⟨rfl, hb⟩
  have HB := hid (HB2.out.trans (hb.mono HB2.out.size))
  clear hb
  go_wp2_with fail
  go_ret
  exact ⟨rfl, HB.out⟩

/-- a thing that was made of a and b, or refused -/
def Made (a b : Bs) (r : Bs × Nat) : Prop := (r = ([], 3)) ∨ (r.2 = 0 ∧ ∃ c l, r.1 = c :: l ∧ Tm.deep r.1 = max (Tm.deep a) (Tm.deep b) + 1 ∧ Tm.kidsOf 63 r.1 = [a, b])

theorem made_of {op : UInt8} {a b : Bs} (hop : Tm.isTwo op = true) (ha : Tm.deep a ≠ 0) (hb : Tm.deep b ≠ 0) : Made a b (bRes op [] [a, b]) ∧ ((bRes op [] [a, b]).2 = 0 → (bRes op [] [a, b]).1.head? = some op) := by
  rw [bRes_two, if_neg (by omega)]
  split
  · exact ⟨Or.inl rfl, fun h => by simp at h⟩
  · rename_i h
    obtain ⟨h1, h2⟩ := made_two hop ha hb (by omega) (by omega)
    exact ⟨Or.inr ⟨rfl, op, a ++ b, rfl, h1, h2⟩, fun _ => rfl⟩

/-- a pair -/
theorem num_pair (x : Bs) : Tm.num 58 (50 :: 58 :: x) = some (2, x) := by
  unfold Tm.num Tm.numGo Tm.numGo
  simp
  omega

theorem is_pair {m n : Nat} {a b : Bs} (ha : Tm.Is m a) (hb : Tm.Is n b) : Tm.Is (max m n + 1) (84 :: 50 :: 58 :: (a ++ b)) := by
  refine ⟨by omega, by simp, fun k x hk => ?_⟩
  obtain ⟨k, rfl⟩ : ∃ j, k = j + 1 := ⟨k - 1, by omega⟩
  have e : 84 :: 50 :: 58 :: (a ++ b) ++ x = 84 :: (50 :: 58 :: (a ++ (b ++ x))) := by simp
  rw [e, Tm.rd_cons, if_neg (by decide), if_neg (by decide), if_pos rfl]
  unfold Tm.tupleA
  rw [num_pair]
  simp only
  rw [if_pos (by omega), Tm.manyA, ha.2.2 k _ (by omega)]
  simp only
  rw [Tm.manyA, hb.2.2 k _ (by omega)]
  simp only [Tm.manyA]
  have : max (max 1 (m + 1)) (n + 1) = max m n + 1 := by omega
  rw [this]

theorem made_pair {a b : Bs} (ha : Tm.deep a ≠ 0) (hb : Tm.deep b ≠ 0) : Made a b (bRes 84 [50, 58] [a, b]) ∧ ((bRes 84 [50, 58] [a, b]).2 = 0 → (bRes 84 [50, 58] [a, b]).1.head? = some 84) := by
  have e1 : ([a, b].any (fun k => Tm.deep k == 0)) = false := by simp [ha, hb]
  have e2 : bDeep [a, b] = max (Tm.deep a) (Tm.deep b) + 1 := by simp [bDeep]
  have e3 : bSize [a, b] = a.length + b.length := by simp [bSize]
  have e4 : ([50, 58] : Bs) ++ [a, b].flatten = 50 :: 58 :: (a ++ b) := by simp
  unfold bRes
  rw [e1, e2, e3, e4, if_neg (by simp)]
  split
  · exact ⟨Or.inl rfl, fun h => by simp at h⟩
  · rename_i h
    have ia := (Tm.deep_is ha).1
    have ib := (Tm.deep_is hb).1
    have hi := is_pair ia ib
    simp only [List.length_cons, List.length_nil] at h
    refine ⟨Or.inr ⟨rfl, 84, _, rfl, Tm.is_deep hi (by omega) (by simp; omega), ?_⟩, fun _ => rfl⟩
    show Tm.kidsOf 63 (84 :: 50 :: 58 :: (a ++ b)) = _
    rw [Tm.kidsOf, if_pos rfl]
    unfold Tm.tupleK
    rw [num_pair]
    simp only
    have hq := ib.2.2 63 [] (by omega)
    rw [List.append_nil] at hq
    rw [Tm.kidsN, ia.2.2 63 b (by omega)]
    simp only
    rw [Tm.kidsN, hq, Tm.used_app]
    simp [Tm.kidsN, Tm.used]
end Go.Proofs.YtcmpiffkmnbepaaDoor
