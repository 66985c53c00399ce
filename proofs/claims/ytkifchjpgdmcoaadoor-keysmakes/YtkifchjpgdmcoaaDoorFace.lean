/- What the makers do: digests, children, joined and bound secrets, signatures, boxes. -/
import Derived.Test.YtkifchjpgdmcoaaDoorBuild
namespace Go.Proofs.YtkifchjpgdmcoaaDoor
open Go.RowKit

theorem texts_two (w : World) (a b : Bs) : Texts (w.alloc (.cells #[St a, St b] 22)) (.slice (some ⟨w.heap.size, 0, none⟩) 2 2) [a, b] :=
  ⟨_, _, rfl, fun _ => ⟨w.heap.size, 0, rfl, by simp, fun i h => by
    have hg : (w.alloc (.cells #[St a, St b] 22)).heap[w.heap.size]? = some (.cells #[St a, St b] 22 (0, 0)) := heap_alloc_new w _
    rw [cell_of_heap hg]
    match i, h with
    | 0, _ => rfl
    | 1, _ => rfl⟩⟩
theorem texts_one (w : World) (a : Bs) : Texts (w.alloc (.cells #[St a] 22)) (.slice (some ⟨w.heap.size, 0, none⟩) 1 1) [a] :=
  ⟨_, _, rfl, fun _ => ⟨w.heap.size, 0, rfl, by simp, fun i h => by
    have hg : (w.alloc (.cells #[St a] 22)).heap[w.heap.size]? = some (.cells #[St a] 22 (0, 0)) := heap_alloc_new w _
    rw [cell_of_heap hg]
    match i, h with
    | 0, _ => rfl⟩⟩
theorem texts_nil (w : World) : Texts w (.slice none 0 0) [] := ⟨none, 0, rfl, fun h => absurd rfl h⟩

/-- what a maker answers -/
abbrev made (r : Bs × Nat) : Ending := .returned (.tuple #[St r.1, .int .i64 (r.2 : Int)])

set_option maxHeartbeats 400000 in
theorem child_any (a b : Bs) (w : World) : Calls Tryd.prog 50 #[St a, St b] w fun en w' => en = made (bRes 68 [] [a, b]) ∧ Below w.heap.size w w' := by
  go_enter Tryd.func50, Tryd.ntmps50
  go_wp2_with fail
  refine (build_any 68 [] [a, b] _ _ (texts_two w a b) (by simp) (by simp)).mono ?_
  rintro e w1 ⟨rfl, hb⟩
  have HB := hid (((Below.refl _ w).alloc (Nat.le_refl _) (.cells #[St a, St b] 22)).trans (hb.mono (by simp)))
  clear hb
  go_wp2_with fail
  go_ret2
  exact ⟨rfl, HB.out⟩

set_option maxHeartbeats 400000 in
theorem join_any (a b : Bs) (w : World) : Calls Tryd.prog 43 #[St a, St b] w fun en w' => en = made (bRes 86 [] [a, b]) ∧ Below w.heap.size w w' := by
  go_enter Tryd.func43, Tryd.ntmps43
  go_wp2_with fail
  refine (build_any 86 [] [a, b] _ _ (texts_two w a b) (by simp) (by simp)).mono ?_
  rintro e w1 ⟨rfl, hb⟩
  have HB := hid (((Below.refl _ w).alloc (Nat.le_refl _) (.cells #[St a, St b] 22)).trans (hb.mono (by simp)))
  clear hb
  go_wp2_with fail
  go_ret2
  exact ⟨rfl, HB.out⟩

set_option maxHeartbeats 400000 in
theorem bind_any (a b : Bs) (w : World) : Calls Tryd.prog 41 #[St a, St b] w fun en w' => en = made (bRes 75 [] [a, b]) ∧ Below w.heap.size w w' := by
  go_enter Tryd.func41, Tryd.ntmps41
  go_wp2_with fail
  refine (build_any 75 [] [a, b] _ _ (texts_two w a b) (by simp) (by simp)).mono ?_
  rintro e w1 ⟨rfl, hb⟩
  have HB := hid (((Below.refl _ w).alloc (Nat.le_refl _) (.cells #[St a, St b] 22)).trans (hb.mono (by simp)))
  clear hb
  go_wp2_with fail
  go_ret2
  exact ⟨rfl, HB.out⟩

theorem st_app (a b : Bs) : (⟨a.toArray⟩ : ByteArray) ++ ⟨b.toArray⟩ = ⟨(a ++ b).toArray⟩ := by
  apply ByteArray.ext; simp

set_option maxHeartbeats 400000 in
/-- a name of one digit -/
theorem name_digit (n : Nat) (w : World) (hn : n < 10) : Calls Tryd.prog 44 #[.int .i64 (n : Int)] w fun en w' => en = made (bRes 110 (dig1 n ++ [59]) []) ∧ Below w.heap.size w w' := by
  have h0 : ¬ (n : Int) < 0 := by omega
  go_enter Tryd.func44, Tryd.ntmps44
  go_wp2_with fail
  refine (format_digit n _ hn).mono ?_
  rintro e w1 ⟨rfl, rfl⟩
  go_wp2_with fail
  rw [show (⟨(dig1 n).toArray⟩ : ByteArray) ++ ⟨#[59]⟩ = ⟨(dig1 n ++ [59]).toArray⟩ from st_app _ [59]]
  refine (build_any 110 (dig1 n ++ [59]) [] _ _ (texts_nil _) (by simp [dig1]) (by simp)).mono ?_
  rintro e w2 ⟨rfl, hb⟩
  have HB := hid hb
  clear hb
  go_wp2_with fail
  go_ret2
  exact ⟨rfl, HB.out⟩

set_option maxHeartbeats 400000 in
/-- a text of less than ten bytes -/
theorem text_digit (s : Bs) (w : World) (hn : s.length < 10) : Calls Tryd.prog 47 #[St s] w fun en w' => en = made (bRes 116 (dig1 s.length ++ [58] ++ s) []) ∧ Below w.heap.size w w' := by
  have hs : (⟨s.toArray⟩ : ByteArray).size = s.length := st_size s
  have h0 : ¬ (4096 : Int) < (s.length : Int) := by omega
  go_enter Tryd.func47, Tryd.ntmps47
  go_wp2_with fail
  refine (itoa_digit s.length _ hn).mono ?_
  rintro e w1 ⟨rfl, rfl⟩
  have hd1 : (⟨(dig1 s.length).toArray⟩ : ByteArray).size = 1 := rfl
  go_wp2_with fail
  rw [show (⟨(dig1 s.length).toArray⟩ : ByteArray) ++ ⟨#[58]⟩ ++ ⟨s.toArray⟩ = ⟨(dig1 s.length ++ [58] ++ s).toArray⟩ from by rw [show (⟨#[58]⟩ : ByteArray) = ⟨([58] : Bs).toArray⟩ from rfl, st_app, st_app]]
  refine (build_any 116 (dig1 s.length ++ [58] ++ s) [] _ _ (texts_nil _) (by simp [dig1]; omega) (by simp)).mono ?_
  rintro e w2 ⟨rfl, hb⟩
  have HB := hid hb
  clear hb
  go_wp2_with fail
  go_ret2
  exact ⟨rfl, HB.out⟩

set_option maxHeartbeats 400000 in
/-- a tuple of less than ten -/
theorem tuple_digit (ks : List Bs) (kv : Value) (w : World) (hk : Texts w kv ks) (hn : ks.length < 10) : Calls Tryd.prog 49 #[kv] w fun en w' => en = made (bRes 84 (dig1 ks.length ++ [58]) ks) ∧ Below w.heap.size w w' := by
  have HK := hid hk
  obtain ⟨ao, cap, rfl, _⟩ := hk
  have h0 : ¬ (32 : Int) < (ks.length : Int) := by omega
  go_enter Tryd.func49, Tryd.ntmps49
  go_wp2_with fail
  refine (itoa_digit ks.length _ hn).mono ?_
  rintro e w1 ⟨rfl, rfl⟩
  go_wp2_with fail
  rw [show (⟨(dig1 ks.length).toArray⟩ : ByteArray) ++ ⟨#[58]⟩ = ⟨(dig1 ks.length ++ [58]).toArray⟩ from st_app _ [58]]
  refine (build_any 84 (dig1 ks.length ++ [58]) ks _ _ HK.out (by simp [dig1]) (by omega)).mono ?_
  rintro e w2 ⟨rfl, hb⟩
  have HB := hid hb
  clear hb
  go_wp2_with fail
  go_ret2
  exact ⟨rfl, HB.out⟩
end Go.Proofs.YtkifchjpgdmcoaaDoor
