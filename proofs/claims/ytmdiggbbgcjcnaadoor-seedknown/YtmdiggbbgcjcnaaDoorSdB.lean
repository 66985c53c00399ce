/- A seed's secret, as the program makes it; what is written anew. -/
import Derived.Test.YtmdiggbbgcjcnaaDoorSdA
import Derived.Test.YtmdiggbbgcjcnaaDoorClone
namespace Go.Proofs.YtmdiggbbgcjcnaaDoor
open Go.RowKit

set_option maxHeartbeats 400000 in
theorem fresh_any (l : Bs) (w : World) (hl : l.length ≤ 20000) : Calls Tryd.prog 23 #[St l] w fun e w' => e = .returned (St l) ∧ Below w.heap.size w w' := by
  have HC : Hid (Calls Tryd.prog 33 #[St l] w fun e w' => e = .returned (St l) ∧ Below w.heap.size w w') := hid (clone_any ⟨l.toArray⟩ w (by rw [st_size]; exact hl))
  clear hl
  go_enter Tryd.func23, Tryd.ntmps23
  go_wp2_with fail
  refine HC.out.mono ?_
  rintro e w1 ⟨rfl, hb⟩
  have HB := hid hb
  clear hb
  go_wp2_with fail
  go_ret
  exact ⟨rfl, HB.out⟩

/-- what a seed's secret at a place is -/
def secRes (s : Bs) (i : Int) : Bs × Nat := if i < 0 ∨ 1048575 < i then ([], 2) else if Tm.deep s = 0 then ([], 10) else Sd.fr stp 20 i.toNat s

theorem deep_len {l : Bs} (h : Tm.deep l ≠ 0) : l.length ≤ 20000 := Nat.le_trans (Tm.deep_is h).2 (by omega)

set_option maxHeartbeats 1000000 in
theorem secret_any (s : Bs) (i : Int) (w : World) (hp : Pw w) : Calls Tryd.prog 8 #[St s, .int .i64 i] w fun en w' => en = made (secRes s i) ∧ Below w.heap.size w w' := by
  have HP := hid hp
  clear hp
  by_cases h0 : i < 0
  · have HR : Hid (secRes s i = ([], 2)) := hid (by unfold secRes; rw [if_pos (Or.inl h0)])
    go_enter Tryd.func8, Tryd.ntmps8
    go_wp2_with fail
    go_ret2
    exact ⟨by rw [HR.out]; rfl, Below.refl _ _⟩
  · by_cases h1 : 1048575 < i
    · have HR : Hid (secRes s i = ([], 2)) := hid (by unfold secRes; rw [if_pos (Or.inr h1)])
      go_enter Tryd.func8, Tryd.ntmps8
      go_wp2_with fail
      go_ret2
      exact ⟨by rw [HR.out]; rfl, Below.refl _ _⟩
    · obtain ⟨n, rfl⟩ : ∃ n : Nat, i = (n : Int) := ⟨i.toNat, by omega⟩
      by_cases hd : Tm.deep s = 0
      · have HR : Hid (secRes s n = ([], 10)) := hid (by unfold secRes; rw [if_neg (by omega), if_pos hd])
        have HD := hid hd
        clear hd
        go_enter Tryd.func8, Tryd.ntmps8
        go_wp2_with fail
        refine (right_list s w).mono ?_
        rintro e w1 ⟨rfl, hb⟩
        have HB := hid hb
        clear hb
        rw [HD.out]
        go_wp2_with fail
        go_ret2
        exact ⟨by rw [HR.out]; rfl, HB.out⟩
      · have HR : Hid (secRes s n = Sd.fr stp 20 n s) := hid (by unfold secRes; rw [if_neg (by omega), if_neg hd]; simp)
        have HD : Hid ((Tm.deep s != 0) = true) := hid (by simpa using hd)
        have HL := hid (deep_len hd)
        have HN : Hid (n < 9223372036854775808) := hid (by omega)
        clear hd
        go_enter Tryd.func8, Tryd.ntmps8
        go_wp2_with fail
        refine (right_list s w).mono ?_
        rintro e w1 ⟨rfl, hb⟩
        have HB := hid hb
        clear hb
        rw [HD.out]
        go_wp2_with fail
        refine (fresh_any s w1 HL.out).mono ?_
        rintro e w2 ⟨rfl, hb⟩
        have HB2 := hid (HB.out.trans (hb.mono HB.out.size))
        clear hb
        go_wp2_with fail
        refine (from_any s 20 (by omega) n HN.out w2 (HP.out.below HB2.out)).mono ?_
        rintro e w3 ⟨rfl, hb⟩
        have HB3 := hid (HB2.out.trans (hb.mono HB2.out.size))
        clear hb
        generalize Sd.fr stp 20 n s = R at HR
        go_wp2_with fail
        go_ret2
        exact ⟨by rw [HR.out]; rfl, HB3.out⟩
end Go.Proofs.YtmdiggbbgcjcnaaDoor
