/- Add, and the document's Add, Sub, Sum. -/
import Derived.Test.YtdgmnfhfnhiloaaSum
namespace Go.Proofs.Ytdgmnfhfnhiloaa
open Go.RowKit

theorem below_alloc_self' (w : World) (o : Obj) : Below w.heap.size w (w.alloc o) := (Below.refl _ w).alloc (Nat.le_refl _) o
/-- a new row of numbers -/
theorem li_new (w : World) (l : List Int) (n : Nat) (hn : n = l.length) : Li (w.alloc (.cells (l.map fun x => Value.int .i64 x).toArray 2)) (some ⟨w.heap.size, 0, none⟩) n l := by
  refine ⟨by omega, fun _ => ⟨w.heap.size, 0, rfl, by simp, fun i hi => ?_⟩⟩
  rw [Nat.zero_add, World.cell?_alloc_mark, List.getElem?_toArray]
  simp [hi]

theorem sum_two (w : World) (a b : Int) : Calls Try.prog 11 #[.slice (some ⟨w.heap.size, 0, none⟩) 2 2] (w.alloc (.cells #[.int .i64 a, .int .i64 b] 2)) fun e w' => e = ans (addO a b) ∧ Below w.heap.size w w' := by
  refine (sum_any _ _ 2 [a, b] (li_new w [a, b] 2 rfl) (by simp)).mono ?_
  rintro e w' ⟨rfl, rfl⟩
  exact ⟨by rw [sumO_two], below_alloc_self' w _⟩

set_option maxHeartbeats 1000000 in
theorem add_any (a b : Int) (w : World) : Calls Try.prog 9 #[.int .i64 a, .int .i64 b] w fun e w' => e = ans (addO a b) ∧ Below w.heap.size w w' := by
  go_enter Try.func9, Try.ntmps9
  go_wp2_with fail
  refine (sum_two w a b).mono ?_
  rintro e w1 ⟨rfl, hb⟩
  have HB := hid hb
  clear hb
  go_wp2_with fail
  go_ret2
  exact ⟨rfl, HB.out⟩

set_option maxHeartbeats 1000000 in
theorem radd_any (a b : Int) (w : World) : Calls Try.prog 12 #[.int .i64 a, .int .i64 b] w fun e w' => e = ans (addO a b) ∧ w' = w := by
  cases ha : rt a
  · go_enter Try.func12, Try.ntmps12
    go_wp2_with (go_at_call 16; refine (rright_any _ _).mono ?_; rintro e w' ⟨rfl, rfl⟩)
    go_ret2
    exact ⟨by rw [addO_no (by simp [ha])]; rfl, rfl⟩
  · cases hb : rt b
    · go_enter Try.func12, Try.ntmps12
      go_wp2_with (go_at_call 16; refine (rright_any _ _).mono ?_; rintro e w' ⟨rfl, rfl⟩)
      go_ret2
      exact ⟨by rw [addO_no (by simp [hb])]; rfl, rfl⟩
    · obtain ⟨ha0, ha1⟩ := rt_iff.1 ha
      obtain ⟨hb0, hb1⟩ := rt_iff.1 hb
      by_cases h : 2100000000000000000 < a + b
      · go_enter Try.func12, Try.ntmps12
        go_wp2_with (go_at_call 16; refine (rright_any _ _).mono ?_; rintro e w' ⟨rfl, rfl⟩)
        go_ret2
        exact ⟨by rw [addO_no (Or.inr (Or.inr (rt_not.2 (Or.inr h))))]; rfl, rfl⟩
      · go_enter Try.func12, Try.ntmps12
        go_wp2_with (go_at_call 16; refine (rright_any _ _).mono ?_; rintro e w' ⟨rfl, rfl⟩)
        go_ret2
        exact ⟨by rw [addO_yes ha hb (rt_iff.2 (by omega))]; rfl, rfl⟩

set_option maxHeartbeats 1000000 in
theorem rsub_any (a b : Int) (w : World) : Calls Try.prog 13 #[.int .i64 a, .int .i64 b] w fun e w' => e = ans (subO a b) ∧ w' = w := by
  cases ha : rt a
  · go_enter Try.func13, Try.ntmps13
    go_wp2_with (go_at_call 16; refine (rright_any _ _).mono ?_; rintro e w' ⟨rfl, rfl⟩)
    go_ret2
    exact ⟨by rw [subO_no (by simp [ha])]; rfl, rfl⟩
  · cases hb : rt b
    · go_enter Try.func13, Try.ntmps13
      go_wp2_with (go_at_call 16; refine (rright_any _ _).mono ?_; rintro e w' ⟨rfl, rfl⟩)
      go_ret2
      exact ⟨by rw [subO_no (by simp [hb])]; rfl, rfl⟩
    · obtain ⟨ha0, ha1⟩ := rt_iff.1 ha
      obtain ⟨hb0, hb1⟩ := rt_iff.1 hb
      by_cases h : a < b
      · go_enter Try.func13, Try.ntmps13
        go_wp2_with (go_at_call 16; refine (rright_any _ _).mono ?_; rintro e w' ⟨rfl, rfl⟩)
        go_ret2
        exact ⟨by rw [subO_no (by simp [h])]; rfl, rfl⟩
      · go_enter Try.func13, Try.ntmps13
        go_wp2_with (go_at_call 16; refine (rright_any _ _).mono ?_; rintro e w' ⟨rfl, rfl⟩)
        go_ret2
        exact ⟨by rw [subO_yes ha hb (by omega)]; rfl, rfl⟩

set_option maxHeartbeats 1000000 in
theorem rsum_any (w : World) (a : Option Addr) (cap : Nat) (l : List Int) (h : Li w a cap l) (hl : l.length ≤ 1000000) :
    Calls Try.prog 14 #[.slice a l.length cap] w fun e w' => e = ans (sumO l) ∧ w' = w := by
  have HL := hid h
  clear h
  obtain ⟨n, hn⟩ : ∃ n, n = l.length := ⟨_, rfl⟩
  rw [← hn] at hl ⊢
  have HN := hid hn
  clear hn
  go_enter Try.func14, Try.ntmps14
  go_wp2
  go_loop [4, 5] (fun vs vi => ∃ (k : Nat) (s : Int), k ≤ n ∧ vi = .int .i64 k ∧ vs = .int .i64 s ∧ rt s = true ∧ sumO l = sumGo s (l.drop k)) (fun _ vi => n - (intOf vi).toNat)
  case atStart => exact ⟨0, 0, Nat.zero_le _, rfl, rfl, rfl, rfl⟩
  case round =>
    obtain ⟨k, s, hk, rfl, rfl, hs, he⟩ := hrel
    have HE := hid he
    have HS := hid hs
    clear he hs
    by_cases hlt : k < n
    · have hkl : k < l.length := by rw [← HN.out]; exact hlt
      obtain ⟨cb, co, rfl, _, hc⟩ := HL.out.som (by omega)
      have hx := hc k hkl
      have HD : Hid (l.drop k = l.getD k 0 :: l.drop (k + 1)) := hid (drop_cons hkl)
      obtain ⟨x, hx0⟩ : ∃ x, x = l.getD k 0 := ⟨_, rfl⟩
      rw [← hx0] at hx HD
      clear hc hx0 hkl
      cases ho : addO s x with
      | none =>
        have HC : Hid (Calls Try.prog 12 #[.int .i64 s, .int .i64 x] w fun e w' => e = .returned (.tuple #[.int .i64 0, .int .i64 40]) ∧ w' = w) := by
          apply hid; have := radd_any s x w; rw [ho] at this; exact this
        go_wp2_with (go_at_call 12; refine HC.out.mono ?_; rintro e w' ⟨rfl, rfl⟩)
        go_ret2
        exact ⟨by rw [HE.out, HD.out, sumGo_add HS.out, ho]; rfl, rfl⟩
      | some v =>
        have HC : Hid (Calls Try.prog 12 #[.int .i64 s, .int .i64 x] w fun e w' => e = .returned (.tuple #[.int .i64 v, .int .i64 0]) ∧ w' = w) := by
          apply hid; have := radd_any s x w; rw [ho] at this; exact this
        have HV : Hid (rt v = true) := by
          apply hid
          unfold addO at ho
          split at ho
          · rename_i h; simp at h; cases ho; exact h.2
          · cases ho
        go_wp2_with (go_at_call 12; refine HC.out.mono ?_; rintro e w' ⟨rfl, rfl⟩)
        go_round
        case rel => exact ⟨k + 1, v, by omega, by go_num, rfl, HV.out, by rw [HE.out, HD.out, sumGo_add HS.out, ho]; rfl⟩
        case measure => simp [intOf]; omega
    · go_wp2
      go_ret2
      exact ⟨by rw [HE.out, List.drop_of_length_le (by rw [← HN.out]; omega)]; rfl, rfl⟩
end Go.Proofs.Ytdgmnfhfnhiloaa
