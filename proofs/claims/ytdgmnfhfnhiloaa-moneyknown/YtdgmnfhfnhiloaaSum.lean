/- Sums, of both sides. -/
import Derived.Test.YtdgmnfhfnhiloaaSmall
namespace Go.Proofs.Ytdgmnfhfnhiloaa
open Go.RowKit

/-- a row of numbers in memory -/
structure Li (w : World) (a : Option Addr) (cap : Nat) (l : List Int) : Prop where
  cap : l.length ≤ cap
  som : 0 < l.length → ∃ cb co, a = some ⟨cb, co, none⟩ ∧ cb < w.heap.size ∧ ∀ i, i < l.length → w.cell? ⟨cb, co + i, none⟩ = some (.int .i64 (l.getD i 0))
theorem Li.below {w w' : World} {a : Option Addr} {cap : Nat} {l : List Int} (h : Li w a cap l) (hb : Below w.heap.size w w') : Li w' a cap l := by
  refine ⟨h.cap, fun h0 => ?_⟩
  obtain ⟨cb, co, e, hl, hc⟩ := h.som h0
  exact ⟨cb, co, e, Nat.lt_of_lt_of_le hl hb.size, fun i hi => (hb.cell (p := ⟨cb, co + i, none⟩) hl).trans (hc i hi)⟩
theorem drop_cons {l : List Int} {k : Nat} (h : k < l.length) : l.drop k = l.getD k 0 :: l.drop (k + 1) := by
  rw [List.drop_eq_getElem_cons h]; simp [List.getD, h]

set_option maxHeartbeats 1000000 in
theorem sum_any (w : World) (a : Option Addr) (cap : Nat) (l : List Int) (h : Li w a cap l) (hl : l.length ≤ 1000000) :
    Calls Try.prog 11 #[.slice a l.length cap] w fun e w' => e = ans (sumO l) ∧ w' = w := by
  have HL := hid h
  clear h
  obtain ⟨n, hn⟩ : ∃ n, n = l.length := ⟨_, rfl⟩
  rw [← hn] at hl ⊢
  have HN := hid hn
  clear hn
  go_enter Try.func11, Try.ntmps11
  go_wp2
  go_loop [4, 9] (fun vs vi => ∃ (k : Nat) (s : Int), k ≤ n ∧ vi = .int .i64 k ∧ vs = .int .i64 s ∧ rt s = true ∧ sumO l = sumGo s (l.drop k)) (fun _ vi => n - (intOf vi).toNat)
  case atStart => exact ⟨0, 0, Nat.zero_le _, rfl, rfl, rfl, rfl⟩
  case round =>
    obtain ⟨k, s, hk, rfl, rfl, hs, he⟩ := hrel
    obtain ⟨hs0, hs1⟩ := rt_iff.1 hs
    have HE := hid he
    have HS := hid hs
    clear he hs
    by_cases hlt : k < n
    · have hkl : k < l.length := by rw [← HN.out]; exact hlt
      obtain ⟨cb, co, rfl, _, hc⟩ := HL.out.som (by omega)
      have hx := hc k hkl
      have HD : Hid (l.drop k = l.getD k 0 :: l.drop (k + 1)) := hid (drop_cons hkl)
      obtain ⟨x, hx0⟩ : ∃ x, x = l.getD k 0 := ⟨_, rfl⟩
      rw [← hx0] at hx HD
      clear hc hx0 hkl
      cases hr : rt x
      · go_wp2_with (go_at_call 15; refine (right_any _ _).mono ?_; rintro e w' ⟨rfl, rfl⟩)
        go_ret2
        exact ⟨by rw [HE.out, HD.out, sumGo_cons, hr]; rfl, rfl⟩
      · obtain ⟨hx0, hx1⟩ := rt_iff.1 hr
        cases hr2 : rt (s + x)
        · go_wp2_with (go_at_call 15; refine (right_any _ _).mono ?_; rintro e w' ⟨rfl, rfl⟩)
          go_ret2
          exact ⟨by rw [HE.out, HD.out, sumGo_cons, hr, hr2]; rfl, rfl⟩
        · go_wp2_with (go_at_call 15; refine (right_any _ _).mono ?_; rintro e w' ⟨rfl, rfl⟩)
          go_round
          case rel => exact ⟨k + 1, s + x, by omega, by go_num, rfl, hr2, by rw [HE.out, HD.out, sumGo_cons, hr, hr2]; rfl⟩
          case measure => simp [intOf]; omega
    · go_wp2
      go_ret2
      exact ⟨by rw [HE.out, List.drop_of_length_le (by rw [← HN.out]; omega)]; rfl, rfl⟩
end Go.Proofs.Ytdgmnfhfnhiloaa
