/- slices.Clone of numbers. -/
import Derived.Test.YtcmbijckhcckpaaUs
import Derived.Test.YtcmbijckhcckpaaUnkB
namespace Go.Proofs.Ytcmbijckhcckpaa
open Go.RowKit

/-- numbers as cells -/
def ucs (K : List Nat) : List Value := K.map fun k : Nat => .int .u64 (k : Int)
theorem ucs_len (K : List Nat) : (ucs K).length = K.length := List.length_map _
theorem ucs_at {K : List Nat} {j : Nat} {u : Value} (h : (ucs K)[j]? = some u) : ∃ hj : j < K.length, u = .int .u64 (K[j] : Int) := by
  unfold ucs at h
  rw [List.getElem?_map, Option.map_eq_some_iff] at h
  obtain ⟨a, h1, h2⟩ := h
  obtain ⟨hj, h3⟩ := List.getElem?_eq_some_iff.1 h1
  exact ⟨hj, by rw [← h2, ← h3]⟩

set_option maxRecDepth 100000 in
set_option maxHeartbeats 1000000 in
theorem clone_us (w : World) (v : Value) (K : List Nat) (hK : Us w v K) (hk : K.length ≤ 100) :
    Calls Try.prog 35 #[v] w fun e w' => ∃ ao cap, e = .returned (.slice ao K.length cap) ∧ w'.ownsRow w.heap.size 22 1 (.slice ao K.length cap) K.length (ucs K) ∧ Below w.heap.size w w' := by
  have hK' := hK
  rcases hK with ⟨rfl, rfl⟩ | ⟨a, cap, rfl, k1, k2, k3⟩
  · clear hK' hk
    have hq := nil_yes41
    go_enter Try.func35, Try.ntmps35
    go_wp2_with fail
    go_ret
    exact ⟨none, 0, rfl, ⟨rfl, Or.inl ⟨rfl, rfl⟩⟩, Below.refl _ _⟩
  · obtain ⟨i0, hi, hz0, hz1, hz2⟩ := info_get Try.info22
    have hown : (w.alloc (.cells #[] 22)).ownsRow w.heap.size 22 1 (.slice (some ⟨w.heap.size, 0, none⟩) 0 0) 0 [] := World.ownsRow_made w #[] 0 (Nat.le_refl _) (by unfold maxLen; omega) rfl
    have hb1 := (Below.refl w.heap.size w).alloc (Nat.le_refl _) (.cells #[] 22)
    obtain ⟨v', w', h4, h5, h6, h7⟩ := run_append_own (P := Try.prog) (w.alloc (.cells #[] 22)) w.heap.size 41 41 22 i0 _ 1 8 Try.underlying41 hi hz0 hz1 hz2 rfl (by decide) _ 0 [] hown a K.length cap (ucs K) (by rw [ucs_len]; omega)
      (fun j u hj => by
        obtain ⟨hj1, rfl⟩ := ucs_at hj
        rcases hK'.below hb1 with ⟨e, _⟩ | ⟨a2, cap2, e, _, _, h3⟩
        · cases e
        · cases e
          exact h3 j hj1)
      (fun u hu => by
        obtain ⟨k, _, rfl⟩ := List.mem_map.1 hu
        rfl) (by unfold maxLen; omega) (by omega) hb1.size
    simp only [Nat.zero_add, List.nil_append] at h5
    obtain ⟨ao, c2, hv'⟩ : ∃ ao c2, v' = .slice ao K.length c2 := by
      rcases h5.2 with ⟨h1, h2⟩ | ⟨g, cap, _, h1, _⟩
      · rw [h2]; exact ⟨_, _, h1⟩
      · exact ⟨_, _, h1⟩
    subst hv'
    have HRUN : Hid (∀ ty, (Builtin.append_ #[41, 41] ty #[.slice (some ⟨w.heap.size, 0, none⟩) 0 0, .slice (some a) K.length cap]).run Try.prog (w.alloc (.cells #[] 22)) = .ok (.slice ao K.length c2) w') := hid (fun ty => h4)
    have HB := hid (hb1.grown h6 hb1.size (fun k h => by cases h; exact Nat.le_refl _))
    have HO := hid h5
    clear h4 h5 h6 h7 k1 k2 k3 hown hb1 hi hz0 hz1 hz2 i0 hK'
    generalize K.length = m at *
    have hq := fun W => nil_no41 W a m cap
    go_enter Try.func35, Try.ntmps35
    go_wp2_with (first | (at_builtin; refine wpList_append_run rfl _ _ 41 rfl _ _ (.slice ao m c2) w' rfl rfl HRUN.out ?_) | fail)
    go_ret
    exact ⟨ao, c2, rfl, HO.out, HB.out⟩
end Go.Proofs.Ytcmbijckhcckpaa
