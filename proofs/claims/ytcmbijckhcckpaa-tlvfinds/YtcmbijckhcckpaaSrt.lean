/- slices.Sort of numbers: at most a hundred of them. -/
import Derived.Test.YtcmbijckhcckpaaPdq
import Derived.Test.YtcmbijckhcckpaaUnkC
namespace Go.Proofs.Ytcmbijckhcckpaa
open Go.RowKit Go.Sort

set_option maxRecDepth 100000 in
set_option maxHeartbeats 4000000 in
theorem sort36 (w : World) (g c : Nat) (d : Array Int) (hH : Holds (Value.int .u64) w g 0 d) (hg : g < w.heap.size) (hsz : d.size ≤ 100) :
    Calls Try.prog 36 #[.slice (some ⟨g, 0, none⟩) d.size c] w fun e w' => e = .returned (.tuple #[]) ∧ Srt w g 0 d.size d w' := by
  have hl := len_le d.size hsz
  have HLN := hid (len_any d.size hsz w)
  have HPD := hid (pdq_any (d.size - 0 + 1) w g c 0 d.size (bitsLen d.size) d (by omega) hH hg (by omega) (Nat.le_refl _) hsz (by omega) (Or.inl rfl))
  have hw : IntKind.u64.wrap (d.size : Int) = (d.size : Int) := by rw [IntKind.wrap_u64]; omega
  generalize bitsLen d.size = k at *
  clear hH
  obtain ⟨s, hs⟩ : ∃ s, s = d.size := ⟨_, rfl⟩
  rw [← hs] at hw hsz HLN HPD
  rw [← hs]
  clear hs hl
  go_enter Try.func36, Try.ntmps36
  go_wp2_with fail
  refine HLN.out.mono ?_
  rintro e w1 ⟨rfl, rfl⟩
  go_wp2_with fail
  refine HPD.out.mono ?_
  rintro e w2 ⟨rfl, h2⟩
  have H2 := hid h2
  clear h2
  go_wp2_with fail
  refine bodyPost_end (results_none rfl _ _ _) rfl ?_
  exact ⟨rfl, H2.out⟩

theorem arr_get (K : List Nat) (j : Nat) (hj : j < K.length) : ((K.map fun k : Nat => (k : Int)).toArray)[j]! = (K[j] : Int) := by
  rw [getElem!_pos _ j (by simpa using hj)]
  simp
theorem back_nat (K : List Nat) : ((K.map fun k : Nat => (k : Int)).toArray.toList).map Int.toNat = K := by
  induction K with
  | nil => rfl
  | cons x K ih => rw [List.map_cons, List.map_cons]; exact congrArg (x :: ·) ih
theorem sortU : SortU := by
  intro w B K ao cap hK hown
  rcases hown.2 with ⟨hv, h0⟩ | ⟨g, cap', cur, hv, hB, hg, hnc, hcm, hcs, htk⟩
  · have h0' : K = [] := List.length_eq_zero_iff.1 h0
    subst h0'
    refine (sort_few w ao 0 cap (by omega)).mono ?_
    rintro e w' ⟨rfl, rfl⟩
    exact ⟨rfl, Go.RowKit.Below.refl _ _, [], fun i j _ hj => absurd hj (Nat.not_lt_zero _), List.Perm.refl _, hown⟩
  · injection hv with h1 h2 h3
    subst h1; subst h3
    have hgl : g < w.heap.size := by
      apply Classical.byContradiction
      intro h
      rw [Array.getElem?_eq_none (by omega)] at hg
      cases hg
    obtain ⟨d, hd⟩ : ∃ d : Array Int, d = (K.map fun k : Nat => (k : Int)).toArray := ⟨_, rfl⟩
    have hds : d.size = K.length := by rw [hd]; simp
    have hH : Holds (Value.int .u64) w g 0 d := fun j hj => by
      rw [Nat.zero_add]
      refine ⟨?_, hown.frozenAt j⟩
      have hdj : d[j]! = (K[j]'(by omega) : Int) := by subst hd; exact arr_get K j (by omega)
      rw [hown.cellAt j (by omega), ucs_get (by omega), hdj]
    have hC := sort36 w g cap d hH hgl (by omega)
    rw [hds] at hC
    refine hC.mono ?_
    rintro e w' ⟨rfl, d', hp, hs, hA⟩
    have hds' : d'.size = K.length := hp.1.trans hds
    have hpl : d'.toList.Perm d.toList := by
      have h := hp.2.2
      rw [Array.extract_eq_self_of_le (by omega), Array.extract_eq_self_of_le (by omega)] at h
      exact h
    have hnn : ∀ x ∈ d'.toList, 0 ≤ x := fun x hx => by
      have h := hpl.mem_iff.1 hx
      rw [hd] at h
      simp only [List.mem_map] at h
      obtain ⟨k, _, rfl⟩ := h
      omega
    have hget : ∀ j (hj : j < d'.size), d'[j]! = ((d'.toList.map Int.toNat)[j]'(by simpa using hj) : Int) := fun j hj => by
      rw [getElem!_pos _ j hj]
      have h := hnn d'[j] (by simp)
      simp only [List.getElem_map, Array.getElem_toList]
      omega
    refine ⟨rfl, ?_, d'.toList.map Int.toNat, ?_, ?_, ?_⟩
    · have h := hA.below
      refine ⟨h.os, h.tape, h.output, hA.size, fun i hi => ?_⟩
      rw [h.block i (by omega)]
      show (w.heap.modify g _)[i]? = _
      rw [Array.getElem?_modify, if_neg (by omega)]
    · intro i j hij hj
      rw [List.length_map, Array.length_toList] at hj
      rcases Nat.lt_or_eq_of_le hij with h | rfl
      · have h1 := hs i j (Nat.zero_le _) h (by omega)
        rw [hget i (by omega), hget j hj] at h1
        have h2 := of_decide_eq_false h1
        omega
      · exact Nat.le_refl _
    · have h := hpl.map Int.toNat
      rw [hd, back_nat] at h
      exact h
    · have hb := hA.below.block g hgl
      have e1 : (putRow (Value.int .u64) w g 0 d').heap[g]? = some (.cells (putCells (Value.int .u64) 0 d' cur) 22 (0, 0)) := by
        show (w.heap.modify g _)[g]? = _
        rw [Array.getElem?_modify, if_pos rfl, hg]
        rfl
      rw [e1] at hb
      refine ⟨by rw [ucs_len]; simp [hds'], Or.inr ⟨g, cap, _, rfl, hB, hb, hnc, hcm, ?_, ?_⟩⟩
      · unfold putCells
        rw [Array.size_mapIdx]
        exact hcs
      · rw [Nat.mul_one]
        apply List.ext_getElem?
        intro j
        by_cases hj : j < K.length
        · have h1 := (hA.holds j (by omega)).1
          rw [Nat.zero_add] at h1
          unfold World.cell? at h1
          rw [hb] at h1
          rw [List.getElem?_take_of_lt hj, Array.getElem?_toList, ucs_get (by simpa [hds'] using hj)]
          refine h1.trans ?_
          rw [hget j (by omega)]
        · rw [List.getElem?_take_eq_none (by omega), List.getElem?_eq_none (by rw [ucs_len, List.length_map, Array.length_toList]; omega)]
end Go.Proofs.Ytcmbijckhcckpaa
