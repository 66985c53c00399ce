/- What a mind notes that hears of a box, and then of its key. -/
import Derived.Test.YtfnnhekjeobicaaGreatHeld
import Derived.KernelRfl
namespace Go.Proofs.YtfnnhekjeobicaaGreat

namespace Case
def box : Bs := [66, 110, 49, 59, 110, 50, 59]
def one : Bs := [110, 49, 59]
def two : Bs := [110, 50, 59]
def all : List Bs := [box, one, two]
def N0 : NM := fun _ => none
def N1 : NM := nput N0 box ⟨false, true, one⟩
def N2 : NM := nput N1 box ⟨true, true, one⟩
def N3 : NM := nput N2 one ⟨false, true, []⟩
def N4 : NM := nput (nput N3 box ⟨true, true, []⟩) two ⟨false, true, []⟩
def N5 : NM := nput N4 one ⟨true, true, []⟩

theorem deep_box : Tm.deep box = 2 := by kernel_rfl
theorem deep_one : Tm.deep one = 1 := by kernel_rfl
theorem deep_two : Tm.deep two = 1 := by kernel_rfl
theorem deep_n : Tm.deep [110] = 0 := by kernel_rfl
theorem kids_box : Tm.kidsOf 63 box = [one, two] := by kernel_rfl
theorem uni : Uni all := by
  refine ⟨by decide, ?_, ?_, ?_, ?_⟩
  · intro t ht
    simp only [all, List.mem_cons, List.not_mem_nil, or_false] at ht
    rcases ht with rfl | rfl | rfl
    · rw [deep_box]; decide
    · rw [deep_one]; decide
    · rw [deep_two]; decide
  · intro t ht h
    simp only [all, List.mem_cons, List.not_mem_nil, or_false] at ht
    rcases ht with rfl | rfl | rfl <;> exact absurd h (by decide)
  · intro t ht h
    simp only [all, List.mem_cons, List.not_mem_nil, or_false] at ht
    rcases ht with rfl | rfl | rfl <;> exact absurd h (by decide)
  · intro t ht h k m hk
    simp only [all, List.mem_cons, List.not_mem_nil, or_false] at ht
    rcases ht with rfl | rfl | rfl
    · rw [kids_box] at hk
      simp at hk
      rw [← hk.2]; decide
    · exact absurd h (by decide)
    · exact absurd h (by decide)
theorem ok0 : Ok all N0 := ⟨fun _ h => (by cases h), fun _ h => absurd rfl h⟩
theorem take1 : takeF 64 (N0, []) box = (N1, [box]) := by kernel_rfl
theorem follow1 {M : NM} (h : Follow N1 [box] [] M) : M = N1 := by
  cases h with
  | step _ h =>
    have e : (([] ++ boxesF N1 [box]).foldl (passStep [box]) ((N1, []), [])) = ((N1, []), [box]) := by kernel_rfl
    rw [e] at h
    cases h with
    | done => rfl
    | step h0 _ => exact absurd rfl h0
theorem heard1 : nput N1 box ⟨true, (nget N1 box).held, (nget N1 box).key⟩ = N2 := by kernel_rfl
theorem mk2 : mkF N2 two = false := by kernel_rfl
theorem get2 : (nget N2 one).heard = false := by kernel_rfl
theorem take3 : takeF 64 (N2, []) one = (N3, [one]) := by kernel_rfl
theorem follow3 {M : NM} (h : Follow N3 [one] [box] M) : M = N4 := by
  cases h with
  | step _ h =>
    have e : (([box] ++ boxesF N3 [one]).foldl (passStep [one]) ((N3, []), [])) = ((N4, [two]), []) := by kernel_rfl
    rw [e] at h
    cases h with
    | step _ h =>
      have e : (([] ++ boxesF N4 [two]).foldl (passStep [two]) ((N4, []), [])) = ((N4, []), []) := by kernel_rfl
      rw [e] at h
      cases h with
      | done => rfl
      | step h0 _ => exact absurd rfl h0
theorem heard4 : nput N4 one ⟨true, (nget N4 one).held, (nget N4 one).key⟩ = N5 := by kernel_rfl
theorem mk_two : mkF N5 two = true := by kernel_rfl
theorem mk_pub : mkF N5 [80, 110, 50, 59] = true := by kernel_rfl
theorem mk_text : mkF N5 [116, 49, 58, 97] = true := by kernel_rfl
theorem mk_three : mkF N5 [110, 51, 59] = false := by kernel_rfl
theorem n2_of {t : Bs} {m : Note} (h : N2 t = some m) : t = box ∧ m = ⟨true, true, one⟩ := by
  simp only [N2, N1, N0, nput] at h
  split at h
  · rename_i e; cases h; exact ⟨e, rfl⟩
  · cases h
theorem over2 {L : List (Bs × Note)} (h : Over N2 L) : L = [(box, ⟨true, true, one⟩)] := by
  have hm : (box, (⟨true, true, one⟩ : Note)) ∈ L := (h.mem _ _).2 (by kernel_rfl)
  have hall : ∀ x ∈ L, x = (box, ⟨true, true, one⟩) := fun x hx => by
    have := n2_of ((h.mem x.1 x.2).1 hx)
    obtain ⟨a, b⟩ := x
    simp only at this
    rw [this.1, this.2]
  match L, h.nodup with
  | [], _ => cases hm
  | [x], _ => rw [hall x (by simp)]
  | x :: y :: L, hn =>
    exfalso
    have e1 := hall x (by simp)
    have e2 := hall y (by simp)
    subst e1 e2
    simp at hn
theorem held5 {L : List (Bs × Note)} (h : Over N5 L) : (heldL L).length = 3 := by
  have hnd : (heldL L).Nodup := by
    unfold heldL
    exact (List.Sublist.map _ List.filter_sublist).nodup h.nodup
  have hsub : ∀ x ∈ heldL L, x ∈ all := by
    intro x hx
    obtain ⟨y, hy, rfl⟩ := List.mem_map.1 hx
    have := (h.mem y.1 y.2).1 (List.mem_filter.1 hy).1
    simp only [N5, N4, N3, N2, N1, N0, nput] at this
    simp only [all, List.mem_cons, List.not_mem_nil, or_false]
    split at this
    · rename_i e; exact Or.inr (Or.inl e)
    · split at this
      · rename_i e; exact Or.inr (Or.inr e)
      · split at this
        · rename_i e; exact Or.inl e
        · cases this
  have h1 := length_sub hnd hsub
  have h2 : all.length ≤ (heldL L).length := length_sub (by decide) (fun x hx => by
    simp only [all, List.mem_cons, List.not_mem_nil, or_false] at hx
    rcases hx with rfl | rfl | rfl
    · exact h.held (by kernel_rfl)
    · exact h.held (by kernel_rfl)
    · exact h.held (by kernel_rfl))
  have h3 : all.length = 3 := rfl
  omega
theorem any5 : ∃ t, (nget N5 t).held = true := ⟨two, by kernel_rfl⟩
end Case
end Go.Proofs.YtfnnhekjeobicaaGreat
