/- Unknown, of any known, where slices.Sort sorts. -/
import Derived.Test.YtcmbijckhcckpaaBin
namespace Go.Proofs.Ytcmbijckhcckpaa
open Go.RowKit

/-- what slices.Sort must do to an owned row of numbers -/
def SortU : Prop := ∀ (w : World) (B : Nat) (K : List Nat) (ao : Option Addr) (cap : Nat), K.length ≤ 100 → w.ownsRow B 22 1 (.slice ao K.length cap) K.length (ucs K) →
  Calls Try.prog 36 #[.slice ao K.length cap] w fun e w' => e = .returned (.tuple #[]) ∧ Below B w w' ∧ ∃ S : List Nat, Up S ∧ S.Perm K ∧ w'.ownsRow B 22 1 (.slice ao K.length cap) K.length (ucs S)

theorem ucs_get {K : List Nat} {i : Nat} (h : i < K.length) : (ucs K)[i]? = some (.int .u64 (K[i] : Int)) := by
  unfold ucs
  rw [List.getElem?_map, List.getElem?_eq_getElem h]
  rfl
theorem any_perm {S K : List Nat} (h : S.Perm K) (t : Nat) : S.any (· == t) = K.any (· == t) := by
  rw [Bool.eq_iff_iff, List.any_eq_true, List.any_eq_true]
  exact ⟨fun ⟨x, hx, e⟩ => ⟨x, h.mem_iff.1 hx, e⟩, fun ⟨x, hx, e⟩ => ⟨x, h.mem_iff.2 hx, e⟩⟩
theorem unknown_any (HS : SortU) (w : World) (v u : Value) (L : List Rec) (K : List Nat) (hL : Rcs w v L) (hm : L.length ≤ 140737488355328) (ht : ∀ i (h : i < L.length), L[i].1 < 18446744073709551616) (hK : Us w u K) (hk : K.length ≤ 100) :
    Calls Try.prog 23 #[v, u] w fun e w' => e = .returned (.bool (L.any fun r => r.1 % 2 == 0 && !K.any (· == r.1))) ∧ Below w.heap.size w w' := by
  refine unknown_of w v u L (fun t => K.any (· == t)) hL hm ht ?_
  refine (clone_us w u K hK hk).mono ?_
  rintro e w1 ⟨ao, cap, rfl, hown, hb1⟩
  refine ⟨ao, K.length, cap, rfl, hb1, ?_⟩
  refine (HS w1 w.heap.size K ao cap hk hown).mono ?_
  rintro e w2 ⟨rfl, hb2, S, hup, hperm, hown2⟩
  refine ⟨rfl, hb1.trans hb2, fun W t hb => ?_⟩
  have hlen : S.length = K.length := hperm.length_eq
  have hown3 := hown2
  rcases hown2.2 with ⟨e1, e2⟩ | ⟨g, c, cur, e1, e2, e3, _⟩
  · have hK0 : K = [] := List.eq_nil_of_length_eq_zero e2
    subst hK0
    rw [e1]
    refine (bin_none W t).mono ?_
    rintro e w3 ⟨rfl, hw3⟩
    subst hw3
    exact ⟨0, rfl, Below.refl _ _⟩
  · have hg : g < w2.heap.size := lt_of_block e3
    rw [e1] at hown3
    rw [e1, ← hlen, ← any_perm hperm t]
    refine (bin_any W g c t S hup (by rw [hlen]; exact hk) (fun i hi => ?_)).mono ?_
    · have h1 := hown3.cellAt i (by rw [← hlen]; omega)
      rw [ucs_get hi] at h1
      rw [← h1]
      exact World.cell?_of_block (hb.block g hg)
    · rintro e w3 ⟨⟨i, rfl⟩, hw3⟩
      subst hw3
      exact ⟨i, rfl, Below.refl _ _⟩
end Go.Proofs.Ytcmbijckhcckpaa
