/- What comes in: records. -/
import Derived.Test.YtcmbijckhcckpaaDoor
import Derived.Test.YtcmbijckhcckpaaRecs
import Derived.Deep.SlicePairs
namespace Go.Proofs.Ytcmbijckhcckpaa
open Go.ChangeShapes Go.WideShapes Go.ChangeAt Go.RowKit

theorem Try.cells39 : Try.prog.cellsOf 39 = 2 := by kernel_rfl
theorem Try.cells22 : Try.prog.cellsOf 22 = 1 := by kernel_rfl
theorem Try.cells23 : Try.prog.cellsOf 23 = 1 := by kernel_rfl
theorem trod_bytes {H : Type} {enc : TypeId × Value → H} {W : World} {sp : Nat → Bool} {held : Bool} {n : Nat} {v : Value} {d : DataW H} {p : List MemPlace} (h : DataW.trod enc Try.prog W 0 sp held n 23 [v] = some (d, p)) : ∃ l : Bs, Sl W v l := by
  rcases open_ints Try.underlying23 Try.underlying5 Try.cells5 h with ⟨hcs, hx⟩ | ⟨a, len', cap', zs, hcs, _, hl, hm, hz, hx, hcell, hwz⟩
  · have hv : v = .slice none 0 0 := by simpa using hcs
    subst hv
    exact ⟨[], Sl.nil W⟩
  · have hv : v = .slice (some a) len' cap' := by simpa using hcs
    subst hv
    obtain ⟨c, _, hs⟩ := sl_of_ints hl (by rw [hz]; split <;> omega) hcell hwz
    exact ⟨c, hs⟩
theorem recs_in {H : Type} {enc : TypeId × Value → H} {W : World} {base : Nat} {v : Value} {d : DataW H} {p : List MemPlace} (hv : Value.okWide Try.prog W .any base 30 v) (h : DataW.Trod enc Try.prog W 0 (fun _ => true) true 30 v d p) :
    ∃ L : List Rec, Rcs W v L ∧ ∀ i (h : i < L.length), L[i].1 < 18446744073709551616 := by
  obtain ⟨fuel, hf⟩ := h
  obtain ⟨a0, len, cap, rfl⟩ := okWide_slice Try.underlying30 hv
  have hf' : DataW.trod enc Try.prog W 0 (fun _ => true) true fuel 30 [.slice a0 len cap] = some (d, p) := by simpa [Value.cells] using hf
  rcases Go.Deep.open_slice_pairs Try.underlying30 Try.underlying39 Try.cells39 rfl rfl Try.cells22 Try.cells23 hf' with ⟨hcs, _⟩ | ⟨a, len', cap', m, k, V0, V1, D0, D1, P0, P1, hcs, _, hl, hm, hmm, hx, hel⟩
  · have e : Value.slice a0 len cap = .slice none 0 0 := by simpa using hcs
    rw [e]
    exact ⟨[], Rcs.nil W, fun i hi => by simp at hi⟩
  · have e : Value.slice a0 len cap = .slice (some a) len' cap' := by simpa using hcs
    rw [e]
    have hlm : len' ≤ m := by rw [hmm]; split <;> omega
    have each : ∀ i : Nat, ∃ r : Rec, i < len' → r.1 < 18446744073709551616 ∧ V0 i = .int .u64 (r.1 : Int) ∧ Sl W (V1 i) r.2 := by
      intro i
      by_cases hi : i < len'
      · obtain ⟨_, _, h3, h4⟩ := hel i (by omega)
        obtain ⟨z, hz1, hz2, hz3⟩ := DataW.trod_int Try.underlying22 h3
        obtain ⟨l, hl'⟩ := trod_bytes h4
        have hb := bounds_u64 hz3
        have hz1' : V0 i = .int .u64 z := by simpa using hz1
        exact ⟨(z.toNat, l), fun _ => ⟨by simp only; omega, by rw [hz1']; simp only; congr 1; omega, hl'⟩⟩
      · exact ⟨(0, []), fun h => absurd h hi⟩
    obtain ⟨f, hf2⟩ := Classical.axiomOfChoice each
    have hlen : ((List.range len').map f).length = len' := by simp
    have hg : ∀ i (h : i < ((List.range len').map f).length), ((List.range len').map f)[i] = f i := by
      intro i hi; simp
    refine ⟨(List.range len').map f, Or.inr ⟨a, cap', by rw [hlen], by rw [hlen]; exact hl, fun h0 => ?_, fun i hi => ?_⟩, fun i hi => ?_⟩
    · have h0' : 0 < len' := by
        apply Nat.pos_of_ne_zero; intro e; apply h0; rw [e]; rfl
      have hc0 := (hel 0 (by omega)).1
      have e0 : a.add (0 * 2) = a := by simp [Addr.add]
      rw [e0] at hc0
      exact plain_of_cell hc0
    · have hi' : i < len' := by rw [hlen] at hi; exact hi
      obtain ⟨h1, h2, _⟩ := hel i (by omega)
      obtain ⟨_, h4, h5⟩ := hf2 i hi'
      rw [hg i hi]
      exact ⟨V1 i, by rw [h1, h4], h2, h5⟩
    · have hi' : i < len' := by rw [hlen] at hi; exact hi
      rw [hg i hi]
      exact (hf2 i hi').1
end Go.Proofs.Ytcmbijckhcckpaa
