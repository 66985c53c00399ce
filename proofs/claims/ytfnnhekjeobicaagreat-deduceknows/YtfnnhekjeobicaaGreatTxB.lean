/- Names, texts and tuples of any length, as the program makes them. -/
import Derived.Test.YtfnnhekjeobicaaGreatBuild
namespace Go.Proofs.YtfnnhekjeobicaaGreat
open Go.RowKit

theorem texts_below {w w' : World} {kv : Value} {ks : List Bs} (h : Texts w kv ks) (hb : Below w.heap.size w w') : Texts w' kv ks := by
  obtain ⟨ao, cap, e, h1⟩ := h
  refine ⟨ao, cap, e, fun hne => ?_⟩
  obtain ⟨g, o, e2, hlt, hc⟩ := h1 hne
  exact ⟨g, o, e2, Nat.lt_of_lt_of_le hlt hb.size, fun i hi => (hb.cell (p := ⟨g, o + i, none⟩) hlt).trans (hc i hi)⟩
end Go.Proofs.YtfnnhekjeobicaaGreat
