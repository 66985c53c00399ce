/- Whether a name stands in a term. -/
import Derived.Test.YtfnnhekjeobicaaGreatMi
namespace Go.Proofs.YtfnnhekjeobicaaGreat
open Go.RowKit

/-- the parts of a right term, none of a wrong one -/
def kidsR (t : Bs) : List Bs := if Tm.deep t = 0 then [] else Tm.kidsOf 63 t
theorem kidsR_right {t k : Bs} (h : k ∈ kidsR t) : Tm.deep k < Tm.deep t := by
  unfold kidsR at h
  split at h
  · cases h
  · rename_i hd; exact (Tm.kids_right hd h).2.1
theorem kidsR_count (t : Bs) : (kidsR t).length ≤ 32 := by
  unfold kidsR
  split
  · simp
  · rename_i hd; exact Tm.kids_count hd

end Go.Proofs.YtfnnhekjeobicaaGreat
