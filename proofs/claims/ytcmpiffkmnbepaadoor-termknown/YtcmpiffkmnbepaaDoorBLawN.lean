/- What TermBack answers, whatever it is handed. -/
import Derived.Test.YtcmpiffkmnbepaaDoorBLawM
namespace Go.Proofs.YtcmpiffkmnbepaaDoor
open Go.RowKit

theorem back_any (a b : Bs) (w : World) (_ : a.length ≤ 140737488355328) (_ : b.length ≤ 140737488355328) :
    Calls Tryd.prog 7 #[St a, St b] w fun en w' => en = .returned (.bool true) ∧ Below w.heap.size w w' := by
  by_cases s1 : 20000 < a.length
  · exact back_big1 a b w s1
  · by_cases s2 : 20000 < b.length
    · exact back_big2 a b w (by omega) s2
    · by_cases d1 : Tm.deep a = 0
      · exact back_no1 a b w (by omega) (by omega) d1
      · by_cases d2 : Tm.deep b = 0
        · exact back_no2 a b w (by omega) (by omega) d1 d2
        · exact back_main a b w d1 d2 (by omega) (by omega)
end Go.Proofs.YtcmpiffkmnbepaaDoor
