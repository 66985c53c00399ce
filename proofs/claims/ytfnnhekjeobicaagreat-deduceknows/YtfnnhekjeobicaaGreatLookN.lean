/- Going over no notes. -/
import Derived.Test.YtfnnhekjeobicaaGreatFollowW
namespace Go.Proofs.YtfnnhekjeobicaaGreat
open Go.RowKit Go.Maps Go.WideElems

set_option maxRecDepth 100000 in
set_option maxHeartbeats 2000000 in
theorem look_none (w : World) (p : Nat) (N : NM) (h : Rm w p none N) :
    Calls Tryz.prog 25 #[.pointer (some ⟨p, 0, none⟩)] w fun e w' => e = .returned (.tuple #[.int .i64 0, .slice none 0 0]) ∧ Below w.heap.size w w' := by
  have hc := h.cell
  have hrg := run_range_nilMap (P := Tryz.prog) w 39 28 43 Tryz.underlying39
  have hnx : ∀ ty, (Instr.next (.pointer (some ⟨w.heap.size, 0, none⟩)) false ty).run Tryz.prog (w.alloc (.mapIter none 0 #[] 0)) = _ := fun ty => run_next_nilMap w ty 0 0 #[]
  go_enter Tryz.func25, Tryz.ntmps25
  go_wp2
  refine wp_loop_rounds 1 ?_
  rw [rounds_succ]
  go_wp2
  go_ret2
  exact ⟨rfl, (Below.refl _ _).alloc (Nat.le_refl _) _⟩
end Go.Proofs.YtfnnhekjeobicaaGreat
