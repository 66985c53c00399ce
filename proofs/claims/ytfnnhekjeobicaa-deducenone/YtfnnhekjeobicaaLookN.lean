/- Going over no notes. -/
import Derived.Test.YtfnnhekjeobicaaFollowW
namespace Go.Proofs.Ytfnnhekjeobicaa
open Go.RowKit Go.Maps Go.WideElems

set_option maxRecDepth 100000 in
set_option maxHeartbeats 2000000 in
theorem look_none (w : World) (p : Nat) (N : NM) (h : Rm w p none N) :
    Calls Try.prog 10 #[.pointer (some ⟨p, 0, none⟩)] w fun e w' => e = .returned (.tuple #[.int .i64 0, .slice none 0 0]) ∧ Below w.heap.size w w' := by
  have hc := h.cell
  have hrg := run_range_nilMap (P := Try.prog) w 33 22 32 Try.underlying33
  have hnx : ∀ ty, (Instr.next (.pointer (some ⟨w.heap.size, 0, none⟩)) false ty).run Try.prog (w.alloc (.mapIter none 0 #[] 0)) = _ := fun ty => run_next_nilMap w ty 0 0 #[]
  go_enter Try.func10, Try.ntmps10
  go_wp2
  refine wp_loop_rounds 1 ?_
  rw [rounds_succ]
  go_wp2
  go_ret2
  exact ⟨rfl, (Below.refl _ _).alloc (Nat.le_refl _) _⟩
end Go.Proofs.Ytfnnhekjeobicaa
