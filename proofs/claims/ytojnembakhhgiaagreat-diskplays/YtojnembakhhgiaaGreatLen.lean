/- Len. -/
import Derived.Test.YtojnembakhhgiaaGreatRemAll
namespace Go.Proofs.YtojnembakhhgiaaGreat
open Go.RowKit

theorem row_shape {w : World} {e : TypeId} {sz : Nat} {v : Value} {n : Nat} {xs : List Value} (h : w.ownsRow 0 e sz v n xs) : ∃ ao cap, v = .slice ao n cap := by
  rcases h.2 with ⟨h1, h2⟩ | ⟨g, cap, _, h1, _⟩
  · rw [h2]; exact ⟨_, _, h1⟩
  · exact ⟨_, _, h1⟩
set_option maxRecDepth 100000 in
set_option maxHeartbeats 4000000 in
theorem len_any (w : World) (d : Nat) (s : Ds) (mb : Option Nat) (ms : List Fm) (h : Dv w d s mb ms) (t : Bs) (htl : t.length ≤ 140737488355328) :
    Calls Tryz.prog 20 #[.pointer (some ⟨d, 0, none⟩), St t] w fun e w' => e = .returned (.tuple #[.int .i64 ((lenD s t).1 : Int), .int .i64 ((lenD s t).2 : Int)]) ∧ w' = w := by
  have HFI := hid (find_any w d s mb ms h t htl)
  obtain ⟨R, hR⟩ : ∃ R, R = lenD s t := ⟨_, rfl⟩
  rw [← hR]
  have HR := hid hR
  clear hR
  cases ho : s.off with
  | true =>
    rw [ho] at HFI
    have HRE : Hid (R = (0, 7)) := hid (by rw [HR.out]; unfold lenD; rw [if_pos ho])
    clear h
    go_enter Tryz.func20, Tryz.ntmps20
    go_wp2_with fail
    refine HFI.out.mono ?_
    rintro e w1 ⟨rfl, hw⟩
    subst hw
    go_wp2_with fail
    go_ret2
    rw [HRE.out]
    exact ⟨rfl, rfl⟩
  | false =>
    rw [ho] at HFI
    have hR1 : R = match findF s t with
      | none => (0, 91)
      | some f => ((pagesOf s f).length, 0) := by
      rw [HR.out]
      unfold lenD
      rw [if_neg (by rw [ho]; decide)]
      cases findF s t <;> rfl
    rcases find_at (s := s) h.len (t := t) with ⟨e1, e2⟩ | ⟨f, m, e0, e1, e2, e3⟩
    · rw [e1] at HFI
      rw [e2] at hR1
      have HRE : Hid (R = (0, 91)) := hid hR1
      clear h hR1 e1 e2
      go_enter Tryz.func20, Tryz.ntmps20
      go_wp2_with fail
      refine HFI.out.mono ?_
      rintro e w1 ⟨rfl, hw⟩
      subst hw
      go_wp2_with fail
      go_ret2
      rw [HRE.out]
      exact ⟨rfl, rfl⟩
    · rw [e3] at HFI
      rw [e2] at hR1
      have hfa := h.filz _ e0
      obtain ⟨ao, cap, hpv⟩ := row_shape hfa.pg
      have c0 : w.cell? ⟨m.p, 0, none⟩ = some (.slice ao (pagesOf s f).length cap) := by rw [← hpv]; exact (cell_of_heap hfa.blk 0).trans rfl
      have HRE : Hid (R = ((pagesOf s f).length, 0)) := hid hR1
      clear h hR1 e0 e1 e2 e3 hfa hpv
      generalize (pagesOf s f).length = n at *
      generalize m.p = p at *
      go_enter Tryz.func20, Tryz.ntmps20
      go_wp2_with fail
      refine HFI.out.mono ?_
      rintro e w1 ⟨rfl, hw⟩
      subst hw
      go_wp2_with fail
      go_ret2
      rw [HRE.out]
      exact ⟨rfl, rfl⟩
end Go.Proofs.YtojnembakhhgiaaGreat
