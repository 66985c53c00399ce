/- The law TlvBack. -/
import Derived.Test.YtdhmmllpioppfaaGreatVSame
namespace Go.Proofs.YtdhmmllpioppfaaGreat.V
open Go.RowKit

theorem stream_err {L : List Rec} {c : Bs} {e : Nat} (h : streamR L = (c, e)) (he : e ≠ 0) : c = [] := by
  unfold streamR at h
  split at h
  · cases h; rfl
  · split at h
    · cases h; rfl
    · split at h
      · cases h; rfl
      · cases h; exact absurd rfl he
theorem body_le {L : List Rec} {r : Rec} (h : r ∈ L) : r.2.length ≤ (streamB L).length := by
  induction L with
  | nil => cases h
  | cons a L ih =>
    have e : streamB (a :: L) = recB a ++ streamB L := by simp [streamB]
    rw [e, List.length_append]
    rcases List.mem_cons.1 h with h | h
    · subst h
      rw [rec_len]
      omega
    · have := ih h
      omega
theorem recs_few {b : Bs} {m : List Rec} (h : recsB b = (m, 0)) : Few m ∧ m.length ≤ 64 := by
  unfold recsB at h
  split at h
  · cases h
  · rename_i hb
    obtain ⟨l, h1, h2, _, h4, h5⟩ := recs_got _ _ _ _ (Nat.le_refl _) h
    simp only [List.nil_append] at h1
    subst h1
    have h6 := h4 (by simp)
    refine ⟨⟨by omega, fun i hi => ⟨(h5 _ (List.getElem_mem hi)).1, ?_⟩⟩, h6⟩
    have := body_le (List.getElem_mem hi)
    rw [h2] at this
    omega

end Go.Proofs.YtdhmmllpioppfaaGreat.V
