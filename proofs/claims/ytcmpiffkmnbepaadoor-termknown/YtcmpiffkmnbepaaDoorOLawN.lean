/- What TermOpens answers, whatever it is handed. -/
import Derived.Test.YtcmpiffkmnbepaaDoorROpenK
namespace Go.Proofs.YtcmpiffkmnbepaaDoor
open Go.RowKit

theorem kidsN_few (f : Bs → Option (Nat × Bs)) : ∀ (k : Nat) (l : Bs), (Tm.kidsN f k l).length ≤ k
  | 0, _ => by simp [Tm.kidsN]
  | k + 1, l => by
    rw [Tm.kidsN]
    cases h : f l with
    | none => simp
    | some x => have := kidsN_few f k x.2; simp; omega

theorem kids_few {c : UInt8} {l : Bs} (hd : Tm.deep (c :: l) ≠ 0) : (Tm.kidsOf 63 (c :: l)).length ≤ 20000 := by
  rw [Tm.kidsOf]
  by_cases h84 : c = 84
  · subst h84
    rw [if_pos rfl]
    have h := (Tm.deep_is hd).1.2.2 64 [] (Tm.deep_le _)
    rw [List.append_nil, Tm.rd_cons, if_neg (by decide), if_neg (by decide), if_pos rfl] at h
    unfold Tm.tupleA at h
    unfold Tm.tupleK
    cases hn : Tm.num 58 l with
    | none => simp
    | some x =>
      obtain ⟨k, r⟩ := x
      rw [hn] at h
      simp only at h ⊢
      by_cases hk : k ≤ 32
      · exact Nat.le_trans (kidsN_few _ _ _) (by omega)
      · rw [if_neg hk] at h; cases h
  · rw [if_neg h84]
    split
    · unfold Tm.kids1; split <;> simp
    · split
      · simp
      · unfold Tm.kids2; split <;> simp

theorem opens_law (l : Bs) (w : World) (_ : l.length ≤ 140737488355328) :
    Calls Tryd.prog 3 #[St l] w fun en w' => en = .returned (.bool true) ∧ Below w.heap.size w w' := by
  by_cases hl : 20000 < l.length
  · exact opens_big l w hl
  · by_cases hd : Tm.deep l = 0
    · exact opens_no l w (by omega) hd
    · match l with
      | [] => exact absurd rfl hd
      | c :: l => exact opens_yes c l w (by omega) hd (kids_few hd) (ropen_yes c l hd)
end Go.Proofs.YtcmpiffkmnbepaaDoor
