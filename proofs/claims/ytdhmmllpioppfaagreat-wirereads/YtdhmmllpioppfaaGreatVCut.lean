/- Pieces of bytes. -/
import Derived.Test.YtdhmmllpioppfaaGreatVClo
namespace Go.Proofs.YtdhmmllpioppfaaGreat.V
open Go.RowKit

theorem Tryz.size5 : (Tryz.prog.info? 5).map (·.size) = some 1 := by kernel_rfl
theorem slice_from (q : IntKind) (a : Option Addr) (n cap k : Nat) (h : k ≤ n) (W : World) : (Instr.sliceAt 33 (.slice a n cap) (some (.int q (k : Int))) none none).run Tryz.prog W = .ok (.slice (if cap = k then a else a.map (·.add k)) (n - k) (cap - k)) W := by
  obtain ⟨i, hi, hz⟩ := Option.map_eq_some_iff.1 Tryz.size5
  have h1 : (k : Int) ≤ (n : Int) := by omega
  simp [Instr.sliceAt, Instr.slice, Instr.sliceBounds, Instr.sliceBound, asIntOf, run_underlying Tryz.underlying33, sizeOf, typeInfo, hi, hz, go_sem]
  intro h'; omega
theorem slice_to (q : IntKind) (a : Option Addr) (n cap k : Nat) (h : k ≤ cap) (W : World) : (Instr.sliceAt 33 (.slice a n cap) none (some (.int q (k : Int))) none).run Tryz.prog W = .ok (.slice a k cap) W := by
  obtain ⟨i, hi, hz⟩ := Option.map_eq_some_iff.1 Tryz.size5
  have h1 : (k : Int) ≤ (cap : Int) := by omega
  have h0 : ∀ x : Addr, x.add 0 = x := fun x => by unfold Addr.add; split <;> simp_all
  simp [Instr.sliceAt, Instr.slice, Instr.sliceBounds, Instr.sliceBound, asIntOf, run_underlying Tryz.underlying33, sizeOf, typeInfo, hi, go_sem, h0]
  intro h'; omega
/-- what is behind k bytes -/
theorem cutRun (ao : Option Addr) (n cap : Nat) (l : Bs) (k : Nat) (hk : k ≤ l.length) (hn : n = l.length) :
    ∃ a1 c1, (∀ q W, (Instr.sliceAt 33 (.slice ao n cap) (some (.int q (k : Int))) none none).run Tryz.prog W = .ok (.slice a1 (n - k) c1) W) ∧ ∀ w, Sl w (.slice ao n cap) l → Sl w (.slice a1 (n - k) c1) (l.drop k) := by
  refine ⟨_, _, fun q W => slice_from q ao n cap k (by omega) W, fun w h => ?_⟩
  rcases h with ⟨h, e⟩ | ⟨a, cap', h1, hc, h2, h3⟩
  · cases h
    subst e
    have : k = 0 := by simpa using hk
    subst this
    exact Or.inl ⟨rfl, rfl⟩
  · cases h1
    by_cases hck : cap = k
    · rw [if_pos hck]
      have hl : l.drop k = [] := List.drop_eq_nil_of_le (by omega)
      rw [hl]
      have hl0 : l.length - k = 0 := by omega
      rw [hl0]
      exact Or.inr ⟨a, cap - k, rfl, by simp, fun h => absurd rfl h, fun i hi => by simp at hi⟩
    · rw [if_neg hck]
      refine Or.inr ⟨a.add k, cap - k, by simp, by simp; omega, fun hd => ?_, fun i hi => ?_⟩
      · obtain ⟨ha, hb⟩ := h2 (fun e => by subst e; simp at hd)
        rw [ha, add_plain]
        exact ⟨rfl, hb⟩
      · have hi' : k + i < l.length := by simp at hi; omega
        have hne : l ≠ [] := fun e => by subst e; simp at hi
        obtain ⟨ha, hb⟩ := h2 hne
        have := h3 (k + i) hi'
        rw [ha, add_plain] at this
        rw [ha, add_plain, add_plain, List.getElem_drop, Nat.add_assoc]
        exact this
/-- the first k bytes -/
theorem Sl.takeRun {w : World} {ao : Option Addr} {n cap : Nat} {l : Bs} (h : Sl w (.slice ao n cap) l) (k : Nat) (hk : k ≤ l.length) (_hn : n = l.length) :
    (∀ q W, (Instr.sliceAt 33 (.slice ao n cap) none (some (.int q (k : Int))) none).run Tryz.prog W = .ok (.slice ao k cap) W) ∧ Sl w (.slice ao k cap) (l.take k) := by
  have hc : k ≤ cap ∧ (ao = none → cap = 0) := by
    rcases h with ⟨h, e⟩ | ⟨a, cap', h1, hc, _⟩
    · cases h
      subst e
      exact ⟨by simpa using hk, fun _ => rfl⟩
    · cases h1
      exact ⟨by omega, fun e => by cases e⟩
  exact ⟨fun q W => slice_to q ao n cap k hc.1 W, h.take k hk cap hc.2 hc.1⟩
end Go.Proofs.YtdhmmllpioppfaaGreat.V
