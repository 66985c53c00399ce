/- Records in memory. -/
import Derived.Test.YtdhmmllpioppfaaGreatVGet
namespace Go.Proofs.YtdhmmllpioppfaaGreat.V
open Go.RowKit

/-- a record as a value -/
abbrev Rv (t : Nat) (bv : Value) : Value := .agg #[.int .u64 (t : Int), bv]
/-- records lie there -/
def Rcs (w : World) (v : Value) (L : List Rec) : Prop :=
  (v = .slice none 0 0 ∧ L = []) ∨ ∃ a cap, v = .slice (some a) L.length cap ∧ L.length ≤ cap ∧ (L ≠ [] → a = ⟨a.block, a.off, none⟩ ∧ a.block < w.heap.size) ∧ ∀ i (h : i < L.length), ∃ bv, w.cell? (a.add (i * 2)) = some (.int .u64 (L[i].1 : Int)) ∧ w.cell? (a.add (i * 2 + 1)) = some bv ∧ Sl w bv L[i].2
theorem Rcs.shape {w : World} {v : Value} {l : List Rec} (h : Rcs w v l) : ∃ ao cap, v = .slice ao l.length cap := by
  rcases h with ⟨h, e⟩ | ⟨a, cap, h, _⟩
  · subst e; exact ⟨none, 0, h⟩
  · exact ⟨_, _, h⟩
theorem Rcs.nil (w : World) : Rcs w (.slice none 0 0) [] := Or.inl ⟨rfl, rfl⟩
theorem Rcs.below {w w' : World} {v : Value} {l : List Rec} (h : Rcs w v l) (hb : Below w.heap.size w w') : Rcs w' v l := by
  rcases h with h | ⟨a, cap, h1, hc, h2, h3⟩
  · exact Or.inl h
  · refine Or.inr ⟨a, cap, h1, hc, fun hn => ⟨(h2 hn).1, Nat.lt_of_lt_of_le (h2 hn).2 hb.size⟩, fun i hi => ?_⟩
    have hl : l ≠ [] := fun e => by subst e; simp at hi
    obtain ⟨bv, g1, g2, g3⟩ := h3 i hi
    refine ⟨bv, ?_, ?_, g3.below hb⟩
    · rw [← g1]; exact World.cell?_of_block (hb.block _ (by rw [add_block]; exact (h2 hl).2))
    · rw [← g2]; exact World.cell?_of_block (hb.block _ (by rw [add_block]; exact (h2 hl).2))
/-- the place of records that are not none -/
theorem Rcs.at {w : World} {ao : Option Addr} {cap n : Nat} {l : List Rec} (h : Rcs w (.slice ao n cap) l) (hl : l ≠ []) : ∃ g o, ao = some ⟨g, o, none⟩ ∧ g < w.heap.size ∧ n = l.length ∧ l.length ≤ cap ∧ ∀ i (h : i < l.length), ∃ bv, w.cell? ⟨g, o + i * 2, none⟩ = some (.int .u64 (l[i].1 : Int)) ∧ w.cell? ⟨g, o + i * 2 + 1, none⟩ = some bv ∧ Sl w bv l[i].2 := by
  rcases h with ⟨_, e⟩ | ⟨a, cap, h1, hc, h2, h3⟩
  · exact absurd e hl
  · cases h1
    obtain ⟨ha, hb⟩ := h2 hl
    refine ⟨a.block, a.off, by rw [← ha], hb, rfl, hc, fun i hi => ?_⟩
    have := h3 i hi
    rw [ha, add_plain, add_plain, ← Nat.add_assoc] at this
    exact this
theorem Rcs.take {w : World} {ao : Option Addr} {n cap : Nat} {l : List Rec} (h : Rcs w (.slice ao n cap) l) (k : Nat) (hk : k ≤ l.length) : Rcs w (.slice ao k cap) (l.take k) := by
  rcases h with ⟨h, e⟩ | ⟨a, cap', h1, hc, h2, h3⟩
  · cases h
    subst e
    have : k = 0 := by simpa using hk
    subst this
    exact Or.inl ⟨rfl, rfl⟩
  · cases h1
    refine Or.inr ⟨a, cap, by simp [Nat.min_eq_left hk], by simp; omega, fun hn => h2 (fun e => by subst e; simp at hn), fun i hi => ?_⟩
    have hi' : i < l.length := by simp at hi; omega
    have := h3 i hi'
    simpa using this

theorem rises_nil (t : Nat) : risesB [] t = true := rfl
theorem rises_last {A : List Rec} (h : A ≠ []) (t : Nat) : risesB A t = decide (((A[A.length - 1]'(by have := List.length_pos_iff.2 h; omega)).1 : Int) < (t : Int)) := by
  unfold risesB
  rw [List.getLast?_eq_getElem?, List.getElem?_eq_getElem (by have := List.length_pos_iff.2 h; omega)]
  simp

set_option maxRecDepth 100000 in
set_option maxHeartbeats 1000000 in
theorem rises_any (w : World) (v : Value) (A : List Rec) (hA : Rcs w v A) (t : Nat) (hm : A.length ≤ 140737488355328) : Calls Tryz.prog 55 #[v, .int .u64 (t : Int)] w fun e w' => e = .returned (.bool (risesB A t)) ∧ w' = w := by
  obtain ⟨ao, cap, rfl⟩ := hA.shape
  by_cases h : A = []
  · subst h
    rw [rises_nil]
    clear hA
    go_enter Tryz.func55, Tryz.ntmps55
    go_wp2_with fail
    go_ret
    exact ⟨rfl, rfl⟩
  · have hp := List.length_pos_iff.2 h
    obtain ⟨g, o, rfl, hg, _, hcap, hc⟩ := hA.at h
    rw [rises_last h]
    obtain ⟨bv, h1, _, _⟩ := hc (A.length - 1) (by omega)
    obtain ⟨n, hn⟩ : ∃ n, n = A.length - 1 := ⟨_, rfl⟩
    have hn' : A.length = n + 1 := by omega
    generalize A[A.length - 1]'(by omega) = q at *
    rw [← hn] at h1
    rw [hn'] at hcap hm ⊢
    clear hA hc hn hn' hp h hg
    generalize q.1 = tq at *
    go_enter Tryz.func55, Tryz.ntmps55
    go_wp2_with fail
    go_ret
    exact ⟨rfl, rfl⟩
end Go.Proofs.YtdhmmllpioppfaaGreat.V
