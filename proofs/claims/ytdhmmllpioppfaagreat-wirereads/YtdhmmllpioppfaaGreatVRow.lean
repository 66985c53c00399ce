/- A row that bytes are put into. -/
import Derived.Test.YtdhmmllpioppfaaGreatVFrame
namespace Go.Proofs.YtdhmmllpioppfaaGreat.V
open Go.RowKit

/-- the row at p holds l -/
structure Rw (B p : Nat) (l : Bs) (w : World) : Prop where
  lo : B ≤ p
  blk : ∃ v, w.heap[p]? = some (.cells #[v] 98 (0, 0)) ∧ w.ownsRow B 5 1 v l.length (bcs l)
theorem Rw.lt {B p : Nat} {l : Bs} {w : World} (h : Rw B p l w) : p < w.heap.size := by
  obtain ⟨v, h1, _⟩ := h.blk
  exact lt_of_block h1
theorem own_ne {w : World} {B p : Nat} {v u : Value} {n : Nat} {xs : List Value} (h1 : w.heap[p]? = some (.cells #[u] 98 (0, 0))) (h2 : w.ownsRow B 5 1 v n xs) : v.ownBlock ≠ some p := by
  intro e
  rcases h2.2 with ⟨h3, _⟩ | ⟨g, cap, cur, h3, h4, h5, _⟩
  · rw [h3] at e; cases e
  · rw [h3] at e
    cases e
    rw [h1] at h5
    cases h5
theorem ownsRow_same {w w' : World} {base : Nat} {e : TypeId} {size : Nat} {v : Value} {n : Nat} {xs : List Value} (h : w.ownsRow base e size v n xs) (hh : ∀ g, v.ownBlock = some g → w'.heap[g]? = w.heap[g]?) : w'.ownsRow base e size v n xs := by
  obtain ⟨h1, h2⟩ := h
  refine ⟨h1, ?_⟩
  rcases h2 with h2 | ⟨g, cap, cur, e1, e2, e3, e4⟩
  · exact Or.inl h2
  · exact Or.inr ⟨g, cap, cur, e1, e2, by rw [hh g (by rw [e1]; rfl)]; exact e3, e4⟩
theorem Rw.below {B p : Nat} {l : Bs} {w w' : World} (h : Rw B p l w) (hb : Below w.heap.size w w') : Rw B p l w' := by
  obtain ⟨v, h1, h2⟩ := h.blk
  exact ⟨h.lo, v, (hb.block p h.lt).trans h1, ownsRow_same h2 (fun g e => hb.block g (h2.lt g e).2)⟩
theorem Rw.alloc {B p : Nat} {l : Bs} {w : World} (h : Rw B p l w) (o : Obj) : Rw B p l (w.alloc o) := h.below ((Below.refl _ _).alloc (Nat.le_refl _) o)

/-- all but the row at p and blocks of bytes stays -/
def Kp (p : Nat) (w w' : World) : Prop := w.heap.size ≤ w'.heap.size ∧ ∀ k, k < w.heap.size → k ≠ p → (∀ cs fr, w.heap[k]? ≠ some (.cells cs 5 fr)) → w'.heap[k]? = w.heap[k]?
theorem Kp.trans {p : Nat} {w w1 w2 : World} (h : Kp p w w1) (k : Kp p w1 w2) : Kp p w w2 :=
  ⟨Nat.le_trans h.1 k.1, fun i hi hp hn => by
    have e := h.2 i hi hp hn
    rw [← e]
    exact k.2 i (Nat.lt_of_lt_of_le hi h.1) hp (fun cs fr => by rw [e]; exact hn cs fr)⟩
theorem Kp.alloc (p : Nat) (w : World) (o : Obj) : Kp p w (w.alloc o) := ⟨by simp, fun i hi _ _ => Below.heap_alloc w o i hi⟩

set_option maxRecDepth 100000 in
set_option maxHeartbeats 1000000 in
theorem put_any {B p : Nat} {l x : Bs} {w : World} {u : Value} (h : Rw B p l w) (hs : Sl w u x) (hb : l.length + x.length ≤ 140737488355328) :
    Calls Tryz.prog 58 #[.pointer (some ⟨p, 0, none⟩), u] w fun e w' => e = .returned (.tuple #[]) ∧ Rw B p (l ++ x) w' ∧ Below B w w' ∧ Kp p w w' := by
  have hlo := h.lo
  have hlt := h.lt
  obtain ⟨v, h1, h2⟩ := h.blk
  obtain ⟨ao, cap, w', hrun, hown, hg⟩ := append_bytes h2 hs hb (Nat.le_trans hlo (Nat.le_of_lt hlt))
  have hne := own_ne h1 h2
  have hp' : w'.heap[p]? = some (.cells #[v] 98 (0, 0)) := (hg.block p hlt (fun e => hne e.symm)).trans h1
  have HRUN := hid hrun
  have HOWN := hid hown
  have HG := hid hg
  have HP := hid hp'
  have H2 := hid h2
  have HLO := hid hlo
  have HLT := hid hlt
  obtain ⟨av, cv, hv⟩ : ∃ av cv, v = .slice av l.length cv := by
    rcases h2.2 with ⟨h3, h4⟩ | ⟨g, cap, _, h3, _⟩
    · rw [h4]; exact ⟨_, _, h3⟩
    · exact ⟨_, _, h3⟩
  obtain ⟨au, cu, hu⟩ := hs.shape
  subst hv
  subst hu
  have hc0 : w.cell? ⟨p, 0, none⟩ = some (.slice av l.length cv) := by rw [cell_of_heap h1]; rfl
  have hc1 : w'.cell? ⟨p, 0, none⟩ = some (.slice av l.length cv) := by rw [cell_of_heap hp']; rfl
  have hf1 : w'.frozen? ⟨p, 0, none⟩ = false := frozen_of_heap hp' 0
  clear hrun hown hg hp' h1 h2 hs h hne hlo hlt
  go_enter Tryz.func58, Tryz.ntmps58
  go_wp2_with (first | (at_builtin; refine wpList_append_run rfl (.tmp 8) (.tmp 9) 33 rfl _ _ (.slice ao (l ++ x).length cap) w' rfl rfl HRUN.out ?_) | fail)
  refine bodyPost_end (results_none rfl _ _ _) rfl ?_
  refine ⟨rfl, ⟨HLO.out, _, by rw [heap_setCell_same HP.out, List.length_append]; rfl, ownsRow_same HOWN.out (fun g e => ?_)⟩, ?_⟩
  · have := own_ne HP.out HOWN.out
    exact Below.heap_setCell _ _ _ _ (fun e' => this (by rw [e]; exact congrArg some e'))
  · have hkp : ∀ k, k < w.heap.size → k ≠ p → (∀ cs fr, w.heap[k]? ≠ some (.cells cs 5 fr)) → (w'.setCell ⟨p, 0, none⟩ (.slice ao (l.length + x.length) cap)).heap[k]? = w.heap[k]? := fun k hk hp hn => by
      rw [Below.heap_setCell _ _ _ _ hp]
      refine HG.out.block k hk (fun e => ?_)
      rcases H2.out.2 with ⟨h3, _⟩ | ⟨g, cap, cur, h3, h4, h5, _⟩
      · rw [h3] at e; cases e
      · rw [h3] at e
        cases e
        exact hn _ _ h5
    refine ⟨⟨HG.out.os, HG.out.tape, HG.out.output, by have := HG.out.size; simpa [World.setCell] using this, fun k hk => ?_⟩, by have := HG.out.size; simpa [World.setCell] using this, hkp⟩
    have hkp : k ≠ p := by have := HLO.out; omega
    rw [Below.heap_setCell _ _ _ _ hkp]
    refine HG.out.block k ?_ (fun e => ?_)
    · have h3 := HLT.out
      have h4 := HLO.out
      omega
    · have := (H2.out.lt k e.symm).1
      omega

theorem sl_new (w : World) (x : Bs) : Sl (w.alloc (.cells (bcs x).toArray 5)) (.slice (some ⟨w.heap.size, 0, none⟩) x.length x.length) x := by
  refine Or.inr ⟨_, _, rfl, Nat.le_refl _, fun _ => ⟨rfl, by simp⟩, fun i hi => ?_⟩
  rw [add_plain, Nat.zero_add]
  have h : (w.alloc (.cells (bcs x).toArray 5)).heap[w.heap.size]? = some (.cells (bcs x).toArray 5 (0, 0)) := heap_alloc_new w _
  rw [cell_of_heap h]
  simpa using bcs_get hi
/-- bytes that were just laid are put -/
theorem put_new {B p : Nat} {l x : Bs} {w : World} (h : Rw B p l w) (hb : l.length + x.length ≤ 140737488355328) :
    Calls Tryz.prog 58 #[.pointer (some ⟨p, 0, none⟩), .slice (some ⟨w.heap.size, 0, none⟩) x.length x.length] (w.alloc (.cells (bcs x).toArray 5)) fun e w' => e = .returned (.tuple #[]) ∧ Rw B p (l ++ x) w' ∧ Below B w w' ∧ Kp p w w' := by
  have hlt := h.lt
  have hlo := h.lo
  refine (put_any (h.alloc _) (sl_new w x) hb).mono ?_
  rintro e w' ⟨rfl, h1, h2, h3⟩
  exact ⟨rfl, h1, ((Below.refl B w).alloc (by omega) _).trans h2, (Kp.alloc p w _).trans h3⟩
end Go.Proofs.YtdhmmllpioppfaaGreat.V
