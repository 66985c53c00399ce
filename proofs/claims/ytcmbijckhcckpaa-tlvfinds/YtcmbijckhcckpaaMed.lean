/- slices.order2Ordered, medianOrdered, medianAdjacentOrdered of numbers. -/
import Derived.Test.YtcmbijckhcckpaaSift
namespace Go.Proofs.Ytcmbijckhcckpaa
open Go.RowKit Go.Sort

/-- a counter lies there -/
structure Ctr (w : World) (z k : Nat) : Prop where
  cell : w.cell? ⟨z, 0, none⟩ = some (.int .i64 (k : Int))
  froz : w.frozen? ⟨z, 0, none⟩ = false
theorem set_same {w : World} {z k : Nat} {v : Value} (h : w.cell? ⟨z, 0, none⟩ = some v) : (Sort.ahead w k).setCell ⟨z, 0, none⟩ v = w.drewN k := by
  obtain ⟨c, e, fr, hb, hc⟩ := cells_of_cell? h
  rw [setCell_eq, mapBlock_id]
  · rfl
  · intro c' e' fr' hb'
    have hb2 : w.heap[z]? = some (.cells c' e' fr') := hb'
    rw [hb] at hb2
    cases hb2
    apply Array.ext_getElem?
    intro i
    rw [Array.getElem?_setIfInBounds]
    split
    · rename_i hi
      subst hi
      rw [hc]
      split
      · rfl
      · rename_i h0
        rw [Array.getElem?_eq_none (by omega)] at hc
        cases hc
    · rfl
set_option maxRecDepth 100000 in
set_option maxHeartbeats 4000000 in
theorem ord_any (w : World) (g c a b z k : Nat) (d : Array Int) (hH : Holds (Value.int .u64) w g 0 d) (hC : Ctr w z k) (ha : a < d.size) (hb : b < d.size) (hk : k ≤ 100) (_hsz : d.size ≤ 100) :
    Calls Try.prog 59 #[.slice (some ⟨g, 0, none⟩) d.size c, .int .i64 (a : Int), .int .i64 (b : Int), .pointer (some ⟨z, 0, none⟩)] w fun e w' =>
      e = .returned (.tuple #[.int .i64 ((Sort.order2 ltInt d a b k).1 : Int), .int .i64 ((Sort.order2 ltInt d a b k).2.1 : Int)]) ∧ ∃ n, w' = (Sort.ahead w n).setCell ⟨z, 0, none⟩ (.int .i64 ((Sort.order2 ltInt d a b k).2.2 : Int)) := by
  obtain ⟨hc1, hf1⟩ := hH a ha
  obtain ⟨hc2, hf2⟩ := hH b hb
  rw [Nat.zero_add] at hc1 hf1 hc2 hf2
  have hc3 := hC.cell
  have hf3 := hC.froz
  obtain ⟨s, hs⟩ : ∃ s, s = d.size := ⟨_, rfl⟩
  rw [← hs] at ha hb _hsz ⊢
  unfold Sort.order2 ltInt
  generalize d[a]! = x at *
  generalize d[b]! = y at *
  have HLS := hid (fun W => less_int y x W)
  clear hH hC hs
  by_cases hyx : y < x
  · rw [decide_eq_true hyx] at HLS ⊢
    simp only [if_true]
    go_enter Try.func59, Try.ntmps59
    go_wp2_with fail
    go_quiet (first | (go_at_call 41; refine Calls.quiet_of_same (HLS.out _)))
    go_wp2_with fail
    go_ret2
    exact ⟨rfl, nq, rfl⟩
  · rw [decide_eq_false hyx] at HLS ⊢
    simp only [Bool.false_eq_true, if_false]
    go_enter Try.func59, Try.ntmps59
    go_wp2_with fail
    go_quiet (first | (go_at_call 41; refine Calls.quiet_of_same (HLS.out _)))
    go_wp2_with fail
    go_ret2
    exact ⟨rfl, nq, (set_same hc3).symm⟩
theorem ord_lt (d : Array Int) (a b k : Nat) : ((Sort.order2 ltInt d a b k).1 = a ∧ (Sort.order2 ltInt d a b k).2.1 = b ∨ (Sort.order2 ltInt d a b k).1 = b ∧ (Sort.order2 ltInt d a b k).2.1 = a) ∧ k ≤ (Sort.order2 ltInt d a b k).2.2 ∧ (Sort.order2 ltInt d a b k).2.2 ≤ k + 1 := by
  unfold Sort.order2
  split
  · exact ⟨Or.inr ⟨rfl, rfl⟩, by simp, by simp⟩
  · exact ⟨Or.inl ⟨rfl, rfl⟩, by simp, by simp⟩
/-- the counter's new world keeps the row, and the counter -/
theorem ctr_keep {w w' : World} {g z k k' n : Nat} {d : Array Int} (hH : Holds (Value.int .u64) w g 0 d) (hC : Ctr w z k) (hgz : g ≠ z) (hw : w' = (Sort.ahead w n).setCell ⟨z, 0, none⟩ (.int .i64 (k' : Int))) : Holds (Value.int .u64) w' g 0 d ∧ Ctr w' z k' := by
  subst hw
  obtain ⟨c, e, fr, hb, hc⟩ := cells_of_cell? hC.cell
  have hf := hC.froz
  refine ⟨fun j hj => ?_, ?_, ?_⟩
  · have h := hH j hj
    have e1 : ((Sort.ahead w n).setCell ⟨z, 0, none⟩ (.int .i64 (k' : Int))).heap[g]? = w.heap[g]? := by
      show (w.heap.modify z _)[g]? = _
      rw [Array.getElem?_modify, if_neg (fun e => hgz e.symm)]
    refine ⟨(World.cell?_of_block e1).trans h.1, ?_⟩
    have h2 := h.2
    unfold World.frozen? at h2 ⊢
    rw [e1]
    exact h2
  · rw [setCell_eq, cell?_mapBlock (Sort.ahead w n) z 0 _ (c := c) (e := e) (fr := fr) hb]
    have hl : 0 < c.size := by
      apply Classical.byContradiction
      intro h0
      rw [Array.getElem?_eq_none (by omega)] at hc
      cases hc
    rw [Array.getElem?_setIfInBounds, if_pos rfl, if_pos hl]
  · unfold World.frozen? at hf ⊢
    rw [hb] at hf
    have e1 : ((Sort.ahead w n).setCell ⟨z, 0, none⟩ (.int .i64 (k' : Int))).heap[z]? = some (.cells (c.setIfInBounds 0 (.int .i64 (k' : Int))) e fr) := by
      show (w.heap.modify z _)[z]? = _
      rw [Array.getElem?_modify, if_pos rfl, hb]
      rfl
    rw [e1]
    simpa using hf
theorem set_set {w : World} {z n m : Nat} {u v : Value} : (Sort.ahead ((Sort.ahead w n).setCell ⟨z, 0, none⟩ u) m).setCell ⟨z, 0, none⟩ v = (Sort.ahead w (n + m)).setCell ⟨z, 0, none⟩ v := by
  have h : Sort.ahead ((Sort.ahead w n).setCell ⟨z, 0, none⟩ u) m = (Sort.ahead w (n + m)).setCell ⟨z, 0, none⟩ u := by
    rw [← ahead_ahead]
    rfl
  rw [h, setCell_eq, setCell_eq, setCell_eq, mapBlock_mapBlock]
  refine mapBlock_congr _ _ _ _ fun c _ _ _ => ?_
  apply Array.ext_getElem?
  intro i
  simp only [Array.getElem?_setIfInBounds, Array.size_setIfInBounds]
  split <;> rfl
set_option maxRecDepth 100000 in
set_option maxHeartbeats 4000000 in
theorem med_any (w : World) (g cp a b c z k : Nat) (d : Array Int) (hH : Holds (Value.int .u64) w g 0 d) (hC : Ctr w z k) (hgz : g ≠ z) (ha : a < d.size) (hb : b < d.size) (hc : c < d.size) (hk : k ≤ 50) (hsz : d.size ≤ 100) :
    Calls Try.prog 58 #[.slice (some ⟨g, 0, none⟩) d.size cp, .int .i64 (a : Int), .int .i64 (b : Int), .int .i64 (c : Int), .pointer (some ⟨z, 0, none⟩)] w fun e w' =>
      e = .returned (.int .i64 ((Sort.median ltInt d a b c k).1 : Int)) ∧ ∃ n, w' = (Sort.ahead w n).setCell ⟨z, 0, none⟩ (.int .i64 ((Sort.median ltInt d a b c k).2 : Int)) := by
  have H1 := hid (ord_any w g cp a b z k d hH hC ha hb (by omega) hsz)
  unfold Sort.median
  simp only []
  have L1 := ord_lt d a b k
  generalize hr1 : Sort.order2 ltInt d a b k = r1 at *
  obtain ⟨a1, b1, k1⟩ := r1
  simp only [] at L1 H1 ⊢
  have L2 := ord_lt d b1 c k1
  have H2 := hid (fun W h1 h2 => ord_any W g cp b1 c z k1 d h1 h2 (by omega) (by omega) (by omega) hsz)
  generalize hr2 : Sort.order2 ltInt d b1 c k1 = r2 at *
  obtain ⟨b2, c2, k2⟩ := r2
  simp only [] at L2 H2 ⊢
  have H3 := hid (fun W h1 h2 => ord_any W g cp a1 b2 z k2 d h1 h2 (by omega) (by omega) (by omega) hsz)
  generalize hr3 : Sort.order2 ltInt d a1 b2 k2 = r3 at *
  obtain ⟨a3, b3, k3⟩ := r3
  simp only [] at H3 ⊢
  have HH := hid hH
  have HC := hid hC
  have HG := hid hgz
  obtain ⟨s, hs⟩ : ∃ s, s = d.size := ⟨_, rfl⟩
  rw [← hs] at H1 H2 H3 ⊢
  clear L1 L2 hr1 hr2 hr3 hH hC hs ha hb hc hsz hgz
  go_enter Try.func58, Try.ntmps58
  go_wp2_with fail
  refine H1.out.mono ?_
  rintro e w1 ⟨rfl, n1, hw1⟩
  have K1 := hid (ctr_keep HH.out HC.out HG.out hw1)
  have HW1 := hid hw1
  clear hw1 H1
  go_wp2_with fail
  refine (H2.out w1 K1.out.1 K1.out.2).mono ?_
  rintro e w2 ⟨rfl, n2, hw2⟩
  have K2 := hid (ctr_keep K1.out.1 K1.out.2 HG.out hw2)
  have HW2 : Hid (w2 = (Sort.ahead w (n1 + n2)).setCell ⟨z, 0, none⟩ (.int .i64 (k2 : Int))) := hid (by rw [hw2, HW1.out, set_set])
  clear hw2 H2 HW1 K1
  go_wp2_with fail
  refine (H3.out w2 K2.out.1 K2.out.2).mono ?_
  rintro e w3 ⟨rfl, n3, hw3⟩
  have HW3 : Hid (w3 = (Sort.ahead w (n1 + n2 + n3)).setCell ⟨z, 0, none⟩ (.int .i64 (k3 : Int))) := hid (by rw [hw3, HW2.out, set_set])
  clear hw3 H3 HW2 K2
  go_wp2_with fail
  go_ret
  exact ⟨rfl, _, HW3.out⟩
set_option maxRecDepth 100000 in
set_option maxHeartbeats 4000000 in
theorem madj_any (w : World) (g cp a z k : Nat) (d : Array Int) (hH : Holds (Value.int .u64) w g 0 d) (hC : Ctr w z k) (hgz : g ≠ z) (ha : 1 ≤ a ∧ a + 1 < d.size) (hk : k ≤ 50) (hsz : d.size ≤ 100) :
    Calls Try.prog 57 #[.slice (some ⟨g, 0, none⟩) d.size cp, .int .i64 (a : Int), .pointer (some ⟨z, 0, none⟩)] w fun e w' =>
      e = .returned (.int .i64 ((Sort.medianAdjacent ltInt d a k).1 : Int)) ∧ ∃ n, w' = (Sort.ahead w n).setCell ⟨z, 0, none⟩ (.int .i64 ((Sort.medianAdjacent ltInt d a k).2 : Int)) := by
  have H1 := hid (med_any w g cp (a - 1) a (a + 1) z k d hH hC hgz (by omega) (by omega) (by omega) hk hsz)
  unfold Sort.medianAdjacent
  obtain ⟨b, rfl⟩ : ∃ b, a = b + 1 := ⟨a - 1, by omega⟩
  rw [Nat.add_sub_cancel] at H1 ⊢
  generalize Sort.median ltInt d b (b + 1) (b + 1 + 1) k = r at *
  have e1 : IntKind.i64.wrap ((b : Int) + 1 - 1) = (b : Int) := by rw [IntKind.wrap_i64]; omega
  obtain ⟨s, hs⟩ : ∃ s, s = d.size := ⟨_, rfl⟩
  rw [← hs] at H1 ⊢
  have hb : b ≤ 100 := by omega
  clear hH hC hs ha hsz
  go_enter Try.func57, Try.ntmps57
  go_wp2_with fail
  refine H1.out.mono ?_
  rintro e w1 ⟨rfl, n1, hw1⟩
  have HW1 := hid hw1
  clear hw1 H1
  go_wp2_with fail
  go_ret
  exact ⟨rfl, _, HW1.out⟩
end Go.Proofs.Ytcmbijckhcckpaa
