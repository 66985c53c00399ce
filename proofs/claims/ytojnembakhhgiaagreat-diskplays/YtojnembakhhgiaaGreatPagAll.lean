import Derived.Test.YtojnembakhhgiaaGreatRenAll
import Derived.Deep.MidRow
/- Pages in memory. -/
namespace Go.Proofs.YtojnembakhhgiaaGreat
open Go.RowKit

theorem bcs_len (b : Bs) : (bcs b).length = b.length := List.length_map _
theorem bcs_one (b : Bs) : ∀ v ∈ bcs b, v.oneCell' = true := fun v hv => by
  obtain ⟨c, _, rfl⟩ := List.mem_map.1 hv
  rfl
theorem pcs_cons (p : Bs) (l : List Bs) : pcs (p :: l) = bcs p ++ pcs l := rfl
theorem pcs_app (a b : List Bs) : pcs (a ++ b) = pcs a ++ pcs b := by
  unfold pcs
  rw [List.map_append, List.flatten_append]
theorem pcs_len : ∀ {l : List Bs}, (∀ q ∈ l, q.length = 256) → (pcs l).length = l.length * 256
  | [], _ => rfl
  | p :: l, h => by
    rw [pcs_cons, List.length_append, bcs_len, h p (by simp), pcs_len (l := l) (fun q hq => h q (by simp [hq])), List.length_cons]
    omega
/-- the cells of a page -/
theorem pcs_at : ∀ {l : List Bs} (_ : ∀ q ∈ l, q.length = 256) (k : Nat) (hk : k < l.length) (j : Nat), j < 256 → (pcs l)[k * 256 + j]? = (bcs l[k])[j]?
  | [], _, k, hk, _, _ => by simp at hk
  | p :: l, h, 0, _, j, hj => by
    rw [pcs_cons, List.getElem?_append_left (by rw [bcs_len, h p (by simp)]; omega)]
    simp
  | p :: l, h, k + 1, hk, j, hj => by
    rw [pcs_cons, List.getElem?_append_right (by rw [bcs_len, h p (by simp)]; omega), bcs_len, h p (by simp), show (k + 1) * 256 + j - 256 = k * 256 + j by omega, pcs_at (l := l) (fun q hq => h q (by simp [hq])) k (by simpa using hk) j hj]
    rfl
/-- a page of a row that lies there -/
theorem page_at {w : World} {v : Value} {l : List Bs} (h : w.ownsRow 0 83 256 v l.length (pcs l)) (hl : ∀ q ∈ l, q.length = 256) (k : Nat) (hk : k < l.length) : ∃ g cap, v = .slice (some ⟨g, 0, none⟩) l.length cap ∧ w.rangeAt g (k * 256) (bcs l[k]) ∧ l.length ≤ cap ∧ cap ≤ maxLen := by
  rcases h.2 with ⟨_, h2⟩ | ⟨g, cap, cur, h1, _, h3, h4, h5, h6, h7⟩
  · omega
  · refine ⟨g, cap, h1, fun j u hu => ?_, h4, h5⟩
    have hj : j < 256 := by
      have := (List.getElem?_eq_some_iff.1 hu).1
      rw [bcs_len, hl _ (List.getElem_mem hk)] at this
      exact this
    rw [cell_of_heap h3, ← Array.getElem?_toList, ← hu, ← pcs_at hl k hk j hj, ← h7, List.getElem?_take, if_pos (by omega)]
/-- bytes that lie there -/
def Br (w : World) (v : Value) (b : Bs) : Prop := (v = .slice none 0 0 ∧ b = []) ∨ ∃ g, v = .slice (some ⟨g, 0, none⟩) b.length b.length ∧ w.rangeAt g 0 (bcs b)
theorem size78 : (Tryz.prog.info? 83).map (·.size) = some 256 := by kernel_rfl
end Go.Proofs.YtojnembakhhgiaaGreat

/- A row of cells stored. -/
namespace Go.Proofs.YtojnembakhhgiaaGreat
open Go.RowKit

/-- the block behind a row of stores -/
theorem heap_cells : ∀ (vs : List Value) (w : World) (b o : Nat) (C : Array Value) (t : TypeId), w.heap[b]? = some (.cells C t (0, 0)) → o + vs.length ≤ C.size →
    (w.setCells b o vs).heap[b]? = some (.cells (C.toList.take o ++ vs ++ C.toList.drop (o + vs.length)).toArray t (0, 0))
  | [], w, b, o, C, t, h, _ => by
    show w.heap[b]? = _
    rw [h, List.append_nil, List.length_nil, Nat.add_zero, List.take_append_drop]
  | v :: vs, w, b, o, C, t, h, hl => by
    have hl2 : o + 1 + vs.length ≤ C.size := by rw [List.length_cons] at hl; omega
    have ih := heap_cells vs (w.setCell ⟨b, o, none⟩ v) b (o + 1) (C.setIfInBounds o v) t (heap_setCell_same h o v) (by rw [Array.size_setIfInBounds]; exact hl2)
    show ((w.setCell ⟨b, o, none⟩ v).setCells b (o + 1) vs).heap[b]? = _
    rw [ih, Array.toList_setIfInBounds]
    congr 3
    have hol : o < C.toList.length := by rw [Array.length_toList]; omega
    rw [List.take_set, List.drop_set, if_pos (by omega), List.length_cons, show o + 1 + vs.length = o + (vs.length + 1) by omega]
    rw [show v :: vs = [v] ++ vs from rfl, ← List.append_assoc]
    congr 2
    rw [List.take_add_one, List.getElem?_eq_getElem hol]
    rw [List.set_append_right _ _ (by rw [List.length_take]; omega), List.length_take, show o - min o C.toList.length = 0 by omega]
    rfl
theorem size_cells (vs : List Value) : ∀ (w : World) (b o : Nat), (w.setCells b o vs).heap.size = w.heap.size := by
  induction vs with
  | nil => intro w b o; rfl
  | cons v vs ih => intro w b o; show ((w.setCell ⟨b, o, none⟩ v).setCells b (o + 1) vs).heap.size = _; rw [ih]; simp [World.setCell]
theorem kf_cells (vs : List Value) (w : World) (b o : Nat) : Kf [b] w (w.setCells b o vs) := by
  induction vs generalizing w o with
  | nil => exact ⟨rfl, rfl, rfl, Nat.le_refl _, fun _ _ _ => rfl⟩
  | cons v vs ih => exact (Kf.set w (List.mem_singleton.2 rfl) _ _).trans (ih _ _) (fun g hg => .inl hg)
theorem there_blk {w : World} {b : Nat} {C : Array Value} {t : TypeId} (h : w.heap[b]? = some (.cells C t (0, 0))) {o n : Nat} (hl : o + n ≤ C.size) : w.there b o n := fun j hj => by
  refine ⟨?_, frozen_of_heap h _⟩
  rw [cell_of_heap h, Array.getElem?_eq_getElem (by omega)]
  rfl
/-- a row stored into a block -/
theorem store_cells {w : World} {b : Nat} {C : Array Value} {t : TypeId} (h : w.heap[b]? = some (.cells C t (0, 0))) {o : Nat} {vs : List Value} (hl : o + vs.length ≤ C.size) (h1 : ∀ v ∈ vs, v.oneCell' = true) : (storeCells ⟨b, o, none⟩ vs).run Tryz.prog w = .ok () (w.setCells b o vs) := by
  have ht := there_blk h hl
  have := run_storeCells_cells (P := Tryz.prog) b o vs 0 w (fun j hj => (ht j hj).1) (fun j hj => (ht j hj).2) h1
  exact this
theorem zero78 : Tryz.zeroCells83.size = 256 := by kernel_rfl
/-- a page stored into a new block -/
theorem new_page (w : World) (cs : List Value) (hl : cs.length = 256) (h1 : ∀ v ∈ cs, v.oneCell' = true) : ∃ w', (storeCells ⟨w.heap.size, 0, none⟩ cs).run Tryz.prog (w.alloc (.cells Tryz.zeroCells83 83)) = .ok () w' ∧ w'.heap[w.heap.size]? = some (.cells cs.toArray 83 (0, 0)) ∧ Below w.heap.size w w' := by
  have hn := heap_alloc_new w (.cells Tryz.zeroCells83 83)
  have hz : 0 + cs.length ≤ Tryz.zeroCells83.size := by rw [zero78, hl]; omega
  refine ⟨_, store_cells hn hz h1, ?_, ?_⟩
  · rw [heap_cells cs _ _ 0 _ 83 hn hz]
    have : (Tryz.zeroCells83.toList.take 0 ++ cs ++ Tryz.zeroCells83.toList.drop (0 + cs.length)) = cs := by
      rw [List.take_zero, List.nil_append, List.drop_eq_nil_of_le (by rw [Array.length_toList, zero78, hl]; omega), List.append_nil]
    rw [this]
  · have hb : Below w.heap.size w (w.alloc (.cells Tryz.zeroCells83 83)) := (Below.refl _ _).alloc (Nat.le_refl _) _
    have hk := kf_cells cs (w.alloc (.cells Tryz.zeroCells83 83)) w.heap.size 0
    exact ⟨hk.os.trans hb.os, hk.tape.trans hb.tape, hk.output.trans hb.output, Nat.le_trans hb.size hk.size, fun g hg => (hk.blk g (Nat.lt_of_lt_of_le hg hb.size) (by simp; omega)).trans (hb.block g hg)⟩
end Go.Proofs.YtojnembakhhgiaaGreat

/- Read. -/
namespace Go.Proofs.YtojnembakhhgiaaGreat
open Go.RowKit

set_option maxRecDepth 100000 in
set_option maxHeartbeats 4000000 in
theorem read_any (w : World) (d : Nat) (s : Ds) (mb : Option Nat) (ms : List Fm) (h : Dv w d s mb ms) (t : Bs) (htl : t.length ≤ 140737488355328) (n : Int) (hn : -9223372036854775808 ≤ n ∧ n < 9223372036854775808) :
    Calls Tryz.prog 21 #[.pointer (some ⟨d, 0, none⟩), St t, .int .i64 n] w fun e w' => (∃ v, e = .returned (.tuple #[v, .int .i64 ((readDk s t n).2 : Int)]) ∧ Br w' v (readDk s t n).1) ∧ Below w.heap.size w w' := by
  have HFI := hid (find_any w d s mb ms h t htl)
  obtain ⟨R, hR⟩ : ∃ R, R = readDk s t n := ⟨_, rfl⟩
  rw [← hR]
  have HR := hid hR
  clear hR
  cases ho : s.off with
  | true =>
    rw [ho] at HFI
    have HRE : Hid (R = ([], 7)) := hid (by rw [HR.out]; unfold readDk; rw [if_pos ho])
    clear h
    go_enter Tryz.func21, Tryz.ntmps21
    go_wp2_with fail
    refine HFI.out.mono ?_
    rintro e w1 ⟨rfl, hw⟩
    subst hw
    go_wp2_with fail
    go_ret2
    rw [HRE.out]
    exact ⟨⟨_, rfl, .inl ⟨rfl, rfl⟩⟩, Below.refl _ _⟩
  | false =>
    rw [ho] at HFI
    have hR1 : R = match findF s t with
      | none => ([], 91)
      | some f => if n < 0 ∨ ((pagesOf s f).length : Int) ≤ n then ([], 92) else ((pagesOf s f).getD n.toNat [], 0) := by
      rw [HR.out]
      unfold readDk
      rw [if_neg (by rw [ho]; decide)]
      cases findF s t <;> rfl
    rcases find_at (s := s) h.len (t := t) with ⟨e1, e2⟩ | ⟨f, m, e0, e1, e2, e3⟩
    · rw [e1] at HFI
      rw [e2] at hR1
      have HRE : Hid (R = ([], 91)) := hid hR1
      clear h hR1 e1 e2
      go_enter Tryz.func21, Tryz.ntmps21
      go_wp2_with fail
      refine HFI.out.mono ?_
      rintro e w1 ⟨rfl, hw⟩
      subst hw
      go_wp2_with fail
      go_ret2
      rw [HRE.out]
      exact ⟨⟨_, rfl, .inl ⟨rfl, rfl⟩⟩, Below.refl _ _⟩
    · rw [e3] at HFI
      rw [e2] at hR1
      have hR1 : R = if n < 0 ∨ ((pagesOf s f).length : Int) ≤ n then ([], 92) else ((pagesOf s f).getD n.toNat [], 0) := hR1
      have hfa := h.filz _ e0
      have hpl := pages_ok h.ok (List.of_mem_zip e0).1
      have hpl2 : ∀ q ∈ pagesOf s f, q.length = 256 := hpl
      generalize hP : pagesOf s f = P at *
      have hpg : w.ownsRow 0 83 256 m.pv P.length (pcs P) := hP ▸ hfa.pg
      obtain ⟨ao, cap, hpv⟩ := row_shape hpg
      have c0 : w.cell? ⟨m.p, 0, none⟩ = some (.slice ao P.length cap) := by rw [← hpv]; exact (cell_of_heap hfa.blk 0).trans rfl
      by_cases hb : n < 0 ∨ (P.length : Int) ≤ n
      · have HRE : Hid (R = ([], 92)) := hid (by rw [hR1, if_pos hb])
        clear h hR1 e0 e1 e2 e3 hfa hpv hpg hpl hpl2 hP
        generalize P.length = l at *
        generalize m.p = p at *
        by_cases h0 : n < 0
        · go_enter Tryz.func21, Tryz.ntmps21
          go_wp2_with fail
          refine HFI.out.mono ?_
          rintro e w1 ⟨rfl, hw⟩
          subst hw
          go_wp2_with fail
          go_ret2
          rw [HRE.out]
          exact ⟨⟨_, rfl, .inl ⟨rfl, rfl⟩⟩, Below.refl _ _⟩
        · have h1 : (l : Int) ≤ n := by omega
          clear hb
          go_enter Tryz.func21, Tryz.ntmps21
          go_wp2_with fail
          refine HFI.out.mono ?_
          rintro e w1 ⟨rfl, hw⟩
          subst hw
          go_wp2_with fail
          go_ret2
          rw [HRE.out]
          exact ⟨⟨_, rfl, .inl ⟨rfl, rfl⟩⟩, Below.refl _ _⟩
      · obtain ⟨k, hk⟩ : ∃ k : Nat, n = (k : Int) := ⟨n.toNat, by omega⟩
        have hkl : k < P.length := by omega
        obtain ⟨g, cap', hv', hra, _, _⟩ := page_at hpg hpl2 k hkl
        have HRE : Hid (R = (P[k], 0)) := hid (by
          rw [hR1, if_neg hb, show n.toNat = k by omega, List.getD_eq_getElem?_getD, List.getElem?_eq_getElem hkl]
          rfl)
        have hP2 : P[k].length = 256 := hpl2 _ (List.getElem_mem hkl)
        have hpv2 : ao = some ⟨g, 0, none⟩ ∧ cap = cap' := by rw [hpv] at hv'; cases hv'; exact ⟨rfl, rfl⟩
        obtain ⟨rfl, rfl⟩ := hpv2
        have hk0 : (0 : Int) ≤ n := by omega
        have hk1 : n < (P.length : Int) := by omega
        obtain ⟨cs, hcs⟩ : ∃ cs, cs = bcs P[k] := ⟨_, rfl⟩
        rw [← hcs] at hra
        have hcl : cs.length = 256 := by rw [hcs, bcs_len, hP2]
        have hu := Tryz.underlying83
        have hi : (Tryz.prog.info? 83).map (·.size) = some cs.length := by rw [size78, hcl]
        obtain ⟨wn, hstc, hwn, hbn⟩ := new_page w cs hcl (by rw [hcs]; exact bcs_one _)
        have HB := hid hbn
        have HW := hid hwn
        clear hbn hwn
        have HCS := hid hcs
        have HP2 := hid hP2
        clear hR1
        clear h HR e0 e1 e2 e3 hfa hpv hv' hpg hpl hpl2 hP hb hcs hP2
        generalize P[k] = pg at *
        generalize P.length = l at *
        generalize m.p = p at *
        subst hk
        go_enter Tryz.func21, Tryz.ntmps21
        go_wp2_with fail
        refine HFI.out.mono ?_
        rintro e w1 ⟨rfl, hw⟩
        subst hw
        go_wp2_with fail
        refine wp_load_mid 83 (.tmp 38) rfl g (k * 256) rfl cs _ hra hu rfl hi ?_
        go_wp2_with fail
        go_ret2
        rw [HRE.out]
        refine ⟨⟨_, rfl, .inr ⟨w1.heap.size, ?_, fun j u hu => ?_⟩⟩, HB.out⟩
        · show Value.slice (some ⟨w1.heap.size, 0, none⟩) 256 256 = Value.slice (some ⟨w1.heap.size, 0, none⟩) pg.length pg.length
          rw [HP2.out]
        · rw [cell_of_heap HW.out, Nat.zero_add, HCS.out, List.getElem?_toArray]
          exact hu
end Go.Proofs.YtojnembakhhgiaaGreat
