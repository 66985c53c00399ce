/- Texts put behind one another in rows of one's own: a witness with one more of each. -/
import Derived.Test.YtdllpklecdmghaaDoorLkPAll
import Derived.Test.YtdllpklecdmghaaDoorLkJ
import Derived.Maps.AppendAt
namespace Go.Proofs.YtdllpklecdmghaaDoor
open Go.RowKit
open Lk (Lt Sp)

theorem tx_info22 : (Tryd.prog.info? 22).map (fun i => (i.zero, i.size, i.bytes)) = some (some (.string ⟨#[]⟩), 1, 16) := by kernel_rfl
theorem texts_own {W : World} {B : Nat} {v : Value} {ks : List Bs} (h : W.ownsRow B 22 1 v ks.length (ks.map St)) : Texts W v ks := by
  rcases h.2 with ⟨h1, h2⟩ | ⟨g, cap, cur, rfl, _, hg, _, _, _, hc⟩
  · exact ⟨none, 0, by rw [h1, h2], fun hne => absurd (List.eq_nil_of_length_eq_zero h2) hne⟩
  · refine ⟨some ⟨g, 0, none⟩, cap, rfl, fun _ => ⟨g, 0, rfl, lt_of_heap hg, fun i hi => ?_⟩⟩
    have h1 : (ks.map St)[i]? = some (St ks[i]) := by rw [List.getElem?_map, List.getElem?_eq_getElem hi]; rfl
    rw [← hc, List.getElem?_take, if_pos (by omega)] at h1
    rw [cell_of_heap hg, Nat.zero_add, ← Array.getElem?_toList]
    exact h1
/-- a row of texts copied into one's own -/
theorem own_copy {W : World} {sa : Option Addr} {n c : Nat} {ks : List Bs} (hn : n = ks.length) (hk : Texts W (.slice sa n c) ks) (hl : n ≤ 1000) :
    ∃ a k w', (∀ ty, (Builtin.append_ #[41, 41] ty #[.slice none 0 0, .slice sa n c]).run Tryd.prog W = .ok (.slice a n k) w') ∧ w'.ownsRow W.heap.size 22 1 (.slice a n k) ks.length (ks.map St) ∧ Below W.heap.size W w' := by
  subst hn
  obtain ⟨i0, hi, hz0, hz1, hz2⟩ := info_parts tx_info22
  obtain ⟨_, _, hv, hc⟩ := hk
  cases hv
  by_cases h0 : ks = []
  · subst h0
    refine ⟨none, 0, W, fun ty => ?_, World.ownsRow_nil _ _ _ _, Below.refl _ _⟩
    cases sa <;> simp [Builtin.append_, Builtin.firstCells, run_underlying Tryd.underlying41, sizeOf, typeInfo, hi, Builtin.lenOf, go_sem]
  · obtain ⟨g, o, rfl, hlt, hcell⟩ := hc h0
    have hpos := List.length_pos_iff.2 h0
    obtain ⟨v', w', h1, h2, h3, _, _⟩ := run_append_own_at (P := Tryd.prog) W W.heap.size 41 41 22 i0 _ 1 16 Tryd.underlying41 hi hz0 hz1 hz2 rfl (by decide) (.slice none 0 0) 0 [] (World.ownsRow_nil _ _ _ _) ⟨g, o, none⟩ ks.length c (ks.map St) (by simp) (fun j u hu => by
      have hj : j < ks.length := by have := (List.getElem?_eq_some_iff.1 hu).1; simpa using this
      rw [add_plain, hcell j hj, ← hu]; simp [hj]) (fun u hu => by obtain ⟨x, _, rfl⟩ := List.mem_map.1 hu; rfl) (by unfold maxLen; omega) (by omega) (Nat.le_refl _)
    rw [Nat.zero_add, List.nil_append] at h2
    obtain ⟨a, k, rfl⟩ := row_shape h2
    exact ⟨a, k, w', fun _ => h1, h2, ⟨h3.os, h3.tape, h3.output, h3.size, fun k hk => h3.block k hk (by simp [Value.ownBlock])⟩⟩
/-- one text more -/
theorem own_more {W : World} {B : Nat} {a : Option Addr} {n k : Nat} {ks : List Bs} (hn : n = ks.length) (h : W.ownsRow B 22 1 (.slice a n k) ks.length (ks.map St)) (hB : B ≤ W.heap.size) (x : Bs) (hl : n ≤ 1000) :
    ∃ a' k' w', (∀ ty, (Builtin.append_ #[41, 41] ty #[.slice a n k, .slice (some ⟨W.heap.size, 0, none⟩) 1 1]).run Tryd.prog (W.alloc (.cells #[St x] 22)) = .ok (.slice a' (n + 1) k') w') ∧ w'.ownsRow B 22 1 (.slice a' (n + 1) k') (ks ++ [x]).length ((ks ++ [x]).map St) ∧ Below B W w' := by
  subst hn
  obtain ⟨i0, hi, hz0, hz1, hz2⟩ := info_parts tx_info22
  obtain ⟨v', w', h1, h2, h3, _, _⟩ := run_append_own_at (P := Tryd.prog) (W.alloc (.cells #[St x] 22)) B 41 41 22 i0 _ 1 16 Tryd.underlying41 hi hz0 hz1 hz2 rfl (by decide) (.slice a ks.length k) ks.length (ks.map St) (h.alloc _) ⟨W.heap.size, 0, none⟩ 1 1 [St x] rfl (cell_one_new _ _ _) (fun u hu => by rw [List.mem_singleton.1 hu]; rfl) (by unfold maxLen; omega) (by omega) (by rw [heap_alloc_size]; omega)
  have e : (ks ++ [x]).length = ks.length + 1 := by simp
  have e2 : (ks ++ [x]).map St = ks.map St ++ [St x] := by simp
  obtain ⟨a', k', rfl⟩ := row_shape h2
  refine ⟨a', k', w', fun _ => h1, by rw [e, e2]; exact h2, ?_⟩
  refine ⟨h3.os, h3.tape, h3.output, by have := h3.size; rw [heap_alloc_size] at this; omega, fun g hg => ?_⟩
  rw [h3.block g (by rw [heap_alloc_size]; omega) (fun e => by have := ((h.alloc (.cells #[St x] 22)).lt g e.symm).1; omega)]
  exact Below.heap_alloc W _ g (by omega)
theorem own_keep {B : Nat} {e : TypeId} {sz : Nat} {w w' : World} {v : Value} {n : Nat} {xs : List Value} (h : w.ownsRow B e sz v n xs) (hk : ∀ g, v.ownBlock = some g → w'.heap[g]? = w.heap[g]?) : w'.ownsRow B e sz v n xs := by
  obtain ⟨h1, h2⟩ := h
  refine ⟨h1, ?_⟩
  rcases h2 with h2 | ⟨g, cap, cur, e1, e2, e3, e4⟩
  · exact Or.inl h2
  · exact Or.inr ⟨g, cap, cur, e1, e2, (hk g (by rw [e1]; rfl)).trans e3, e4⟩
theorem setc_other (w : World) {g k o : Nat} (v : Value) (h : k ≠ g) : (w.setCell ⟨g, o, none⟩ v).heap[k]? = w.heap[k]? := Below.heap_setCell _ _ _ _ h
theorem setc_below {b : Nat} {w W : World} (h : Below b w W) {g : Nat} (hg : b ≤ g) (o : Nat) (v : Value) : Below b w (W.setCell ⟨g, o, none⟩ v) :=
  ⟨h.os, h.tape, h.output, by simp [World.setCell]; exact h.size, fun k hk => (setc_other W v (by omega)).trans (h.block k hk)⟩
/-- the witness with one more of each, step by step -/
structure Mv (W4 : World) (sa pa : Option Addr) (n1 n2 sc pc : Nat) (sg pr : List Bs) (x : Bs) (w6 w9 w11 w14 : World) (a1 a2 b1 b2 : Option Addr) (k1 k2 m1 m2 : Nat) : Prop where
  r1 : ∀ ty, (Builtin.append_ #[41, 41] ty #[.slice none 0 0, .slice sa n1 sc]).run Tryd.prog (W4.alloc (.cells #[.slice none 0 0, .slice none 0 0] 43)) = .ok (.slice a1 n1 k1) w6
  v6 : w6.heap[W4.heap.size]? = some (.cells #[.slice none 0 0, .slice none 0 0] 43 (0, 0))
  r2 : ∀ ty, (Builtin.append_ #[41, 41] ty #[.slice a1 n1 k1, .slice (some ⟨w6.heap.size, 0, none⟩) 1 1]).run Tryd.prog ((w6.setCell ⟨W4.heap.size, 0, none⟩ (.slice a1 n1 k1)).alloc (.cells #[St x] 22)) = .ok (.slice a2 (n1 + 1) k2) w9
  v9 : w9.heap[W4.heap.size]? = some (.cells #[.slice a1 n1 k1, .slice none 0 0] 43 (0, 0))
  b10 : Below W4.heap.size W4 (w9.setCell ⟨W4.heap.size, 0, none⟩ (.slice a2 (n1 + 1) k2))
  r3 : ∀ ty, (Builtin.append_ #[41, 41] ty #[.slice none 0 0, .slice pa n2 pc]).run Tryd.prog (w9.setCell ⟨W4.heap.size, 0, none⟩ (.slice a2 (n1 + 1) k2)) = .ok (.slice b1 n2 m1) w11
  v11 : w11.heap[W4.heap.size]? = some (.cells #[.slice a2 (n1 + 1) k2, .slice none 0 0] 43 (0, 0))
  r4 : ∀ ty, (Builtin.append_ #[41, 41] ty #[.slice b1 n2 m1, .slice (some ⟨w11.heap.size, 0, none⟩) 1 1]).run Tryd.prog ((w11.setCell ⟨W4.heap.size, 1, none⟩ (.slice b1 n2 m1)).alloc (.cells #[St x] 22)) = .ok (.slice b2 (n2 + 1) m2) w14
  v14 : w14.heap[W4.heap.size]? = some (.cells #[.slice a2 (n1 + 1) k2, .slice b1 n2 m1] 43 (0, 0))
  bel : Below W4.heap.size W4 (w14.setCell ⟨W4.heap.size, 1, none⟩ (.slice b2 (n2 + 1) m2))
  box : (w14.setCell ⟨W4.heap.size, 1, none⟩ (.slice b2 (n2 + 1) m2)).heap[W4.heap.size]? = some (.cells #[.slice a2 (n1 + 1) k2, .slice b2 (n2 + 1) m2] 43 (0, 0))
  sgs : Texts (w14.setCell ⟨W4.heap.size, 1, none⟩ (.slice b2 (n2 + 1) m2)) (.slice a2 (n1 + 1) k2) (sg ++ [x])
  prs : Texts (w14.setCell ⟨W4.heap.size, 1, none⟩ (.slice b2 (n2 + 1) m2)) (.slice b2 (n2 + 1) m2) (pr ++ [x])
theorem more_wit {W4 : World} {sa pa : Option Addr} {n1 n2 sc pc : Nat} {sg pr : List Bs} (hn1 : n1 = sg.length) (hn2 : n2 = pr.length) (hs : Texts W4 (.slice sa n1 sc) sg) (hp : Texts W4 (.slice pa n2 pc) pr) (l1 : n1 ≤ 100) (l2 : n2 ≤ 100) (x : Bs) :
    ∃ w6 w9 w11 w14 a1 a2 b1 b2 k1 k2 m1 m2, Mv W4 sa pa n1 n2 sc pc sg pr x w6 w9 w11 w14 a1 a2 b1 b2 k1 k2 m1 m2 := by
  have b5 := below_al W4 (.cells #[.slice none 0 0, .slice none 0 0] 43)
  have h5 := heap_alloc_new W4 (.cells #[.slice none 0 0, .slice none 0 0] 43)
  have z5 := heap_alloc_size W4 (.cells #[.slice none 0 0, .slice none 0 0] 43)
  obtain ⟨a1, k1, w6, r1, o1, c1⟩ := own_copy hn1 (hs.low b5) (by omega)
  obtain ⟨w5, hw5⟩ : ∃ w5, w5 = W4.alloc (.cells #[.slice none 0 0, .slice none 0 0] 43) := ⟨_, rfl⟩
  rw [← hw5] at b5 h5 z5 o1 c1
  have v6 := (c1.block _ (lt_of_heap h5)).trans h5
  have b6 := b5.trans (c1.mono b5.size)
  obtain ⟨w7, hw7⟩ : ∃ w7, w7 = w6.setCell ⟨W4.heap.size, 0, none⟩ (.slice a1 n1 k1) := ⟨_, rfl⟩
  have v7 : w7.heap[W4.heap.size]? = some (.cells #[.slice a1 n1 k1, .slice none 0 0] 43 (0, 0)) := hw7 ▸ heap_setCell_same v6 0 _
  have b7 : Below W4.heap.size W4 w7 := hw7 ▸ setc_below b6 (Nat.le_refl _) 0 _
  have z7 : w7.heap.size = w6.heap.size := by rw [hw7]; simp [World.setCell]
  have o7 : w7.ownsRow w5.heap.size 22 1 (.slice a1 n1 k1) sg.length (sg.map St) := own_keep o1 (fun g hg => by rw [hw7]; exact setc_other _ _ (by have := (o1.lt g hg).1; omega))
  obtain ⟨a2, k2, w9, r2, o2, c2⟩ := own_more hn1 o7 (by rw [z7]; exact c1.size) x (by omega)
  have v9 := (c2.block W4.heap.size (by omega)).trans v7
  have b9 := b7.trans (c2.mono (by omega))
  obtain ⟨w10, hw10⟩ : ∃ w10, w10 = w9.setCell ⟨W4.heap.size, 0, none⟩ (.slice a2 (n1 + 1) k2) := ⟨_, rfl⟩
  have v10 : w10.heap[W4.heap.size]? = some (.cells #[.slice a2 (n1 + 1) k2, .slice none 0 0] 43 (0, 0)) := hw10 ▸ heap_setCell_same v9 0 _
  have b10 : Below W4.heap.size W4 w10 := hw10 ▸ setc_below b9 (Nat.le_refl _) 0 _
  have o10 : w10.ownsRow w5.heap.size 22 1 (.slice a2 (n1 + 1) k2) (sg ++ [x]).length ((sg ++ [x]).map St) := own_keep o2 (fun g hg => by rw [hw10]; exact setc_other _ _ (by have := (o2.lt g hg).1; omega))
  obtain ⟨b1, m1, w11, r3, o3, c3⟩ := own_copy hn2 (hp.low b10) (by omega)
  have v11 := (c3.block _ (lt_of_heap v10)).trans v10
  have b11 := b10.trans (c3.mono b10.size)
  have vlt := lt_of_heap v10
  obtain ⟨w12, hw12⟩ : ∃ w12, w12 = w11.setCell ⟨W4.heap.size, 1, none⟩ (.slice b1 n2 m1) := ⟨_, rfl⟩
  have v12 : w12.heap[W4.heap.size]? = some (.cells #[.slice a2 (n1 + 1) k2, .slice b1 n2 m1] 43 (0, 0)) := hw12 ▸ heap_setCell_same v11 1 _
  have b12 : Below W4.heap.size W4 w12 := hw12 ▸ setc_below b11 (Nat.le_refl _) 1 _
  have z12 : w12.heap.size = w11.heap.size := by rw [hw12]; simp [World.setCell]
  have o12 : w12.ownsRow w10.heap.size 22 1 (.slice b1 n2 m1) pr.length (pr.map St) := own_keep o3 (fun g hg => by rw [hw12]; exact setc_other _ _ (by have := (o3.lt g hg).1; omega))
  obtain ⟨b2, m2, w14, r4, o4, c4⟩ := own_more hn2 o12 (by rw [z12]; exact c3.size) x (by omega)
  have v14 := (c4.block W4.heap.size vlt).trans v12
  have b14 := b12.trans (c4.mono b10.size)
  have keep : ∀ g, w5.heap.size ≤ g → g < w10.heap.size → (w14.setCell ⟨W4.heap.size, 1, none⟩ (.slice b2 (n2 + 1) m2)).heap[g]? = w10.heap[g]? := fun g hg hl => by
    rw [setc_other _ _ (by omega), c4.block g hl, hw12, setc_other _ _ (by omega), c3.block g hl]
  refine ⟨w6, w9, w11, w14, a1, a2, b1, b2, k1, k2, m1, m2, ⟨r1, v6, by rw [← hw7, ← z7]; exact r2, v9, by rw [← hw10]; exact b10, by rw [← hw10]; exact r3, v11, by rw [← hw12, ← z12]; exact r4, v14, setc_below b14 (Nat.le_refl _) 1 _, heap_setCell_same v14 1 _, ?_, ?_⟩⟩
  · exact texts_own (B := w5.heap.size) (by
      have e : (sg ++ [x]).length = n1 + 1 := by simp [hn1]
      refine own_keep o10 (fun g hg => keep g (o10.lt g hg).1 (o10.lt g hg).2))
  · exact texts_own (B := w10.heap.size) (own_keep o4 (fun g hg => setc_other _ _ (by have := (o4.lt g hg).1; omega)))
end Go.Proofs.YtdllpklecdmghaaDoor
