import Derived.Test.YtdllpklecdmghaaGreatDoorLkOAll
import Derived.Test.YtdllpklecdmghaaGreatDoorLkJAll
import Derived.Maps.AppendAt
import Derived.Test.YtdllpklecdmghaaGreatDoorRkMAll
import Derived.Deep.Cut
import Derived.Test.YtdllpklecdmghaaGreatDoorLkWkAll
import Derived.Test.YtdllpklecdmghaaGreatDoorLkHAll
/- Texts put behind one another in rows of one's own: a witness with one more of each. -/
namespace Go.Proofs.YtdllpklecdmghaaGreatDoor
open Go.RowKit
open Lk (Lt Sp)
theorem tx_info22 : (Tryz.prog.info? 22).map (fun i => (i.zero, i.size, i.bytes)) = some (some (.string ⟨#[]⟩), 1, 16) := by kernel_rfl
theorem texts_own {W : World} {B : Nat} {v : Value} {ks : List Bs} (h : W.ownsRow B 22 1 v ks.length (ks.map St)) : Texts W v ks := by
  rcases h.2 with ⟨h1, h2⟩ | ⟨g, cap, cur, rfl, _, hg, _, _, _, hc⟩
  · exact ⟨none, 0, by rw [h1, h2], fun hne => absurd (List.eq_nil_of_length_eq_zero h2) hne⟩
  · refine ⟨some ⟨g, 0, none⟩, cap, rfl, fun _ => ⟨g, 0, rfl, lt_of_heap hg, fun i hi => ?_⟩⟩
    have h1 : (ks.map St)[i]? = some (St ks[i]) := by rw [List.getElem?_map, List.getElem?_eq_getElem hi]; rfl
    rw [← hc, List.getElem?_take, if_pos (by omega)] at h1
    rw [cell_of_heap hg, Nat.zero_add, ← Array.getElem?_toList]
    exact h1
theorem own_copy {W : World} {sa : Option Addr} {n c : Nat} {ks : List Bs} (hn : n = ks.length) (hk : Texts W (.slice sa n c) ks) (hl : n ≤ 1000) :
    ∃ a k w', (∀ ty, (Builtin.append_ #[32, 32] ty #[.slice none 0 0, .slice sa n c]).run Tryz.prog W = .ok (.slice a n k) w') ∧ w'.ownsRow W.heap.size 22 1 (.slice a n k) ks.length (ks.map St) ∧ Below W.heap.size W w' := by
  subst hn
  obtain ⟨i0, hi, hz0, hz1, hz2⟩ := info_parts tx_info22
  obtain ⟨_, _, hv, hc⟩ := hk
  cases hv
  by_cases h0 : ks = []
  · subst h0
    refine ⟨none, 0, W, fun ty => ?_, World.ownsRow_nil _ _ _ _, Below.refl _ _⟩
    cases sa <;> simp [Builtin.append_, Builtin.firstCells, run_underlying Tryz.underlying32, sizeOf, typeInfo, hi, Builtin.lenOf, go_sem]
  · obtain ⟨g, o, rfl, hlt, hcell⟩ := hc h0
    have hpos := List.length_pos_iff.2 h0
    obtain ⟨v', w', h1, h2, h3, _, _⟩ := run_append_own_at (P := Tryz.prog) W W.heap.size 32 32 22 i0 _ 1 16 Tryz.underlying32 hi hz0 hz1 hz2 rfl (by decide) (.slice none 0 0) 0 [] (World.ownsRow_nil _ _ _ _) ⟨g, o, none⟩ ks.length c (ks.map St) (by simp) (fun j u hu => by
      have hj : j < ks.length := by have := (List.getElem?_eq_some_iff.1 hu).1; simpa using this
      rw [add_plain, hcell j hj, ← hu]; simp [hj]) (fun u hu => by obtain ⟨x, _, rfl⟩ := List.mem_map.1 hu; rfl) (by unfold maxLen; omega) (by omega) (Nat.le_refl _)
    rw [Nat.zero_add, List.nil_append] at h2
    obtain ⟨a, k, rfl⟩ := row_shape h2
    exact ⟨a, k, w', fun _ => h1, h2, ⟨h3.os, h3.tape, h3.output, h3.size, fun k hk => h3.block k hk (by simp [Value.ownBlock])⟩⟩
theorem own_more {W : World} {B : Nat} {a : Option Addr} {n k : Nat} {ks : List Bs} (hn : n = ks.length) (h : W.ownsRow B 22 1 (.slice a n k) ks.length (ks.map St)) (hB : B ≤ W.heap.size) (x : Bs) (hl : n ≤ 1000) :
    ∃ a' k' w', (∀ ty, (Builtin.append_ #[32, 32] ty #[.slice a n k, .slice (some ⟨W.heap.size, 0, none⟩) 1 1]).run Tryz.prog (W.alloc (.cells #[St x] 22)) = .ok (.slice a' (n + 1) k') w') ∧ w'.ownsRow B 22 1 (.slice a' (n + 1) k') (ks ++ [x]).length ((ks ++ [x]).map St) ∧ Below B W w' := by
  subst hn
  obtain ⟨i0, hi, hz0, hz1, hz2⟩ := info_parts tx_info22
  obtain ⟨v', w', h1, h2, h3, _, _⟩ := run_append_own_at (P := Tryz.prog) (W.alloc (.cells #[St x] 22)) B 32 32 22 i0 _ 1 16 Tryz.underlying32 hi hz0 hz1 hz2 rfl (by decide) (.slice a ks.length k) ks.length (ks.map St) (h.alloc _) ⟨W.heap.size, 0, none⟩ 1 1 [St x] rfl (cell_one_new _ _ _) (fun u hu => by rw [List.mem_singleton.1 hu]; rfl) (by unfold maxLen; omega) (by omega) (by rw [heap_alloc_size]; omega)
  have e : (ks ++ [x]).length = ks.length + 1 := by simp
  have e2 : (ks ++ [x]).map St = ks.map St ++ [St x] := by simp
  obtain ⟨a', k', rfl⟩ := row_shape h2
  refine ⟨a', k', w', fun _ => h1, by rw [e, e2]; exact h2, ?_⟩
  refine ⟨h3.os, h3.tape, h3.output, by have := h3.size; rw [heap_alloc_size] at this; omega, fun g hg => ?_⟩
  rw [h3.block g (by rw [heap_alloc_size]; omega) (fun e => by have := ((h.alloc (.cells #[St x] 22)).lt g e.symm).1; omega)]
  exact Below.heap_alloc W _ g (by omega)
theorem own_keep {B : Nat} {e : TypeId} {sz : Nat} {w w' : World} {v : Value} {n : Nat} {xs : List Value} (h : w.ownsRow B e sz v n xs) (hk : ∀ g, v.ownBlock = some g → w'.heap[g]? = w.heap[g]?) : w'.ownsRow B e sz v n xs := by
  obtain ⟨h1, h2⟩ := h
  refine ⟨h1, ?_⟩
  rcases h2 with h2 | ⟨g, cap, cur, e1, e2, e3, e4⟩
  · exact Or.inl h2
  · exact Or.inr ⟨g, cap, cur, e1, e2, (hk g (by rw [e1]; rfl)).trans e3, e4⟩
theorem setc_other (w : World) {g k o : Nat} (v : Value) (h : k ≠ g) : (w.setCell ⟨g, o, none⟩ v).heap[k]? = w.heap[k]? := Below.heap_setCell _ _ _ _ h
theorem setc_below {b : Nat} {w W : World} (h : Below b w W) {g : Nat} (hg : b ≤ g) (o : Nat) (v : Value) : Below b w (W.setCell ⟨g, o, none⟩ v) :=
  ⟨h.os, h.tape, h.output, by simp [World.setCell]; exact h.size, fun k hk => (setc_other W v (by omega)).trans (h.block k hk)⟩
structure Mv (W4 : World) (sa pa : Option Addr) (n1 n2 sc pc : Nat) (sg pr : List Bs) (x : Bs) (w6 w9 w11 w14 : World) (a1 a2 b1 b2 : Option Addr) (k1 k2 m1 m2 : Nat) : Prop where
  r1 : ∀ ty, (Builtin.append_ #[32, 32] ty #[.slice none 0 0, .slice sa n1 sc]).run Tryz.prog (W4.alloc (.cells #[.slice none 0 0, .slice none 0 0] 40)) = .ok (.slice a1 n1 k1) w6
  v6 : w6.heap[W4.heap.size]? = some (.cells #[.slice none 0 0, .slice none 0 0] 40 (0, 0))
  r2 : ∀ ty, (Builtin.append_ #[32, 32] ty #[.slice a1 n1 k1, .slice (some ⟨w6.heap.size, 0, none⟩) 1 1]).run Tryz.prog ((w6.setCell ⟨W4.heap.size, 0, none⟩ (.slice a1 n1 k1)).alloc (.cells #[St x] 22)) = .ok (.slice a2 (n1 + 1) k2) w9
  v9 : w9.heap[W4.heap.size]? = some (.cells #[.slice a1 n1 k1, .slice none 0 0] 40 (0, 0))
  b10 : Below W4.heap.size W4 (w9.setCell ⟨W4.heap.size, 0, none⟩ (.slice a2 (n1 + 1) k2))
  r3 : ∀ ty, (Builtin.append_ #[32, 32] ty #[.slice none 0 0, .slice pa n2 pc]).run Tryz.prog (w9.setCell ⟨W4.heap.size, 0, none⟩ (.slice a2 (n1 + 1) k2)) = .ok (.slice b1 n2 m1) w11
  v11 : w11.heap[W4.heap.size]? = some (.cells #[.slice a2 (n1 + 1) k2, .slice none 0 0] 40 (0, 0))
  r4 : ∀ ty, (Builtin.append_ #[32, 32] ty #[.slice b1 n2 m1, .slice (some ⟨w11.heap.size, 0, none⟩) 1 1]).run Tryz.prog ((w11.setCell ⟨W4.heap.size, 1, none⟩ (.slice b1 n2 m1)).alloc (.cells #[St x] 22)) = .ok (.slice b2 (n2 + 1) m2) w14
  v14 : w14.heap[W4.heap.size]? = some (.cells #[.slice a2 (n1 + 1) k2, .slice b1 n2 m1] 40 (0, 0))
  bel : Below W4.heap.size W4 (w14.setCell ⟨W4.heap.size, 1, none⟩ (.slice b2 (n2 + 1) m2))
  box : (w14.setCell ⟨W4.heap.size, 1, none⟩ (.slice b2 (n2 + 1) m2)).heap[W4.heap.size]? = some (.cells #[.slice a2 (n1 + 1) k2, .slice b2 (n2 + 1) m2] 40 (0, 0))
  sgs : Texts (w14.setCell ⟨W4.heap.size, 1, none⟩ (.slice b2 (n2 + 1) m2)) (.slice a2 (n1 + 1) k2) (sg ++ [x])
  prs : Texts (w14.setCell ⟨W4.heap.size, 1, none⟩ (.slice b2 (n2 + 1) m2)) (.slice b2 (n2 + 1) m2) (pr ++ [x])
theorem more_wit {W4 : World} {sa pa : Option Addr} {n1 n2 sc pc : Nat} {sg pr : List Bs} (hn1 : n1 = sg.length) (hn2 : n2 = pr.length) (hs : Texts W4 (.slice sa n1 sc) sg) (hp : Texts W4 (.slice pa n2 pc) pr) (l1 : n1 ≤ 100) (l2 : n2 ≤ 100) (x : Bs) :
    ∃ w6 w9 w11 w14 a1 a2 b1 b2 k1 k2 m1 m2, Mv W4 sa pa n1 n2 sc pc sg pr x w6 w9 w11 w14 a1 a2 b1 b2 k1 k2 m1 m2 := by
  have b5 := below_al W4 (.cells #[.slice none 0 0, .slice none 0 0] 40)
  have h5 := heap_alloc_new W4 (.cells #[.slice none 0 0, .slice none 0 0] 40)
  have z5 := heap_alloc_size W4 (.cells #[.slice none 0 0, .slice none 0 0] 40)
  obtain ⟨a1, k1, w6, r1, o1, c1⟩ := own_copy hn1 (hs.low b5) (by omega)
  obtain ⟨w5, hw5⟩ : ∃ w5, w5 = W4.alloc (.cells #[.slice none 0 0, .slice none 0 0] 40) := ⟨_, rfl⟩
  rw [← hw5] at b5 h5 z5 o1 c1
  have v6 := (c1.block _ (lt_of_heap h5)).trans h5
  have b6 := b5.trans (c1.mono b5.size)
  obtain ⟨w7, hw7⟩ : ∃ w7, w7 = w6.setCell ⟨W4.heap.size, 0, none⟩ (.slice a1 n1 k1) := ⟨_, rfl⟩
  have v7 : w7.heap[W4.heap.size]? = some (.cells #[.slice a1 n1 k1, .slice none 0 0] 40 (0, 0)) := hw7 ▸ heap_setCell_same v6 0 _
  have b7 : Below W4.heap.size W4 w7 := hw7 ▸ setc_below b6 (Nat.le_refl _) 0 _
  have z7 : w7.heap.size = w6.heap.size := by rw [hw7]; simp [World.setCell]
  have o7 : w7.ownsRow w5.heap.size 22 1 (.slice a1 n1 k1) sg.length (sg.map St) := own_keep o1 (fun g hg => by rw [hw7]; exact setc_other _ _ (by have := (o1.lt g hg).1; omega))
  obtain ⟨a2, k2, w9, r2, o2, c2⟩ := own_more hn1 o7 (by rw [z7]; exact c1.size) x (by omega)
  have v9 := (c2.block W4.heap.size (by omega)).trans v7
  have b9 := b7.trans (c2.mono (by omega))
  obtain ⟨w10, hw10⟩ : ∃ w10, w10 = w9.setCell ⟨W4.heap.size, 0, none⟩ (.slice a2 (n1 + 1) k2) := ⟨_, rfl⟩
  have v10 : w10.heap[W4.heap.size]? = some (.cells #[.slice a2 (n1 + 1) k2, .slice none 0 0] 40 (0, 0)) := hw10 ▸ heap_setCell_same v9 0 _
  have b10 : Below W4.heap.size W4 w10 := hw10 ▸ setc_below b9 (Nat.le_refl _) 0 _
  have o10 : w10.ownsRow w5.heap.size 22 1 (.slice a2 (n1 + 1) k2) (sg ++ [x]).length ((sg ++ [x]).map St) := own_keep o2 (fun g hg => by rw [hw10]; exact setc_other _ _ (by have := (o2.lt g hg).1; omega))
  obtain ⟨b1, m1, w11, r3, o3, c3⟩ := own_copy hn2 (hp.low b10) (by omega)
  have v11 := (c3.block _ (lt_of_heap v10)).trans v10
  have b11 := b10.trans (c3.mono b10.size)
  have vlt := lt_of_heap v10
  obtain ⟨w12, hw12⟩ : ∃ w12, w12 = w11.setCell ⟨W4.heap.size, 1, none⟩ (.slice b1 n2 m1) := ⟨_, rfl⟩
  have v12 : w12.heap[W4.heap.size]? = some (.cells #[.slice a2 (n1 + 1) k2, .slice b1 n2 m1] 40 (0, 0)) := hw12 ▸ heap_setCell_same v11 1 _
  have b12 : Below W4.heap.size W4 w12 := hw12 ▸ setc_below b11 (Nat.le_refl _) 1 _
  have z12 : w12.heap.size = w11.heap.size := by rw [hw12]; simp [World.setCell]
  have o12 : w12.ownsRow w10.heap.size 22 1 (.slice b1 n2 m1) pr.length (pr.map St) := own_keep o3 (fun g hg => by rw [hw12]; exact setc_other _ _ (by have := (o3.lt g hg).1; omega))
  obtain ⟨b2, m2, w14, r4, o4, c4⟩ := own_more hn2 o12 (by rw [z12]; exact c3.size) x (by omega)
  have v14 := (c4.block W4.heap.size vlt).trans v12
  have b14 := b12.trans (c4.mono b10.size)
  have keep : ∀ g, w5.heap.size ≤ g → g < w10.heap.size → (w14.setCell ⟨W4.heap.size, 1, none⟩ (.slice b2 (n2 + 1) m2)).heap[g]? = w10.heap[g]? := fun g hg hl => by
    rw [setc_other _ _ (by omega), c4.block g hl, hw12, setc_other _ _ (by omega), c3.block g hl]
  refine ⟨w6, w9, w11, w14, a1, a2, b1, b2, k1, k2, m1, m2, ⟨r1, v6, by rw [← hw7, ← z7]; exact r2, v9, by rw [← hw10]; exact b10, by rw [← hw10]; exact r3, v11, by rw [← hw12, ← z12]; exact r4, v14, setc_below b14 (Nat.le_refl _) 1 _, heap_setCell_same v14 1 _, ?_, ?_⟩⟩
  · exact texts_own (B := w5.heap.size) (by
      have e : (sg ++ [x]).length = n1 + 1 := by simp [hn1]
      refine own_keep o10 (fun g hg => keep g (o10.lt g hg).1 (o10.lt g hg).2))
  · exact texts_own (B := w10.heap.size) (own_keep o4 (fun g hg => setc_other _ _ (by have := (o4.lt g hg).1; omega)))
end Go.Proofs.YtdllpklecdmghaaGreatDoor
/- The keys of a lock, by the document; two rows of terms held against each other. -/
namespace Go.Proofs.YtdllpklecdmghaaGreatDoor
open Go.RowKit
open Lk (Lt)
theorem texts_below {w w' : World} {kv : Value} {ks : List Bs} (h : Texts w kv ks) (hb : Below w.heap.size w w') : Texts w' kv ks := by
  obtain ⟨ao, cap, e, h1⟩ := h
  refine ⟨ao, cap, e, fun hne => ?_⟩
  obtain ⟨g, o, e2, hlt, hc⟩ := h1 hne
  exact ⟨g, o, e2, Nat.lt_of_lt_of_le hlt hb.size, fun i hi => (hb.cell (p := ⟨g, o + i, none⟩) hlt).trans (hc i hi)⟩
theorem Texts.cells {w : World} {ao : Option Addr} {kc : Nat} {l : List Bs} (h : Texts w (.slice ao l.length kc) l) (i : Nat) (hi : i < l.length) : ∃ g o, ao = some ⟨g, o, none⟩ ∧ g < w.heap.size ∧ w.cell? ⟨g, o + i, none⟩ = some (St l[i]) := by
  obtain ⟨ao', cap', he, ht⟩ := h
  cases he
  obtain ⟨g, o, e, hg, hc⟩ := ht (fun e => by rw [e] at hi; simp at hi)
  exact ⟨g, o, e, hg, hc i hi⟩
set_option maxRecDepth 100000 in
set_option maxHeartbeats 2000000 in
theorem sameT_any (w : World) (a1 a2 : Option Addr) (c1 c2 : Nat) (A B : List Bs) (hA : Texts w (.slice a1 A.length c1) A) (hB : Texts w (.slice a2 B.length c2) B) (hl : A.length ≤ 100000000) (hl2 : B.length ≤ 100000000) :
    Calls Tryz.prog 12 #[.slice a1 A.length c1, .slice a2 B.length c2] w fun e w' => e = .returned (.bool (decide (A = B))) ∧ Below w.heap.size w w' := by
  have HA : Hid (∀ wr, Below w.heap.size w wr → ∀ i (h : i < A.length), ∃ g o, a1 = some ⟨g, o, none⟩ ∧ g < wr.heap.size ∧ wr.cell? ⟨g, o + i, none⟩ = some (St A[i])) := hid (fun wr hb i h => (texts_below hA hb).cells i h)
  have HB : Hid (∀ wr, Below w.heap.size w wr → ∀ i (h : i < B.length), ∃ g o, a2 = some ⟨g, o, none⟩ ∧ g < wr.heap.size ∧ wr.cell? ⟨g, o + i, none⟩ = some (St B[i])) := hid (fun wr hb i h => (texts_below hB hb).cells i h)
  obtain ⟨q, hq⟩ : ∃ q, q = A.length := ⟨_, rfl⟩
  obtain ⟨m, hm⟩ : ∃ m, m = B.length := ⟨_, rfl⟩
  have HQ := hid hq
  have HM := hid hm
  rw [← hq, ← hm]
  rw [← hq] at hl
  rw [← hm] at hl2
  clear hA hB hq hm
  by_cases hqm : q = m
  · subst hqm
    go_enter Tryz.func12, Tryz.ntmps12
    go_wp2_with fail
    go_loopg [5] q (fun gg v wr => ∃ i : Nat, i ≤ q ∧ gg = q - i ∧ v = .int .i64 (i : Int) ∧ Below w.heap.size w wr ∧ ∀ j (h : j < A.length) (h2 : j < B.length), j < i → A[j] = B[j])
    case atStart => exact ⟨0, by omega, by omega, rfl, Below.refl _ _, fun j _ _ h => by omega⟩
    case round =>
      obtain ⟨i, hi, rfl, rfl, hwr, hall⟩ := hrel
      have HW := hid hwr
      have HL := hid hall
      clear hall hwr
      by_cases hil : i < q
      · have hi1 : (i : Int) < (q : Int) := by omega
        have hia : i < A.length := by rw [← HQ.out]; exact hil
        have hib : i < B.length := by rw [← HM.out]; exact hil
        obtain ⟨g1, o1, e1, _, hc1⟩ := HA.out _ HW.out i hia
        obtain ⟨g2, o2, e2, _, hc2⟩ := HB.out _ HW.out i hib
        subst e1
        subst e2
        by_cases he : A[i] = B[i]
        · have HE := hid he
          rw [he] at hc1
          clear he
          go_wp2_with fail
          go_quiet (fail)
          go_wp2_with fail
          go_roundg (q - (i + 1))
          case measure => omega
          case rel => exact ⟨i + 1, by omega, rfl, by go_num, below_drewN HW.out _, fun j h h2 hj => by
            by_cases e : j = i
            · subst e; exact HE.out
            · exact HL.out j h h2 (by omega)⟩
        · have HNE : Hid (A ≠ B) := hid (fun e => he (by subst e; rfl))
          have hne : (A[i] == B[i]) = false := by simpa using he
          clear he
          go_wp2_with fail
          go_quiet (fail)
          go_wp2_with fail
          go_ret
          exact ⟨by rw [decide_eq_false HNE.out]; rfl, below_drewN HW.out _⟩
      · have hi1 : ¬ (i : Int) < (q : Int) := by omega
        have HEQ : Hid (A = B) := hid (List.ext_getElem (by have := HQ.out; have := HM.out; omega) (fun j h h2 => HL.out j h h2 (by have := HQ.out; omega)))
        go_wp2_with fail
        go_ret
        exact ⟨by rw [decide_eq_true HEQ.out]; rfl, HW.out⟩
  · have hqm1 : ¬ (q : Int) = (m : Int) := by omega
    have hqm2 : ((q : Int) == (m : Int)) = false := by simpa using hqm1
    have HNE : Hid (A ≠ B) := hid (fun e => hqm (by rw [HQ.out, HM.out, e]))
    go_enter Tryz.func12, Tryz.ntmps12
    go_wp2_with fail
    go_ret
    exact ⟨by rw [decide_eq_false HNE.out]; rfl, Below.refl _ _⟩
theorem own_cap {w : World} {B : Nat} {a : Option Addr} {k : Nat} {l : List Bs} (h : w.ownsRow B 22 1 (.slice a l.length k) l.length (l.map St)) : l.length ≤ k ∧ (a = none → l = []) ∧ ∀ x, a = some x → ∃ g, x = ⟨g, 0, none⟩ := by
  rcases h.2 with ⟨h1, h2⟩ | ⟨g, cap, cur, hv, hb, hg, hc1, hc2, hc3, hc4⟩
  · have e : l = [] := List.length_eq_zero_iff.1 (by omega)
    subst e
    injection h1 with e1 _ _
    exact ⟨by simp, fun _ => rfl, fun x h => by rw [e1] at h; cases h⟩
  · cases hv
    exact ⟨by omega, (fun h => by cases h), fun x h => by cases h; exact ⟨g, rfl⟩⟩
theorem append_many (W : World) (B : Nat) (v kv : Value) (l ks : List Bs) (hown : W.ownsRow B 22 1 v l.length (l.map St)) (hk : Texts W kv ks) (hl : l.length + ks.length < 1000000000) (hB : B ≤ W.heap.size) :
    ∃ ao kc w', (∀ ty, (Builtin.append_ #[32, 32] ty #[v, kv]).run Tryz.prog W = .ok (.slice ao (l ++ ks).length kc) w') ∧ w'.ownsRow B 22 1 (.slice ao (l ++ ks).length kc) (l ++ ks).length ((l ++ ks).map St) ∧ W.grownBy w' v.ownBlock := by
  obtain ⟨i0, hi, hz0, hz1, hz2⟩ := info_parts Tryz.info22
  obtain ⟨ao, cap, rfl, hc⟩ := hk
  obtain ⟨a1, k1, rfl⟩ := row_shape hown
  by_cases h0 : ks = []
  · subst h0
    refine ⟨a1, k1, W, fun ty => ?_, by simpa using hown, ⟨rfl, rfl, rfl, Nat.le_refl _, fun _ _ _ => rfl⟩⟩
    have hcap := (own_cap hown).1
    cases a1 <;> cases ao <;> simp [hcap, Builtin.append_, Builtin.firstCells, run_underlying Tryz.underlying32, sizeOf, typeInfo, hi, Builtin.lenOf, go_sem]
  · obtain ⟨g, o, rfl, hlt, hcell⟩ := hc h0
    have hpos := List.length_pos_iff.2 h0
    obtain ⟨v', w', h1, h2, h3, _, h5⟩ := run_append_own_at (P := Tryz.prog) W B 32 32 22 i0 _ 1 16 Tryz.underlying32 hi hz0 hz1 hz2 rfl (by decide) (.slice a1 l.length k1) l.length (l.map St) hown ⟨g, o, none⟩ ks.length cap (ks.map St) (by simp) (fun j u hu => by
      have hj : j < ks.length := by have := (List.getElem?_eq_some_iff.1 hu).1; simpa using this
      rw [add_plain, hcell j hj, ← hu]; simp [hj]) (fun u hu => by obtain ⟨x, _, rfl⟩ := List.mem_map.1 hu; rfl) (by unfold maxLen; omega) (by omega) hB
    rw [← List.map_append] at h2
    have h4 : ∃ a k, v' = .slice a (l ++ ks).length k := by
      rcases h2.2 with ⟨_, e⟩ | ⟨g, cap, _, e, _⟩
      · omega
      · exact ⟨some ⟨g, 0, none⟩, cap, by rw [e]; simp⟩
    obtain ⟨a, k, rfl⟩ := h4
    exact ⟨a, k, w', fun ty => h1, by simpa using h2, h3⟩
theorem own_lower {w : World} {B C : Nat} {e : TypeId} {sz : Nat} {v : Value} {n : Nat} {xs : List Value} (h : w.ownsRow B e sz v n xs) (hC : C ≤ B) : w.ownsRow C e sz v n xs := by
  refine ⟨h.1, ?_⟩
  rcases h.2 with h2 | ⟨g, cap, cur, h3, h4, h5⟩
  · exact .inl h2
  · exact .inr ⟨g, cap, cur, h3, Nat.le_trans hC h4, h5⟩
set_option maxHeartbeats 8000000 in
theorem dkeys_any {b : Nat → Prop} (d : Nat) : ∀ (l : Lt) (kv : Value) (w : World), Kd b w d kv l.kids → Lk.ok l = true → (Lk.keys l).length ≤ 100000 → Calls Tryz.prog 39 #[.agg (lcs l kv)] w fun e w' => ∃ v', e = .returned v' ∧ (w'.ownsRow w.heap.size 22 1 v' (Lk.keys l).length ((Lk.keys l).map St) ∧ Below w.heap.size w w') := by
  induction d using Nat.strongRecOn with
  | ind d ih =>
    intro l kv w hk hok hlen
    obtain ⟨kd, t, n, ks⟩ := l
    obtain ⟨hl, ao, cap, rfl, hks⟩ := hk.parts
    have hks : Kr b w d ao ks := hks
    have hl : ks.length ≤ 140737488355328 := hl
    rw [Lk.ok, Bool.and_eq_true] at hok
    obtain ⟨hfit, hoks⟩ := hok
    clear hk
    rw [Lk.keys] at hlen ⊢
    show Calls Tryz.prog 39 #[.agg #[.int .u8 (kd : Int), St t, .int .i64 n, .slice ao ks.length cap]] w _
    by_cases k1 : kd = 1
    · subst k1
      obtain ⟨rfl, rfl, hd⟩ := Lk.fitT (by decide) hfit
      simp only [if_true]
      obtain ⟨w0, hw0⟩ : ∃ w0, w0 = w.alloc (.cells #[.int .u8 1, St t, .int .i64 0, .slice ao 0 cap] 25) := ⟨_, rfl⟩
      have hB0 : Below w.heap.size w w0 := by rw [hw0]; exact below_al _ _
      have hn0 : w0.ownsRow w.heap.size 22 1 (.slice none 0 0) ([] : List Bs).length (([] : List Bs).map fun b => St b) := World.ownsRow_nil _ _ _ _
      obtain ⟨a3, c3, w3, r3, o3, g3⟩ := app_term hn0 t (by simp) hB0.size
      have HR3 : Hid (∀ ty, (Builtin.append_ #[32, 32] ty #[.slice none 0 0, .slice (some ⟨w0.heap.size, 0, none⟩) 1 1]).run Tryz.prog (w0.alloc (.cells #[St t] 22)) = .ok (.slice a3 1 c3) w3) := hid r3
      have hb3 := below_own hB0 hB0.size hn0 g3
      have HF : Hid (w3.ownsRow w.heap.size 22 1 (.slice a3 1 c3) [t].length ([t].map St) ∧ Below w.heap.size w w3) := hid ⟨o3, hb3⟩
      have c3' : w3.cell? ⟨w.heap.size, 3, none⟩ = some (.slice ao 0 cap) := by
        have hbk : w0.heap[w.heap.size]? = some (.cells #[.int .u8 1, St t, .int .i64 0, .slice ao 0 cap] 25 (0, 0)) := by rw [hw0]; exact heap_alloc_new w _
        have hlt := lt_of_heap hbk
        have h9 := g3.block w.heap.size hlt (by simp [Value.ownBlock])
        rw [cell_of_heap (h9.trans hbk)]
        rfl
      have c1' : w0.cell? ⟨w.heap.size, 1, none⟩ = some (St t) := by rw [hw0]; exact (cell_of_heap (heap_alloc_new w _) 1).trans rfl
      clear hlen hd hfit hoks hks hl ih r3 o3 g3 hb3 hn0 hB0
      go_enter Tryz.func39, Tryz.ntmps39
      go_upto_region 3 with fail
      rw [← hw0]
      clear hw0
      go_wp2_with (first | (at_builtin; refine wpList_append_run rfl (.tmp 8) (.tmp 11) 32 32 rfl _ _ (.slice a3 1 c3) w3 rfl rfl HR3.out ?_) | fail)
      go_loopg [3, 4] 0 (fun gg v3 v4 wr => gg = 0 ∧ v3 = .slice a3 1 c3 ∧ v4 = .int .i64 0 ∧ wr = w3)
      case atStart => exact ⟨rfl, rfl, rfl, rfl⟩
      case round =>
        obtain ⟨rfl, rfl, rfl, rfl⟩ := hrel
        go_wp2_with fail
        go_ret
        exact ⟨_, rfl, HF.out⟩
    · rw [if_neg k1] at hlen ⊢
      have hki : ¬ (kd : Int) = 1 := by omega
      have hkb : ((kd : Int) == 1) = false := by simpa using hki
      obtain ⟨m, hm⟩ : ∃ m, m = ks.length := ⟨_, rfl⟩
      rw [← hm] at hl ⊢
      obtain ⟨w0, hw0⟩ : ∃ w0, w0 = w.alloc (.cells #[.int .u8 (kd : Int), St t, .int .i64 n, .slice ao m cap] 25) := ⟨_, rfl⟩
      have HB0 : Hid (Below w.heap.size w w0) := hid (by rw [hw0]; exact below_al _ _)
      have HC0 : Hid (∀ W, Below w0.heap.size w0 W → W.cell? ⟨w.heap.size, 3, none⟩ = some (.slice ao m cap)) := hid (fun W hW => cell_later hW (by rw [hw0]; exact (cell_of_heap (heap_alloc_new w _) 3).trans rfl))
      have HSZ : Hid (w0.heap.size = w.heap.size + 1) := hid (by rw [hw0]; simp)
      have HM := hid hm
      have HL := hid hl
      have HKS : Hid (Kr b w d ao ks) := hid hks
      have HIH := hid ih
      have HOK := hid hoks
      have HLEN := hid hlen
      have HN0 : Hid (w0.ownsRow w0.heap.size 22 1 (.slice none 0 0) (Lk.keysAll (ks.take 0)).length ((Lk.keysAll (ks.take 0)).map St)) := hid (by rw [List.take_zero, Lk.keysAll]; exact World.ownsRow_nil _ _ _ _)
      clear hm hl hks ih hoks hlen hfit
      go_enter Tryz.func39, Tryz.ntmps39
      go_wp2_with fail
      rw [← hw0]
      clear hw0
      go_loopg [3, 4] m (fun gg v3 v4 wr => ∃ (i : Nat) (v : Value), gg = m - i ∧ i ≤ m ∧ v3 = v ∧ v4 = .int .i64 (i : Int) ∧ wr.ownsRow w0.heap.size 22 1 v (Lk.keysAll (ks.take i)).length ((Lk.keysAll (ks.take i)).map St) ∧ Below w0.heap.size w0 wr)
      case atStart => exact ⟨0, _, rfl, Nat.zero_le _, rfl, rfl, HN0.out, Below.refl _ _⟩
      case round =>
        obtain ⟨i, v, rfl, hi, rfl, rfl, ho, hB⟩ := hrel
        obtain ⟨a5, c5, rfl⟩ := row_shape ho
        have c3 := HC0.out wr hB
        have hBw : Below w.heap.size w wr := HB0.out.trans (hB.mono HB0.out.size)
        by_cases him : i < m
        · have hik : i < ks.length := by have := HM.out; omega
          obtain ⟨g, o, hg, _, hc⟩ := (HKS.out.low hBw) (show 0 < ks.length by omega)
          subst hg
          obtain ⟨kv, hcs, hlr, d', hd', hkd⟩ := hc i hik
          obtain ⟨x, hx⟩ : ∃ x, x = ks[i] := ⟨_, rfl⟩
          have hokx := Lk.oks_get HOK.out _ (List.getElem_mem hik)
          have hst := Lk.keys_next hik
          have hle := Lk.keys_le (ks := ks) (i + 1)
          rw [← hx] at hcs hlr hkd hokx hst
          rw [hst, List.length_append] at hle
          obtain ⟨_, a2, c2, rfl⟩ := hkd.shape
          have e0 : wr.cell? ⟨g, o + i * 4, none⟩ = some (.int .u8 (x.kind : Int)) := hcs 0 _ rfl
          have e1 : wr.cell? ⟨g, o + i * 4 + 1, none⟩ = some (St x.term) := hcs 1 _ rfl
          have e2 : wr.cell? ⟨g, o + i * 4 + 2, none⟩ = some (.int .i64 x.n) := hcs 2 _ rfl
          have e3 : wr.cell? ⟨g, o + i * 4 + 3, none⟩ = some (.slice a2 x.kids.length c2) := hcs 3 _ rfl
          have hkl : (Lk.keys x).length ≤ 100000 := by have := HLEN.out; omega
          have hkt : (Lk.keysAll (ks.take i)).length + (Lk.keys x).length < 1000000000 := by have := HLEN.out; omega
          have HCA : Hid (Calls Tryz.prog 39 #[.agg #[.int .u8 (x.kind : Int), St x.term, .int .i64 x.n, .slice a2 x.kids.length c2]] wr fun e w' => ∃ a c, e = .returned (.slice a (Lk.keys x).length c) ∧ (∃ a6 c6 w6, (∀ ty, (Builtin.append_ #[32, 32] ty #[.slice a5 (Lk.keysAll (ks.take i)).length c5, .slice a (Lk.keys x).length c]).run Tryz.prog w' = .ok (.slice a6 (Lk.keysAll (ks.take (i + 1))).length c6) w6) ∧ w6.ownsRow w0.heap.size 22 1 (.slice a6 (Lk.keysAll (ks.take (i + 1))).length c6) (Lk.keysAll (ks.take (i + 1))).length ((Lk.keysAll (ks.take (i + 1))).map St) ∧ Below w0.heap.size w0 w6)) := hid ((HIH.out d' hd' x _ wr hkd hokx hkl).mono (fun e w' ⟨v', h1, h2, h3⟩ => by
            obtain ⟨a, c, rfl⟩ := row_shape h2
            have ho' := ownsRow_of_heap ho (fun k hk => h3.block k hk)
            have hB' := hB.trans (h3.mono hB.size)
            obtain ⟨a6, c6, w6, r6, o6, g6⟩ := append_many w' w0.heap.size _ _ _ _ ho' (texts_own h2) hkt hB'.size
            rw [← hst] at r6 o6
            exact ⟨a, c, h1, a6, c6, w6, r6, o6, below_own hB' hB'.size ho' g6⟩))
          have hiw : IntKind.i64.wrap ((i : Int) + 1) = ((i + 1 : Nat) : Int) := by rw [IntKind.wrap_i64]; have := HL.out; omega
          have hi0 : (0 : Int) ≤ (i : Int) := Int.natCast_nonneg _
          have hi1 : (i : Int) < (m : Int) := by omega
          obtain ⟨nx, hnx⟩ : ∃ nx, nx = (Lk.keysAll (ks.take (i + 1))).length := ⟨_, rfl⟩
          obtain ⟨n0, hn0⟩ : ∃ n0, n0 = (Lk.keysAll (ks.take i)).length := ⟨_, rfl⟩
          obtain ⟨nk, hnk⟩ : ∃ nk, nk = (Lk.keys x).length := ⟨_, rfl⟩
          rw [← hnx, ← hn0, ← hnk] at HCA
          have HNX := hid hnx
          rw [← hn0]
          have HI := hid him
          clear hcs hlr hkd hc hik him hi hx hB hBw hst hle hokx ho hkl hkt hnx hn0 hnk
          go_wp2_with fail
          refine HCA.out.mono ?_
          rintro e w2 ⟨a, c, rfl, a6, c6, w6, r6, o6, b6⟩
          have HR6 := hid r6
          have HO6 := hid o6
          have HB6 := hid b6
          clear r6 o6 b6 HCA
          go_wp2_with (first | (at_builtin; refine wpList_append_run rfl (.tmp 20) (.tmp 26) 32 32 rfl _ _ (.slice a6 nx c6) w6 rfl rfl HR6.out ?_) | fail)
          go_roundg (m - (i + 1))
          case measure => have := HI.out; omega
          case rel => exact ⟨i + 1, .slice a6 nx c6, rfl, by have := HI.out; omega, rfl, rfl, by rw [← HNX.out]; exact HO6.out, HB6.out⟩
        · have hi1 : ¬ (i : Int) < (m : Int) := by omega
          have hie : i = m := by omega
          have HZ : Hid (wr.ownsRow w.heap.size 22 1 (.slice a5 (Lk.keysAll (ks.take i)).length c5) (Lk.keysAll ks).length ((Lk.keysAll ks).map St) ∧ Below w.heap.size w wr) := hid ⟨by
            have h1 : ks.take i = ks := List.take_of_length_le (by have := HM.out; omega)
            rw [h1] at ho ⊢
            exact own_lower ho (by have := HSZ.out; omega), hBw⟩
          generalize (Lk.keysAll (ks.take i)).length = n0 at *
          clear hB hBw hi him hie ho
          go_wp2_with fail
          go_ret
          exact ⟨_, rfl, HZ.out⟩
end Go.Proofs.YtdllpklecdmghaaGreatDoor
/- What the document writes of a lock, and its keys; the law LockWrites. -/
namespace Go.Proofs.YtdllpklecdmghaaGreatDoor
open Go.RowKit
open Lk (Lt)
theorem box_lk (l : Lt) (ao : Option Addr) (cap : Nat) (w w0 : World) (hw0 : w0 = w.alloc (.cells #[.int .u8 (l.kind : Int), St l.term, .int .i64 l.n, .slice ao l.kids.length cap] 25)) : Below w.heap.size w w0 ∧ ∀ W, Below w0.heap.size w0 W → W.cell? ⟨w.heap.size, 0, none⟩ = some (.int .u8 (l.kind : Int)) ∧ W.cell? ⟨w.heap.size, 1, none⟩ = some (St l.term) ∧ W.cell? ⟨w.heap.size, 2, none⟩ = some (.int .i64 l.n) ∧ W.cell? ⟨w.heap.size, 3, none⟩ = some (.slice ao l.kids.length cap) := by
  refine ⟨by rw [hw0]; exact below_al _ _, fun W hW => ?_⟩
  have hbk : w0.heap[w.heap.size]? = some (.cells #[.int .u8 (l.kind : Int), St l.term, .int .i64 l.n, .slice ao l.kids.length cap] 25 (0, 0)) := by rw [hw0]; exact heap_alloc_new w _
  have h := (hW.block _ (lt_of_heap hbk)).trans hbk
  exact ⟨(cell_of_heap h 0).trans rfl, (cell_of_heap h 1).trans rfl, (cell_of_heap h 2).trans rfl, (cell_of_heap h 3).trans rfl⟩
set_option maxHeartbeats 4000000 in
theorem dW_any {b : Nat → Prop} (d : Nat) (l : Lt) (kv : Value) (w : World) (hk : Kd b w d kv l.kids) : Calls Tryz.prog 9 #[.agg (lcs l kv)] w fun e w' => e = .returned (.tuple #[St (wrRes l).1, .int .i64 ((wrRes l).2 : Int)]) ∧ Below w.heap.size w w' := by
  obtain ⟨_, ao, cap, rfl⟩ := hk.shape
  show Calls Tryz.prog 9 #[.agg #[.int .u8 (l.kind : Int), St l.term, .int .i64 l.n, .slice ao l.kids.length cap]] w fun e w' => e = .returned (.tuple #[St (wrRes l).1, .int .i64 ((wrRes l).2 : Int)]) ∧ Below w.heap.size w w'
  obtain ⟨w0, hw0⟩ : ∃ w0, w0 = w.alloc (.cells #[.int .u8 (l.kind : Int), St l.term, .int .i64 l.n, .slice ao l.kids.length cap] 25) := ⟨_, rfl⟩
  obtain ⟨hB0, hC0⟩ := box_lk l ao cap w w0 hw0
  have HC0 := hid hC0
  have HR : Hid (Calls Tryz.prog 11 #[.agg #[.int .u8 (l.kind : Int), St l.term, .int .i64 l.n, .slice ao l.kids.length cap]] w0 fun e w' => e = .returned (.bool (Lk.right l)) ∧ Below w0.heap.size w0 w') := hid (dR_any d l _ w0 (hk.low hB0))
  have HT : Hid (Lk.right l = true → ∀ W, Below w0.heap.size w0 W → Calls Tryz.prog 34 #[.agg #[.int .u8 (l.kind : Int), St l.term, .int .i64 l.n, .slice ao l.kids.length cap]] W fun e w' => e = .returned (St (wrRes l).1) ∧ Below w.heap.size w w') := hid (fun h W hW => (text_any d l _ W ((hk.low hB0).low hW) ((Lk.right_is l).1 h).1 (by have := wr_right h; omega)).mono (fun e w' ⟨h1, h2⟩ => ⟨by unfold wrRes; rw [if_pos h]; exact h1, (hB0.trans (hW.mono hB0.size)).trans (h2.mono (Nat.le_trans hB0.size hW.size))⟩))
  have HE : Hid (Lk.right l = true → (wrRes l).2 = 0) := hid (fun h => by unfold wrRes; rw [if_pos h])
  have HN : Hid (Lk.right l = false → wrRes l = ([], 110)) := hid (fun h => by unfold wrRes; rw [if_neg (by rw [h]; decide)])
  have HB0 := hid hB0
  clear hk hB0 hC0
  go_enter Tryz.func9, Tryz.ntmps9
  go_wp2_with fail
  rw [← hw0]
  clear hw0
  refine HR.out.mono ?_
  rintro e w1 ⟨rfl, hb⟩
  obtain ⟨q0, q1, q2, q3⟩ := HC0.out w1 hb
  have HB1 := hid hb
  clear hb HR HC0
  cases hr : Lk.right l with
  | false =>
    have HZ := hid (HN.out hr)
    have HBZ := hid (HB0.out.trans (HB1.out.mono HB0.out.size))
    clear HT HE HN hr
    go_wp2_with fail
    go_ret2
    exact ⟨by rw [HZ.out]; rfl, HBZ.out⟩
  | true =>
    have HTX := hid (HT.out hr w1 HB1.out)
    have HZ := hid (HE.out hr)
    clear HT HE HN hr
    go_wp2_with fail
    refine HTX.out.mono ?_
    rintro e w2 ⟨rfl, hb⟩
    have HB2 := hid hb
    clear hb HTX
    go_wp2_with fail
    go_ret2
    exact ⟨by rw [HZ.out]; rfl, HB2.out⟩
set_option maxHeartbeats 4000000 in
theorem dK_any {b : Nat → Prop} (d : Nat) (l : Lt) (kv : Value) (w : World) (hk : Kd b w d kv l.kids) : Calls Tryz.prog 14 #[.agg (lcs l kv)] w fun e w' => ∃ v', e = .returned v' ∧ (w'.ownsRow w.heap.size 22 1 v' (keysRes l).length ((keysRes l).map St) ∧ Below w.heap.size w w') := by
  obtain ⟨_, ao, cap, rfl⟩ := hk.shape
  show Calls Tryz.prog 14 #[.agg #[.int .u8 (l.kind : Int), St l.term, .int .i64 l.n, .slice ao l.kids.length cap]] w _
  obtain ⟨w0, hw0⟩ : ∃ w0, w0 = w.alloc (.cells #[.int .u8 (l.kind : Int), St l.term, .int .i64 l.n, .slice ao l.kids.length cap] 25) := ⟨_, rfl⟩
  obtain ⟨hB0, hC0⟩ := box_lk l ao cap w w0 hw0
  have HC0 := hid hC0
  have HR : Hid (Calls Tryz.prog 11 #[.agg #[.int .u8 (l.kind : Int), St l.term, .int .i64 l.n, .slice ao l.kids.length cap]] w0 fun e w' => e = .returned (.bool (Lk.right l)) ∧ Below w0.heap.size w0 w') := hid (dR_any d l _ w0 (hk.low hB0))
  have HT : Hid (Lk.right l = true → ∀ W, Below w0.heap.size w0 W → Calls Tryz.prog 39 #[.agg #[.int .u8 (l.kind : Int), St l.term, .int .i64 l.n, .slice ao l.kids.length cap]] W fun e w' => ∃ v', e = .returned v' ∧ (w'.ownsRow w.heap.size 22 1 v' (keysRes l).length ((keysRes l).map St) ∧ Below w.heap.size w w')) := hid (fun h W hW => (dkeys_any d l _ W ((hk.low hB0).low hW) ((Lk.right_is l).1 h).1 (by have := Lk.keys_size l; have := ((Lk.right_is l).1 h).2; omega)).mono (fun e w' ⟨v', h1, h2, h3⟩ => ⟨v', h1, by unfold keysRes; rw [if_pos h]; exact own_lower h2 (Nat.le_trans hB0.size hW.size), (hB0.trans (hW.mono hB0.size)).trans (h3.mono (Nat.le_trans hB0.size hW.size))⟩))
  have HN : Hid (Lk.right l = false → keysRes l = []) := hid (fun h => by unfold keysRes; rw [if_neg (by rw [h]; decide)])
  have HB0 := hid hB0
  clear hk hB0 hC0
  go_enter Tryz.func14, Tryz.ntmps14
  go_wp2_with fail
  rw [← hw0]
  clear hw0
  refine HR.out.mono ?_
  rintro e w1 ⟨rfl, hb⟩
  obtain ⟨q0, q1, q2, q3⟩ := HC0.out w1 hb
  have HB1 := hid hb
  clear hb HR HC0
  cases hr : Lk.right l with
  | false =>
    have HZ := hid (HN.out hr)
    have HBZ := hid (HB0.out.trans (HB1.out.mono HB0.out.size))
    clear HT HN hr
    go_wp2_with fail
    go_ret
    exact ⟨_, rfl, by rw [HZ.out]; exact World.ownsRow_nil _ _ _ _, HBZ.out⟩
  | true =>
    have HTX := hid (HT.out hr w1 HB1.out)
    clear HT HN hr
    go_wp2_with fail
    refine HTX.out.mono ?_
    rintro e w2 ⟨v', rfl, hv⟩
    have HV := hid hv
    obtain ⟨a, c, rfl⟩ := row_shape hv.1
    clear hv HTX
    go_wp2_with fail
    go_ret
    exact ⟨_, rfl, HV.out⟩
end Go.Proofs.YtdllpklecdmghaaGreatDoor
