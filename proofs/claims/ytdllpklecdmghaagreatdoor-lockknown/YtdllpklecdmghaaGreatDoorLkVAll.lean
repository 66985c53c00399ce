import Derived.Test.YtdllpklecdmghaaGreatDoorLkSAll
import Derived.Maps.AppendAt
import Derived.OrdersHeld
/- What the reading of a lock does: its parts, in memory. -/
namespace Go.Proofs.YtdllpklecdmghaaGreatDoor
open Go.RowKit
open Lk (Lt)
def rcs (l : List (Lt × Value)) : List Value := l.flatMap fun q => (lcs q.1 q.2).toList
theorem rcs_len : ∀ l : List (Lt × Value), (rcs l).length = l.length * 4
  | [] => rfl
  | q :: l => by
    have h := rcs_len l
    unfold rcs at h ⊢
    rw [List.flatMap_cons, List.length_append, h, List.length_cons]
    show 4 + l.length * 4 = _
    omega
theorem rcs_snoc (l : List (Lt × Value)) (q : Lt × Value) : rcs (l ++ [q]) = rcs l ++ (lcs q.1 q.2).toList := by
  unfold rcs
  rw [List.flatMap_append, List.flatMap_cons, List.flatMap_nil, List.append_nil]
theorem rcs_at : ∀ (l : List (Lt × Value)) (i : Nat) (hi : i < l.length) (j : Nat) (u : Value), (lcs l[i].1 l[i].2)[j]? = some u → (rcs l)[i * 4 + j]? = some u
  | [], i, hi, _, _, _ => absurd hi (Nat.not_lt_zero i)
  | q :: l, 0, _, j, u, h => by
    have h0 : (lcs q.1 q.2)[j]? = some u := h
    have hj : j < 4 := by
      have := (Array.getElem?_eq_some_iff.mp h0).1
      exact this
    unfold rcs
    rw [List.flatMap_cons, Nat.zero_mul, Nat.zero_add, List.getElem?_append_left (by show j < 4; exact hj), Array.getElem?_toList]
    exact h0
  | q :: l, i + 1, hi, j, u, h => by
    have ih := rcs_at l i (Nat.lt_of_succ_lt_succ hi) j u h
    unfold rcs at ih ⊢
    rw [List.flatMap_cons, List.getElem?_append_right (by show 4 ≤ (i + 1) * 4 + j; omega)]
    have e : (i + 1) * 4 + j - (lcs q.1 q.2).toList.length = i * 4 + j := by
      show (i + 1) * 4 + j - 4 = _
      omega
    rw [e]
    exact ih
abbrev kb (lb : Nat) (v : Value) (W : World) : Nat → Prop := fun h => lb < h ∧ h < W.heap.size ∧ v.ownBlock ≠ some h
structure Wk (pb tb rb lb p : Nat) (s : Bs) (k d : Nat) (ks : List Lt) (v : Value) (w W : World) : Prop where
  rs : Rs pb tb rb p s W
  fq : Fq pb tb w W
  res : W.heap[w.heap.size]? = some (.cells #[.int .u8 0, .string ⟨#[]⟩, .int .i64 0, .slice none 0 0] 25 (0, 0))
  box : W.heap[lb]? = some (.cells #[.int .u8 (k : Int), .string ⟨#[]⟩, .int .i64 0, v] 25 (0, 0))
  old : pb < w.heap.size ∧ tb < w.heap.size ∧ rb < w.heap.size ∧ w.heap.size < lb
  row : ∃ l : List (Lt × Value), l.map Prod.fst = ks ∧ W.ownsRow (lb + 1) 25 4 v l.length (rcs l) ∧ ∀ q ∈ l, Lr q.1 ∧ Kd (kb lb v W) W d q.2 q.1.kids
theorem Wb.kids {pb tb rb lb p k : Nat} {s : Bs} {w W : World} (h : Wb pb tb rb lb p s k w W) (d : Nat) : Wk pb tb rb lb p s k d [] (.slice none 0 0) w W :=
  ⟨h.rs, h.fq, h.res, h.box, h.old, [], rfl, World.ownsRow_nil _ _ _ _, fun q hq => absurd hq (by simp)⟩
theorem Wk.read {pb tb rb lb p k d : Nat} {s : Bs} {ks : List Lt} {v : Value} {w W W' : World} (h : Wk pb tb rb lb p s k d ks v w W) {R : Lt × Bs × Nat} {e : Ending} (hr : RdE pb tb rb d W R e W') : Wk pb tb rb lb R.2.2 R.2.1 k d ks v w W' ∧ ∃ kv, e = .returned (.agg (lcs R.1 kv)) ∧ Kd (kb lb v W') W' d kv R.1.kids := by
  obtain ⟨kv, he, hk, hrs, hf⟩ := hr
  have ho := h.old
  have hb := lt_of_heap h.box
  have hz := lt_of_heap h.res
  obtain ⟨l, hl, hrow, hq⟩ := h.row
  have hs := hf.size
  refine ⟨⟨hrs, h.fq.trans hf, ?_, ?_, h.old, l, hl, ?_, fun q hm => ⟨(hq q hm).1, ?_⟩⟩, kv, he, ?_⟩
  · rw [hf.els _ hz (by omega) (by omega)]; exact h.res
  · rw [hf.els _ hb (by omega) (by omega)]; exact h.box
  · obtain ⟨h1, h2⟩ := hrow
    refine ⟨h1, ?_⟩
    rcases h2 with h2 | ⟨g, cap, cur, e1, e2, e3, e4⟩
    · exact Or.inl h2
    · exact Or.inr ⟨g, cap, cur, e1, e2, (hf.els g (lt_of_heap e3) (by omega) (by omega)).trans e3, e4⟩
  · have h1 := (hq q hm).2
    have h2 : Kd (kb lb v W) W' d q.2 q.1.kids := h1.same (fun g hg hl => hf.els g hl (by have := hg.1; omega) (by have := hg.1; omega))
    exact h2.base (fun g hg => ⟨hg.1, by have := hg.2.1; omega, hg.2.2⟩)
  · exact hk.base (fun g hg => ⟨by have := hg.1; omega, hg.2, fun e => by have := (hrow.lt g e).2; have := hg.1; omega⟩)
theorem lk_info25 : (Tryz.prog.info? 25).map (fun i => (i.zero, i.size, i.bytes)) = some (some (.agg #[.int .u8 0, .string ⟨#[]⟩, .int .i64 0, .slice none 0 0]), 4, 56) := by kernel_rfl
theorem Wk.append {pb tb rb lb p k d : Nat} {s : Bs} {ks : List Lt} {v : Value} {w W : World} (h : Wk pb tb rb lb p s k d ks v w W) (L : Lt) (kv : Value) (hkv : kv.oneCell' = true) (hL : Lr L) (hk : Kd (kb lb v W) W d kv L.kids) (hn : ks.length ≤ 1000000) :
    ∃ ao cap w', (∀ ty, (Builtin.append_ #[23, 23] ty #[v, .slice (some ⟨W.heap.size, 0, none⟩) 1 1]).run Tryz.prog (W.alloc (.cells (lcs L kv) 25)) = .ok (.slice ao (ks.length + 1) cap) w') ∧ w'.cell? ⟨lb, 3, none⟩ = some v ∧ w'.frozen? ⟨lb, 3, none⟩ = false ∧
      Wk pb tb rb lb p s k d (ks ++ [L]) (.slice ao (ks.length + 1) cap) w (w'.setCell ⟨lb, 3, none⟩ (.slice ao (ks.length + 1) cap)) := by
  obtain ⟨l, hl, hrow, hq⟩ := h.row
  have hll : l.length = ks.length := by rw [← hl, List.length_map]
  have ho := h.old
  have hb := lt_of_heap h.box
  have hz := lt_of_heap h.res
  obtain ⟨i0, hi, hz0, hz1, hz2⟩ := info_parts lk_info25
  have hAs : (W.alloc (.cells (lcs L kv) 25)).heap.size = W.heap.size + 1 := heap_alloc_size _ _
  obtain ⟨v', w', h4, h5, h6, _, h8⟩ := run_append_own_at (P := Tryz.prog) (W.alloc (.cells (lcs L kv) 25)) (lb + 1) 23 23 25 i0 _ 4 56 Tryz.underlying23 hi hz0 hz1 hz2 rfl (by decide) v l.length (rcs l) (hrow.alloc _) ⟨W.heap.size, 0, none⟩ 1 1 (lcs L kv).toList rfl
    (fun j u hj => by
      have : (W.alloc (.cells (lcs L kv) 25)).cell? ⟨W.heap.size, j, none⟩ = some u := by
        rw [cell_of_heap (heap_alloc_new W _)]
        rw [← Array.getElem?_toList]
        exact hj
      rw [add_plain, Nat.zero_add]
      exact this) (fun u hu => by
        have hu2 : u = .int .u8 (L.kind : Int) ∨ u = St L.term ∨ u = .int .i64 L.n ∨ u = kv := by simpa [lcs] using hu
        rcases hu2 with rfl | rfl | rfl | rfl
        · rfl
        · rfl
        · rfl
        · exact hkv) (by unfold maxLen; omega) (by omega) (by rw [hAs]; omega)
  rw [← rcs_snoc l (L, kv), hll] at h5
  obtain ⟨ao, cap, rfl⟩ := row_shape h5
  have hsz := h6.size
  rw [hAs] at hsz
  have hkeep : ∀ g, g < W.heap.size → v.ownBlock ≠ some g → w'.heap[g]? = W.heap[g]? := fun g hg hne => by
    rw [h6.block g (by omega) (fun e => hne e.symm)]
    exact Below.heap_alloc W _ g hg
  have hlow : ∀ g, g ≤ lb → v.ownBlock ≠ some g := fun g hg e => by have := (hrow.lt g e).1; omega
  have hset : ∀ g, g ≠ lb → (w'.setCell ⟨lb, 3, none⟩ (.slice ao (ks.length + 1) cap)).heap[g]? = w'.heap[g]? := fun g hg => Below.heap_setCell _ _ _ _ hg
  have hss : (w'.setCell ⟨lb, 3, none⟩ (.slice ao (ks.length + 1) cap)).heap.size = w'.heap.size := by simp [World.setCell]
  have hbox : w'.heap[lb]? = some (.cells #[.int .u8 (k : Int), .string ⟨#[]⟩, .int .i64 0, v] 25 (0, 0)) := (hkeep lb hb (hlow lb (Nat.le_refl _))).trans h.box
  have hboth : ∀ g, g < W.heap.size → g ≠ lb → v.ownBlock ≠ some g → (w'.setCell ⟨lb, 3, none⟩ (.slice ao (ks.length + 1) cap)).heap[g]? = W.heap[g]? := fun g a b c => (hset g b).trans (hkeep g a c)
  have hkd : ∀ {x : Value} {xs : List Lt}, Kd (kb lb v W) W d x xs → Kd (kb lb (.slice ao (ks.length + 1) cap) (w'.setCell ⟨lb, 3, none⟩ (.slice ao (ks.length + 1) cap))) (w'.setCell ⟨lb, 3, none⟩ (.slice ao (ks.length + 1) cap)) d x xs := fun {x xs} hx => by
    have h2 : Kd (kb lb v W) (w'.setCell ⟨lb, 3, none⟩ (.slice ao (ks.length + 1) cap)) d x xs := hx.same (fun g hg hl => hboth g hl (by have := hg.1; omega) hg.2.2)
    refine h2.base (fun g hg => ⟨hg.1, by rw [hss]; have := hg.2.1; omega, fun e => ?_⟩)
    rcases h8 with h8 | h8
    · rw [h8] at e; exact hg.2.2 e
    · rw [h8, hAs] at e
      have := Option.some.inj e
      have := hg.2.1
      omega
  refine ⟨ao, cap, w', fun ty => ?_, (cell_of_heap hbox 3).trans rfl, frozen_of_heap hbox 3, ⟨⟨?_, ?_, ?_, h.rs.pt, h.rs.pr, h.rs.tr⟩, ⟨fun g a b c => ?_, ?_, ?_, ?_, ?_⟩, ?_, ?_, h.old, l ++ [(L, kv)], ?_, ?_, fun q hm => ?_⟩⟩
  · exact h4
  · rw [hboth _ (by omega) (by omega) (hlow _ (by omega))]; exact h.rs.pc
  · rw [hboth _ (by omega) (by omega) (hlow _ (by omega))]; exact h.rs.tc
  · rw [hboth _ (by omega) (by omega) (hlow _ (by omega))]; exact h.rs.rc
  · rw [hboth _ (by omega) (by omega) (hlow _ (by omega))]; exact h.fq.els g a b c
  · rw [hss]; have := h.fq.size; omega
  · exact h6.os.trans h.fq.os
  · exact h6.tape.trans h.fq.tape
  · exact h6.output.trans h.fq.out
  · rw [hboth _ hz (by omega) (hlow _ (by omega))]; exact h.res
  · rw [heap_setCell_same hbox 3]; rfl
  · rw [List.map_append, hl]; rfl
  · have := ownsRow_setCell_at h5 3 (.slice ao (ks.length + 1) cap)
    rw [List.length_append, hll]
    exact this
  · rcases List.mem_append.mp hm with hm | hm
    · exact ⟨(hq q hm).1, hkd (hq q hm).2⟩
    · have e : q = (L, kv) := by simpa using hm
      rw [e]
      exact ⟨hL, hkd hk⟩
theorem Wk.told {pb tb rb lb p k d : Nat} {s : Bs} {ks : List Lt} {v : Value} {w W : World} (h : Wk pb tb rb lb p s k d ks v w W) (hn : ks.length ≤ 1000000) (v0 v1 v2 v3 : Value) : (setL W w.heap.size 0 v0 v1 v2 v3).heap[w.heap.size]? = some (.cells #[v0, v1, v2, v3] 25 (0, 0)) ∧ Rs pb tb rb p s (setL W w.heap.size 0 v0 v1 v2 v3) ∧ Fq pb tb w (setL W w.heap.size 0 v0 v1 v2 v3) ∧ Kd (fun g => w.heap.size ≤ g ∧ g < (setL W w.heap.size 0 v0 v1 v2 v3).heap.size) (setL W w.heap.size 0 v0 v1 v2 v3) (d + 1) v ks := by
  have ho := h.old
  have hss : (setL W w.heap.size 0 v0 v1 v2 v3).heap.size = W.heap.size := by simp [setL, World.setCell]
  obtain ⟨a1, a2⟩ := rs_setL h.fq.size h.rs (r := w.heap.size) (by omega) (by omega) (by omega) (Nat.le_refl _) h.fq 0 v0 v1 v2 v3
  refine ⟨setL_same h.res 0 v0 v1 v2 v3, a1, a2, ?_⟩
  obtain ⟨l, rfl, hrow, hq⟩ := h.row
  obtain ⟨ao, cap, hv⟩ := row_shape hrow
  rw [List.length_map] at hn
  refine ⟨by rw [List.length_map]; omega, ao, cap, by rw [List.length_map]; exact hv, fun h0 => ?_⟩
  rw [List.length_map] at h0
  rcases hrow.2 with ⟨_, h2⟩ | ⟨g, cap2, cur, e1, e2, e3, _⟩
  · omega
  · have hob : v.ownBlock = some g := by rw [e1]; rfl
    have hao : ao = some ⟨g, 0, none⟩ := by rw [hv] at e1; injection e1
    have hgl := lt_of_heap e3
    refine ⟨g, 0, hao, ⟨by omega, by rw [hss]; exact hgl⟩, fun i hi => ?_⟩
    rw [List.length_map] at hi
    refine ⟨l[i].2, fun j u hu => ?_, ?_, ?_⟩
    · rw [List.getElem_map] at hu
      have h3 := hrow.cells hob (i * 4 + j) u (rcs_at l i hi j u hu)
      rw [add_plain, Nat.zero_add] at h3
      rw [Nat.zero_add, ← h3]
      exact World.cell?_of_block (setL_other _ _ _ _ _ _ _ (by show g ≠ w.heap.size; omega))
    · rw [List.getElem_map]
      exact (hq _ (List.getElem_mem hi)).1
    · rw [List.getElem_map]
      have h4 := (hq _ (List.getElem_mem hi)).2
      have h5 : Kd (kb lb v W) (setL W w.heap.size 0 v0 v1 v2 v3) d l[i].2 l[i].1.kids := h4.same (fun g hg _ => setL_other _ _ _ _ _ _ _ (by have := hg.1; omega))
      exact h5.base (fun g hg => ⟨by have := hg.1; omega, by rw [hss]; exact hg.2.1⟩)
end Go.Proofs.YtdllpklecdmghaaGreatDoor
/- What the reading of a lock does: locks of parts. -/
namespace Go.Proofs.YtdllpklecdmghaaGreatDoor
open Go.RowKit
open Lk (Lt readP readK)
theorem kindOf_six (c : UInt8) : Sc.kindOf c ≤ 6 := by
  unfold Sc.kindOf
  repeat' split
  all_goals omega
theorem readK_short {f : Nat → Bs → Lt × Bs × Nat} (hf : ∀ p s, (f p s).2.1.length ≤ s.length) : ∀ (n p : Nat) (s : Bs), (readK f n p s).2.1.length ≤ s.length
  | 0, p, s => Nat.le_refl _
  | n + 1, p, s => by
    rw [readK]
    exact Nat.le_trans (hf _ _) (readK_short hf n p s)
theorem readK_on {f : Nat → Bs → Lt × Bs × Nat} (hf : ∀ p s, p + 1 ≤ (f p s).2.2 ∧ (f p s).2.2 + 9 * (64 - (f p s).2.2) ≤ p + 9 * (64 - p) + 1) : ∀ (n p : Nat) (s : Bs), p ≤ (readK f n p s).2.2 ∧ (readK f n p s).2.2 + 9 * (64 - (readK f n p s).2.2) ≤ p + 9 * (64 - p) + n
  | 0, p, s => ⟨Nat.le_refl _, Nat.le_refl _⟩
  | n + 1, p, s => by
    rw [readK]
    have h1 := readK_on hf n p s
    have h2 := hf (readK f n p s).2.2 (readK f n p s).2.1
    simp only
    omega
theorem lr_zero : Lr Lt.zero := ⟨by decide, by show (0 : Nat) ≤ _; omega, by decide⟩
theorem readP_lr : ∀ (g p : Nat) (s : Bs), (readP g p s).2.1.length ≤ s.length ∧ (s.length ≤ 140737488355328 → Lr (readP g p s).1)
  | 0, p, s => by rw [readP]; exact ⟨Nat.le_refl _, fun _ => lr_zero⟩
  | g + 1, p, s => by
    have ihg := readP_lr g
    have hk := kindOf_six (s.headD 0)
    rw [readP]
    generalize Sc.kindOf (s.headD 0) = k at hk ⊢
    have hd1 : (s.drop 1).length ≤ s.length := by rw [List.length_drop]; omega
    by_cases hp : 64 ≤ p
    · rw [if_pos hp]; exact ⟨Nat.le_refl _, fun _ => lr_zero⟩
    rw [if_neg hp]
    by_cases h12 : k = 1 ∨ k = 2
    · rw [if_pos h12]
      refine ⟨by simp only [List.length_drop]; omega, fun hs => ⟨by show k < 256; omega, ?_, by show (-9223372036854775808 : Int) ≤ 0 ∧ (0 : Int) < 9223372036854775808; omega⟩⟩
      show (Sc.piece (s.drop 1)).length ≤ _
      have := (piece_len (s.drop 1)).1
      omega
    rw [if_neg h12]
    by_cases h34 : k = 3 ∨ k = 4
    · rw [if_pos h34]
      cases hn : Sc.nm 59 1073741823 (s.drop 1) with
      | none => exact ⟨hd1, fun _ => ⟨by show k < 256; omega, by show (0 : Nat) ≤ _; omega, by show (-9223372036854775808 : Int) ≤ -1 ∧ (-1 : Int) < 9223372036854775808; omega⟩⟩
      | some q =>
        obtain ⟨n, r⟩ := q
        have h1 := Sc.nmGo_len hn
        have h2 := (Sc.nm_inv hn).2
        exact ⟨by show r.length ≤ _; omega, fun _ => ⟨by show k < 256; omega, by show (0 : Nat) ≤ _; omega, by show (-9223372036854775808 : Int) ≤ (n : Int) ∧ (n : Int) < 9223372036854775808; omega⟩⟩
    rw [if_neg h34]
    by_cases h56 : k = 5 ∨ k = 6
    · rw [if_pos h56]
      cases hn : Sc.nm 58 8 (s.drop 1) with
      | none => exact ⟨hd1, fun _ => ⟨by show k < 256; omega, by show (0 : Nat) ≤ _; omega, by show (-9223372036854775808 : Int) ≤ 0 ∧ (0 : Int) < 9223372036854775808; omega⟩⟩
      | some q =>
        obtain ⟨n, r⟩ := q
        have h1 := Sc.nmGo_len hn
        have h3 := readK_short (fun p s => (ihg p s).1) n (p + 1) r
        exact ⟨by show (readK (readP g) n (p + 1) r).2.1.length ≤ _; omega, fun _ => ⟨by show k < 256; omega, by show (0 : Nat) ≤ _; omega, by show (-9223372036854775808 : Int) ≤ 0 ∧ (0 : Int) < 9223372036854775808; omega⟩⟩
    rw [if_neg h56]
    exact ⟨hd1, fun _ => ⟨by show 0 < 256; omega, by show (0 : Nat) ≤ _; omega, by show (-9223372036854775808 : Int) ≤ 0 ∧ (0 : Int) < 9223372036854775808; omega⟩⟩
end Go.Proofs.YtdllpklecdmghaaGreatDoor
/- What the reading of a lock does: the walk of a lock of parts. -/
namespace Go.Proofs.YtdllpklecdmghaaGreatDoor
open Go.RowKit
open Lk (Lt readP readK)
theorem Wk.low {pb tb rb lb p k d : Nat} {s : Bs} {ks : List Lt} {v : Value} {w W W' : World} (h : Wk pb tb rb lb p s k d ks v w W) (hB : Below W.heap.size W W') : Wk pb tb rb lb p s k d ks v w W' := by
  obtain ⟨l, hl, hrow, hq⟩ := h.row
  refine ⟨rs_low h.rs hB, h.fq.trans (Fq.below hB), (hB.block _ (lt_of_heap h.res)).trans h.res, (hB.block _ (lt_of_heap h.box)).trans h.box, h.old, l, hl, ownsRow_of_heap hrow (fun g hg => hB.block g hg), fun q hm => ⟨(hq q hm).1, ?_⟩⟩
  exact ((hq q hm).2.low hB).base (fun g hg => ⟨hg.1, Nat.lt_of_lt_of_le hg.2.1 hB.size, hg.2.2⟩)
theorem Wk.cells {pb tb rb lb p k d : Nat} {s : Bs} {ks : List Lt} {v : Value} {w W : World} (h : Wk pb tb rb lb p s k d ks v w W) : (W.cell? ⟨w.heap.size, 0, none⟩ = some (.int .u8 0) ∧ W.cell? ⟨w.heap.size, 1, none⟩ = some (.string ⟨#[]⟩) ∧ W.cell? ⟨w.heap.size, 2, none⟩ = some (.int .i64 0) ∧ W.cell? ⟨w.heap.size, 3, none⟩ = some (.slice none 0 0) ∧ ∀ j, W.frozen? ⟨w.heap.size, j, none⟩ = false) ∧ (W.cell? ⟨lb, 0, none⟩ = some (.int .u8 (k : Int)) ∧ W.cell? ⟨lb, 1, none⟩ = some (.string ⟨#[]⟩) ∧ W.cell? ⟨lb, 2, none⟩ = some (.int .i64 0) ∧ W.cell? ⟨lb, 3, none⟩ = some v ∧ ∀ j, W.frozen? ⟨lb, j, none⟩ = false) ∧ W.cell? ⟨rb, 0, none⟩ = some (rfn pb tb rb) :=
  ⟨⟨(cell_of_heap h.res 0).trans rfl, (cell_of_heap h.res 1).trans rfl, (cell_of_heap h.res 2).trans rfl, (cell_of_heap h.res 3).trans rfl, fun j => frozen_of_heap h.res j⟩, ⟨(cell_of_heap h.box 0).trans rfl, (cell_of_heap h.box 1).trans rfl, (cell_of_heap h.box 2).trans rfl, (cell_of_heap h.box 3).trans rfl, fun j => frozen_of_heap h.box j⟩, (cell_of_heap h.rs.rc 0).trans rfl⟩
def kidR (g k p : Nat) (s : Bs) : Lt × Bs × Nat := match Sc.nm 58 8 s with
  | none => (.mk k [] 0 [], s, p + 1)
  | some (n, r) => (.mk k [] 0 (readK (readP g) n (p + 1) r).1, (readK (readP g) n (p + 1) r).2.1, (readK (readP g) n (p + 1) r).2.2)
end Go.Proofs.YtdllpklecdmghaaGreatDoor
/- Steps of a region that draws its order, one by one; a condition that holds till its last store. -/
namespace Go.Proofs.YtdllpklecdmghaaGreatDoor
open Go.RowKit
theorem op_ok {P : Program} {ops : Array Oper} {Q : Exit → Act → World → Prop} {i : Nat} {o : Oper} {a : Act} {w w' : World} {v : Value} {K : Act → World → Prop} (ho : ops[i]? = some o) (hg : o.guard = none) (hr : (execOp a.eval o).run P w = .ok (.value v) w') (hK : K (a.put o.dst v) w') : wpOp P ops Q i K a w := by
  unfold wpOp
  simp only [ho]
  rw [if_pos (by simp [Region.wanted, hg])]
  refine .inl ?_
  unfold Oper.wp
  rw [hr]
  exact hK
theorem op_skip {P : Program} {ops : Array Oper} {Q : Exit → Act → World → Prop} {i : Nat} {o : Oper} {a : Act} {w w' : World} {K : Act → World → Prop} (ho : ops[i]? = some o) (hg : o.guard = none) (hr : (execOp a.eval o).run P w = .ok .skip w') (hK : K (a.put o.dst undef) w') : wpOp P ops Q i K a w := by
  unfold wpOp
  simp only [ho]
  rw [if_pos (by simp [Region.wanted, hg])]
  refine .inl ?_
  unfold Oper.wp
  rw [hr]
  exact hK
theorem all1 {p : Nat → Prop} {a : Nat} (h : p a) : ∀ i ∈ [a], p i := fun i hi => by rw [List.mem_singleton.1 hi]; exact h
theorem y_load {ops : Array Oper} {S : World → Prop} {op : Oper} {a : Act} {v : Value} (hg : op.guard = none) (ty : TypeId) (x : Operand) (ho : op.op = .load ty x) (b o : Nat) (hx : a.eval x = .pointer (some ⟨b, o, none⟩))
    (hr : ∀ w, S w → (Instr.loadAt ty (.pointer (some ⟨b, o, none⟩))).run Tryz.prog w = .ok v w) : YieldsIf Tryz.prog ops S op v a :=
  .inl ⟨by simp [Region.wanted, hg], fun w hw => by
    unfold execOp
    simp only [ho, hx, Sem.run_bind, Sem.run_pure, hr w hw, Result.andThen_ok]⟩
theorem y_all {ops : Array Oper} {S : World → Prop} {op : Oper} {a : Act} {v : Value} (hg : op.guard = none) (hr : ∀ w, (execOp a.eval op).run Tryz.prog w = .ok (.value v) w) : YieldsIf Tryz.prog ops S op v a :=
  .inl ⟨by simp [Region.wanted, hg], fun w _ => hr w⟩
theorem op_call {P : Program} {ops : Array Oper} {Q : Exit → Act → World → Prop} {i : Nat} {o : Oper} {a : Act} {w : World} {f : FuncId} {args : Array Value} {K : Act → World → Prop} {R : Value → World → Prop} (ho : ops[i]? = some o) (hg : o.guard = none) (hr : (execOp a.eval o).run P w = .ok (.enter f args) w) (hc : Calls P f args w fun e w' => ∃ v, e = .returned v ∧ R v w') (hK : ∀ v w', R v w' → K (a.put o.dst v) w') : wpOp P ops Q i K a w := by
  unfold wpOp
  simp only [ho]
  rw [if_pos (by simp [Region.wanted, hg])]
  refine .inl ?_
  unfold Oper.wp
  rw [hr]
  refine Calls.mono hc ?_
  rintro e w' ⟨v, rfl, h⟩
  exact hK v w' h
section
variable {P : Program} {ops : Array Oper} {Q : Exit → Act → World → Prop} {S : World → Prop} {md : Region.Mode} {z : Nat}
def wpZ (P : Program) (md : Region.Mode) (ops : Array Oper) (Q : Exit → Act → World → Prop) (S : World → Prop) (z : Nat) : Nat → Array Bool → Act → World → Prop
  | 0, l, a, w => Region.ready md ops l = [] ∧ Q .normal a w
  | n + 1, l, a, w => (Region.ready md ops l = [] → Q .normal a w) ∧ ∀ i ∈ Region.ready md ops l, wpOp P ops Q i (fun a' w' => (i ≠ z → S w') ∧ wpZ P md ops Q S z n (l.setIfInBounds i true) a' w') a w
theorem any_of_z : ∀ (n : Nat) (l : Array Bool) (a : Act) (w : World), wpZ P md ops Q S z n l a w → wpAny P md ops Q n l a w
  | 0, _, _, _, h => h
  | n + 1, _, _, _, h => ⟨h.1, fun i hi => wpOp_mono (fun a' w' h' => any_of_z n _ a' w' h'.2) (h.2 i hi)⟩
def waitsFor (md : Region.Mode) (ops : Array Oper) (z i : Nat) : Bool := ((ops[z]?).map fun o => o.after.any fun e => Region.binds md e && e.on == i).getD false
theorem waits_spec {i j : Nat} {l : Array Bool} (hw : waitsFor md ops z i = true) (hj : j ∈ Region.ready md ops l) (hi : l.getD i true = false) : j ≠ z := fun e => by
  subst e
  obtain ⟨_, o, ho, ha⟩ := mem_ready.1 hj
  unfold waitsFor at hw
  rw [ho] at hw
  obtain ⟨e, he, hb⟩ := Array.any_eq_true'.1 (show (o.after.any fun e => Region.binds md e && e.on == i) = true from hw)
  rw [Bool.and_eq_true, beq_iff_eq] at hb
  have h1 := ha e he hb.1
  rw [hb.2] at h1
  rcases Nat.lt_or_ge i l.size with h' | h'
  · simp [h'] at hi h1
    rw [hi] at h1
    cases h1
  · simp [Array.getElem?_eq_none h'] at h1
theorem z_first {i : Nat} {oi : Oper} {v : Value} (hi : ops[i]? = some oi) (hsel : ∀ (j : Nat) (o : Oper) cs b, ops[j]? = some o → o.op ≠ .select cs b) (hQ : ∀ c a w, Q (.panic c) (a.put oi.dst v) w → Q (.panic c) a w) (hz : waitsFor md ops z i = true) (hiz : i ≠ z) :
    ∀ (n : Nat) (l : Array Bool) (a : Act) (w : World), (∀ j oj, ops[j]? = some oj → j ≠ i → l.getD j true = false → (∀ e ∈ oj.after, Region.binds md e = true → e.on ≠ i) → oi.apart ops oj = true) → i ∈ Region.ready md ops l → YieldsIf P ops S oi v a → S w → wpZ P md ops Q S z n (l.setIfInBounds i true) (a.put oi.dst v) w → wpZ P md ops Q S z (n + 1) l a w := by
  intro n
  induction n with
  | zero =>
    intro l a w _ hr hy hS H
    refine ⟨fun h => (by rw [h] at hr; cases hr), fun j hj => ?_⟩
    by_cases e : j = i
    · subst e
      exact hy.wpOp hi hS ⟨fun _ => hS, H⟩
    · have := ready_mono hj e
      rw [H.1] at this
      cases this
  | succ n ih =>
    intro l a w hfree hr hy hS H
    refine ⟨fun h => (by rw [h] at hr; cases hr), fun j hj => ?_⟩
    by_cases e : j = i
    · subst e
      exact hy.wpOp hi hS ⟨fun _ => hS, H⟩
    · have hun := (mem_ready.1 hr).1
      have hjz := waits_spec hz hj hun
      obtain ⟨hjun, oj, hoj, hall⟩ := mem_ready.1 hj
      have hnot : ∀ e ∈ oj.after, Region.binds md e = true → e.on ≠ i := fun e he hb heq => by
        have h1 := hall e he hb
        rw [heq] at h1
        rcases Nat.lt_or_ge i l.size with h' | h'
        · simp [h'] at hun h1
          rw [hun] at h1
          cases h1
        · simp [Array.getElem?_eq_none h'] at h1
      have h2 := wpOp_putIf hoj (hfree j oj hoj e hjun hnot) (fun cs b => hsel i oi cs b hi) (fun cs b => hsel j oj cs b hoj) hQ hy (H.2 j (ready_mono hj e))
      refine wpOp_mono (fun a' w' h3 => ⟨fun _ => h3.2.1 hjz, ih (l.setIfInBounds j true) a' w' (fun k ok hk hki hunk hno => ?_) (ready_mono hr (Ne.symm e)) h3.1 (h3.2.1 hjz) ?_⟩) h2
      · refine hfree k ok hk hki ?_ hno
        by_cases hjk : j = k
        · subst hjk; exact hjun
        · rw [getD_set_ne true hjk] at hunk; exact hunk
      · rw [Array.setIfInBounds_comm _ _ e]
        exact h3.2.2
theorem z_take {i : Nat} {oi : Oper} {v : Value} {n : Nat} {l : Array Bool} {a : Act} {w : World} (hi : ops[i]? = some oi) (hs : Region.noSelect ops = true) (hf : Region.free md ops l i = true) (hr : (Region.ready md ops l).contains i = true) (hQ : ∀ c a w, Q (.panic c) (a.put oi.dst v) w → Q (.panic c) a w) (hz : waitsFor md ops z i = true) (hiz : i ≠ z) (hy : YieldsIf P ops S oi v a) (hS : S w)
    (h : wpZ P md ops Q S z n (l.setIfInBounds i true) (a.put oi.dst v) w) : wpZ P md ops Q S z (n + 1) l a w :=
  z_first hi (Region.noSelect_spec hs) hQ hz hiz n l a w (Region.free_spec hi hf) (by simpa using hr) hy hS h
theorem z_all {rs : List Nat} {n : Nat} {l : Array Bool} {a : Act} {w : World} (hr : Region.ready md ops l = rs) (hne : rs ≠ []) (h : ∀ i ∈ rs, wpOp P ops Q i (fun a' w' => (i ≠ z → S w') ∧ wpZ P md ops Q S z n (l.setIfInBounds i true) a' w') a w) : wpZ P md ops Q S z (n + 1) l a w :=
  ⟨fun h0 => absurd (hr ▸ h0) hne, hr ▸ h⟩
theorem z_done {l : Array Bool} {a : Act} {w : World} (hr : Region.ready md ops l = []) (h : Q .normal a w) : ∀ n, wpZ P md ops Q S z n l a w
  | 0 => ⟨hr, h⟩
  | _ + 1 => ⟨fun _ => h, by rw [hr]; simp⟩
theorem region_z {id : Nat} {a : Act} {w : World} (S : World → Prop) (z : Nat) (hm : P.follows .mixedOrders = true) (h : wpZ P .any ops Q S z ops.size (Array.replicate ops.size false) a w.drew) : (Code.region id ops true).wp P Q a w :=
  wp_region_any hm (any_of_z _ _ _ _ h)
theorem op_append {i : Nat} {o : Oper} {a : Act} {w w' : World} {v xv v' : Value} {K : Act → World → Prop} (ho : ops[i]? = some o) (hg : o.guard = none) (s x : Operand) (t : TypeId) (hop : o.op = .call { callee := .builtin .append, args := #[s, x], argTypes := #[t, t] }) (hs : a.eval s = v) (hx : a.eval x = xv) (hrun : ∀ ty, (Builtin.append_ #[t, t] ty #[v, xv]).run P w = .ok v' w') (hK : K (a.put o.dst v') w') : wpOp P ops Q i K a w := by
  refine op_ok ho hg ?_ hK
  unfold execOp
  simp [hop, resolve, invoke, builtin, hs, hx, hrun, Result.andThen]
end
end Go.Proofs.YtdllpklecdmghaaGreatDoor
