/- The examples: what they are by the document's words. -/
import Derived.Test.YtcmbijckhcckpaaUnkB
import Derived.Test.YtcmbijckhcckpaaLBack
namespace Go.Proofs.Ytcmbijckhcckpaa
open Go.RowKit

def knAt : List Nat := [0, 252, 253, 254, 65535, 65536, 4294967295, 4294967296, 18446744073709551615]
def knLg : List Nat := [1, 1, 3, 3, 3, 5, 5, 9, 9]
theorem kn_ok : ∀ i : Fin 9, (putB (knAt.getD i.val 0)).length = knLg.getD i.val 0 ∧ knAt.getD i.val 0 < 18446744073709551616 ∧ getB ((putB (knAt.getD i.val 0)).take (knLg.getD i.val 0 - 1)) = (0, 0, 51) ∧ 1 ≤ knLg.getD i.val 0 ∧ knLg.getD i.val 0 ≤ 9 := by decide +kernel
/-- records of types below i -/
def kn (i : Nat) : List Rec := (List.range i).map fun j => (j, [])
theorem kn_len (i : Nat) : (kn i).length = i := by simp [kn]
theorem kn_succ (i : Nat) : kn (i + 1) = kn i ++ [(i, [])] := by simp [kn, List.range_succ]
def x64 : Bs := streamB (kn 64)
theorem kn_stream : streamR (kn 64) = (x64, 0) ∧ x64.length = 128 := by decide +kernel
theorem kn_recs : recsB x64 = (kn 64, 0) := by decide +kernel
theorem kn_more : streamR (kn 64 ++ [(99, [])]) = ([], 3) := by decide +kernel
theorem kn_r3 : recsB (x64 ++ [99, 0]) = ([], 3) := by decide +kernel
theorem kn_r50 : recsB (x64 ++ [0, 0]) = ([], 50) := by decide +kernel
theorem kn_g1 : getB [253, 0, 252] = (0, 0, 50) := by decide +kernel
theorem kn_g2 : getB [254, 0, 0, 255, 255] = (0, 0, 50) := by decide +kernel
theorem kn_g3 : getB [255, 0, 0, 0, 0, 255, 255, 255, 255] = (0, 0, 50) := by decide +kernel
theorem kn_d1 : recsB [2, 0, 2, 0] = ([], 50) := by decide +kernel
theorem kn_d2 : recsB [1, 2, 7] = ([], 51) := by decide +kernel
theorem kn_d3 : recsB [1, 255, 255, 255, 255, 255, 255, 255, 255, 255] = ([], 51) := by decide +kernel
theorem kn_few (i : Nat) (h : i ≤ 64) : Few (kn i) := ⟨by rw [kn_len]; omega, fun j hj => by
  rw [kn_len] at hj
  simp [kn]
  omega⟩
theorem kn_few2 : Few (kn 64 ++ [(99, [])]) := ⟨by simp [kn_len], fun j hj => by
  by_cases h : j < (kn 64).length
  · rw [List.getElem_append_left h]; exact (kn_few 64 (Nat.le_refl _)).2 j h
  · simp [kn_len] at hj h
    have : j = 64 := by omega
    subst this
    rw [List.getElem_append_right (by rw [kn_len]; omega)]
    simp [kn_len]⟩
/-- one record with a long body -/
theorem kn_long (b : Bs) : streamB [(1, b)] = recB (1, b) := by simp [streamB]
theorem kn_yes (b : Bs) (h : b.length = 32764) : ∃ s, streamR [(1, b)] = (s, 0) ∧ s.length = 32768 := by
  have hl : (streamB [(1, b)]).length = 32768 := by
    rw [kn_long, rec_len]
    simp only [h]
    decide
  refine ⟨streamB [(1, b)], ?_, hl⟩
  unfold streamR
  rw [if_neg (by simp), if_neg (by simp [riseAll, risesB]), if_neg (by omega)]
theorem kn_no (b : Bs) (h : b.length = 32765) : streamR [(1, b)] = ([], 3) := by
  have hl : (streamB [(1, b)]).length = 32769 := by
    rw [kn_long, rec_len]
    simp only [h]
    decide
  unfold streamR
  rw [if_neg (by simp), if_neg (by simp [riseAll, risesB]), if_pos (by omega)]
theorem kn_big (b : Bs) (h : b.length = 32769) : recsB b = ([], 3) := by
  unfold recsB
  rw [if_pos (by omega)]
/-- append onto a row that stays one's own -/
theorem append_keep {w : World} {base : Nat} {ao : Option Addr} {n cap : Nat} {xs : Bs} (x : Bs) (hn : n = xs.length) (hn0 : 0 < n) (hown : w.ownsRow base 5 1 (.slice ao n cap) n (bcs xs)) (hb : xs.length + x.length ≤ 100000) (hbase : base ≤ w.heap.size) :
    ∃ a' c' w', (∀ ty, (Builtin.append_ #[23, 23] ty #[.slice ao n cap, .slice (some ⟨w.heap.size, 0, none⟩) x.length x.length]).run Try.prog (w.alloc (.cells (bcs x).toArray 5)) = .ok (.slice a' (n + x.length) c') w') ∧ Sl w' (.slice a' (n + x.length) c') (xs ++ x) ∧ w'.ownsRow base 5 1 (.slice ao n cap) n (bcs xs) ∧ Below base w w' := by
  subst hn
  obtain ⟨i0, hi, hz0, hz1, hz2⟩ := info_get Try.info5
  have hal := (Below.refl w.heap.size w).alloc (Nat.le_refl _) (.cells (bcs x).toArray 5)
  obtain ⟨a', c', w', h4, h5, h6⟩ := append_bytes (hown.alloc (.cells (bcs x).toArray 5)) (sl_new w x) (by omega) (by simp; omega)
  have hbel : Below base w w' := ((Below.refl base w).alloc hbase _).grown h6 (by simp; omega) (fun k h => (hown.lt k h).1)
  refine ⟨a', c', w', fun ty => by rw [← List.length_append]; exact h4 ty, by rw [← List.length_append]; exact Sl.own h5 rfl, ?_, hbel⟩
  have hownA := hown.alloc (.cells (bcs x).toArray 5)
  rcases hownA.2 with ⟨_, h0⟩ | ⟨g, cap2, cur, e1, e2, e3, e4, e5, e6, e7⟩
  · omega
  · cases e1
    by_cases hroom : xs.length + x.length ≤ cap
    · have hr := run_append_room (P := Try.prog) (w.alloc (.cells (bcs x).toArray 5)) 23 23 5 i0 Try.underlying23 hi g xs.length cap cur e3 ⟨w.heap.size, 0, none⟩ x.length x.length (bcs x) (by rw [bcs_len, hz1]; omega)
        (fun j u hj => by
          have hb2 := heap_alloc_new w (.cells (bcs x).toArray 5)
          rw [add_plain, Nat.zero_add, cell_of_heap hb2]
          simpa using hj)
        (fun u hu => by simp [Lib.byteCells] at hu; obtain ⟨_, _, rfl⟩ := hu; rfl) hroom (by rw [bcs_len, hz1]; omega)
      have he := (h4 23).symm.trans hr
      injection he with _ he2
      subst he2
      refine ⟨hown.1, Or.inr ⟨g, cap, _, rfl, e2, setRow_heap _ _ cur _ 5 (0, 0) e3, e4, e5, ?_, ?_⟩⟩
      · simp [bcs_len, hz1]
        omega
      · rw [hz1, Nat.mul_one]
        simp only [List.append_assoc]
        rw [List.take_append_of_le_length (by simp; omega), List.take_take, Nat.min_self]
        simpa using e7
    · have hr := run_append_grow (P := Try.prog) (w.alloc (.cells (bcs x).toArray 5)) 23 23 5 i0 _ Try.underlying23 hi hz0 ⟨g, 0, none⟩ xs.length cap (bcs xs) (by rw [bcs_len, hz1]; omega) (fun j u hj => hownA.cells (g := g) rfl j u hj) ⟨w.heap.size, 0, none⟩ x.length x.length (bcs x) (by rw [bcs_len, hz1]; omega)
        (fun j u hj => by
          have hb2 := heap_alloc_new w (.cells (bcs x).toArray 5)
          rw [add_plain, Nat.zero_add, cell_of_heap hb2]
          simpa using hj) (by omega) (by omega) (by have := nextslicecap_le (need := xs.length + x.length) (old := cap) (by omega); rw [hz2]; omega)
      have he := (h4 23).symm.trans hr
      injection he with _ he2
      subst he2
      exact ownsRow_same hownA (fun r e => by
        have hlt := (hownA.lt r e).2
        exact Below.heap_alloc (w.alloc (.cells (bcs x).toArray 5)).drew _ r hlt)

theorem made_bytes (n : Nat) : (madeCells (Value.int .u8 0).cells (n * 1)).toList = bcs (List.replicate n 0) := by
  rw [Nat.mul_one]
  simp [madeCells, Lib.byteCells, Value.cells, Nat.mod_one]
  exact (List.map_const' (l := List.range n) (b := Value.int .u8 0)).trans (by simp)
/-- one record more; rows of bytes stay -/
theorem append_rec2 {w : World} {B : Nat} {v bv : Value} {L : List Rec} {t : Nat} {body : Bs} (h : Ro B w v L) (hbv : w.ownsRow B 5 1 bv body.length (bcs body)) (hone : bv.oneCell' = true) (hl : L.length ≤ 1000000) (hB : B ≤ w.heap.size) :
    ∃ ao cap w', (∀ ty, (Builtin.append_ #[30, 30] ty #[v, .slice (some ⟨w.heap.size, 0, none⟩) 1 1]).run Try.prog (w.alloc (.cells #[.int .u64 (t : Int), bv] 39)) = .ok (.slice ao (L.length + 1) cap) w') ∧ Ro B w' (.slice ao (L.length + 1) cap) (L ++ [(t, body)]) ∧ Below B w w' ∧ ∀ (C : Nat) (u : Value) (n : Nat) (xs : List Value), w.ownsRow C 5 1 u n xs → w'.ownsRow C 5 1 u n xs := by
  obtain ⟨ao, cap, w', h1, h2, h3⟩ := append_rec (t := t) h hbv hone hl hB
  refine ⟨ao, cap, w', h1, h2, h3, fun C u n xs hu => ?_⟩
  obtain ⟨bs, _, k2, _⟩ := h.row
  obtain ⟨i0, hi, hz0, hz1, hz2⟩ := info_get Try.info39
  obtain ⟨v2, w2, h4, _, h6, _⟩ := run_append_own (P := Try.prog) (w.alloc (.cells #[.int .u64 (t : Int), bv] 39)) B 30 30 39 i0 _ 2 32 Try.underlying30 hi hz0 hz1 hz2 rfl (by decide) v L.length (rcells L bs) (k2.alloc _) ⟨w.heap.size, 0, none⟩ 1 1 [.int .u64 (t : Int), bv] rfl
    (fun j u hj => by
      have hb := heap_alloc_new w (.cells #[.int .u64 (t : Int), bv] 39)
      rw [add_plain, Nat.zero_add, cell_of_heap hb]
      simpa using hj)
    (fun u hu => by
      simp only [List.mem_cons, List.not_mem_nil, or_false] at hu
      rcases hu with rfl | rfl
      · rfl
      · exact hone)
    (by unfold maxLen; omega) (by omega) (by simp; omega)
  have he := (h1 30).symm.trans h4
  injection he with _ he2
  subst he2
  refine ownsRow_same hu (fun g e => ?_)
  rw [h6.block g (by simp; have := (hu.lt g e).2; omega) (ne_of_type hu k2 (by decide) e)]
  exact Below.heap_alloc w _ g (hu.lt g e).2
theorem rcs_one (W : World) (t : Nat) (bv : Value) (body : Bs) (h : Sl W bv body) : Rcs (W.alloc (.cells #[.int .u64 (t : Int), bv] 39)) (.slice (some ⟨W.heap.size, 0, none⟩) 1 1) [(t, body)] := by
  have h1 := heap_alloc_new W (.cells #[.int .u64 (t : Int), bv] 39)
  refine Or.inr ⟨_, 1, rfl, Nat.le_refl _, fun _ => ⟨rfl, lt_of_block h1⟩, fun i hi => ?_⟩
  have hi' : i = 0 := by simp at hi; omega
  subst hi'
  refine ⟨bv, ?_, ?_, h.below ((Below.refl _ _).alloc (Nat.le_refl _) _)⟩
  · rw [add_plain, cell_of_heap h1]; rfl
  · rw [add_plain, cell_of_heap h1]; rfl
theorem rcs_three (W : World) (a b c : Nat) : Rcs (W.alloc (.cells #[.int .u64 (a : Int), .slice none 0 0, .int .u64 (b : Int), .slice none 0 0, .int .u64 (c : Int), .slice none 0 0] 39)) (.slice (some ⟨W.heap.size, 0, none⟩) 3 3) [(a, []), (b, []), (c, [])] := by
  have h1 := heap_alloc_new W (.cells #[.int .u64 (a : Int), .slice none 0 0, .int .u64 (b : Int), .slice none 0 0, .int .u64 (c : Int), .slice none 0 0] 39)
  refine Or.inr ⟨_, 3, rfl, Nat.le_refl _, fun _ => ⟨rfl, lt_of_block h1⟩, fun i hi => ?_⟩
  have hi' : i = 0 ∨ i = 1 ∨ i = 2 := by simp at hi; omega
  rcases hi' with rfl | rfl | rfl
  all_goals
    refine ⟨.slice none 0 0, ?_, ?_, Sl.nil _⟩
    · rw [add_plain, cell_of_heap h1]; rfl
    · rw [add_plain, cell_of_heap h1]; rfl
theorem own_stay {w w' : World} {C : Nat} {u : Value} {n : Nat} {xs : List Value} (h : w.ownsRow C 5 1 u n xs) (hb : Below w.heap.size w w') : w'.ownsRow C 5 1 u n xs := ownsRow_same h (fun g e => hb.block g (h.lt g e).2)
theorem below_lower {B C : Nat} {w w1 : World} (h : Below C w w1) (hB : B ≤ C) : Below B w w1 := ⟨h.os, h.tape, h.output, h.size, fun k hk => h.block k (by omega)⟩
end Go.Proofs.Ytcmbijckhcckpaa
