import Derived.Test.YtojnembakhhgiaaGreatWrtAll
import Derived.Laws.CopyRow
import Derived.Laws.IdiomCopy
/- pageOf: bytes with noughts behind. -/
namespace Go.Proofs.YtojnembakhhgiaaGreat
open Go.RowKit

/-- bytes lie there, as a slice of whatever row -/
def Bo (w : World) (v : Value) (b : Bs) : Prop := ∃ ao cap, v = .slice ao b.length cap ∧ (0 < b.length → ∃ g o, ao = some ⟨g, o, none⟩ ∧ w.rangeAt g o (bcs b))
theorem Bo.nil (w : World) : Bo w (.slice none 0 0) [] := ⟨none, 0, rfl, fun h => (by simp at h)⟩
theorem Br.bo {w : World} {v : Value} {b : Bs} (h : Br w v b) : Bo w v b := by
  rcases h with ⟨rfl, rfl⟩ | ⟨g, rfl, h⟩
  · exact Bo.nil w
  · exact ⟨_, _, rfl, fun _ => ⟨g, 0, rfl, h⟩⟩
theorem Bo.kept {w w' : World} {v : Value} {b : Bs} (h : Bo w v b) (hh : ∀ g, v.ownBlock = some g → w'.heap[g]? = w.heap[g]?) : Bo w' v b := by
  obtain ⟨ao, cap, rfl, h2⟩ := h
  refine ⟨ao, cap, rfl, fun h0 => ?_⟩
  obtain ⟨g, o, rfl, h3⟩ := h2 h0
  refine ⟨g, o, rfl, fun j u hu => ?_⟩
  rw [← h3 j u hu]
  exact World.cell?_of_block (hh g rfl)
theorem Bo.lt {w : World} {v : Value} {b : Bs} (h : Bo w v b) (h0 : 0 < b.length) {g : Nat} (e : v.ownBlock = some g) : g < w.heap.size := by
  obtain ⟨ao, cap, rfl, h2⟩ := h
  obtain ⟨g', o, rfl, h3⟩ := h2 h0
  cases e
  have := h3 0 (.int .u8 (b[0].toNat : Int)) (by simp [bcs, h0])
  exact World.block_lt_of_cell? w ⟨g', o + 0, none⟩ this
theorem Bo.low {w w' : World} {v : Value} {b : Bs} (h : Bo w v b) (hb : Below w.heap.size w w') : Bo w' v b := by
  by_cases h0 : 0 < b.length
  · exact h.kept (fun g e => hb.block g (h.lt h0 e))
  · obtain ⟨ao, cap, rfl, h2⟩ := h
    exact ⟨ao, cap, rfl, fun h1 => absurd h1 h0⟩
theorem zero_cells : Tryz.zeroCells83 = (List.replicate 256 (Value.int .u8 0)).toArray := by kernel_rfl
theorem size5 : (Tryz.prog.info? 5).map (·.size) = some 1 := by kernel_rfl
theorem bcs_page (b : Bs) : bcs (pageB b) = bcs b ++ List.replicate (256 - b.length) (.int .u8 0) := by
  unfold pageB bcs
  rw [List.map_append, List.map_replicate]
  rfl
/-- the copy into a page of noughts -/
theorem copy_page (w : World) (v : Value) (b : Bs) (h : Bo w v b) (hl : b.length ≤ 256) (g : Nat) (hg : w.heap[g]? = some (.cells Tryz.zeroCells83 83 (0, 0))) :
    (Builtin.copy_ #[47, 47] 3 #[.slice (some ⟨g, 0, none⟩) 256 256, v]).run Tryz.prog w = .ok (.int .i64 (b.length : Int)) (w.setRow g (bcs (pageB b)).toArray) := by
  obtain ⟨ao, cap, rfl, h2⟩ := h
  have hz : Tryz.zeroCells83.toList = List.replicate 256 (Value.int .u8 0) := by rw [zero_cells]
  by_cases h0 : 0 < b.length
  · obtain ⟨g', o, rfl, h3⟩ := h2 h0
    have := run_copy_row (P := Tryz.prog) w 47 47 3 5 g 0 256 256 ⟨g', o, none⟩ b.length cap Tryz.zeroCells83 83 (bcs b) Tryz.underlying47 size5 hg (by rw [bcs_len]; exact (Nat.min_eq_left hl).symm) (fun j u hu => by rw [Addr.add_mid]; exact h3 j u hu) (by rw [bcs_len, zero78]; omega) (bcs_one b)
    have e : (Tryz.zeroCells83.toList.take 0 ++ bcs b ++ Tryz.zeroCells83.toList.drop (0 + (bcs b).length)) = bcs (pageB b) := by
      rw [bcs_page b, hz, List.take_zero, List.nil_append, List.drop_replicate, Nat.zero_add, bcs_len]
    rw [this, e, bcs_len]
    rfl
  · have hb : b = [] := List.eq_nil_of_length_eq_zero (by omega)
    subst hb
    rw [run_copy_none (P := Tryz.prog) w 47 47 3 5 _ _ 256 256 _ _ Tryz.underlying47 size5 (by rfl)]
    congr 1
    rw [bcs_page []]
    show w = w.setRow g (List.replicate 256 (Value.int .u8 0)).toArray
    rw [← zero_cells]
    exact (setRow_self w g _ 83 _ hg).symm
end Go.Proofs.YtojnembakhhgiaaGreat

/- pageOf: the walk. -/
namespace Go.Proofs.YtojnembakhhgiaaGreat
open Go.RowKit

set_option maxRecDepth 100000 in
set_option maxHeartbeats 4000000 in
theorem pageOf_any (w : World) (v : Value) (b : Bs) (h : Bo w v b) (hl : b.length ≤ 256) :
    Calls Tryz.prog 52 #[v] w fun e w' => e = .returned (.agg (bcs (pageB b)).toArray) ∧ Below w.heap.size w w' := by
  obtain ⟨Z, hZ⟩ : ∃ Z, Z = Tryz.zeroCells83 := ⟨_, rfl⟩
  obtain ⟨w1, hw1⟩ : ∃ w1, w1 = (w.alloc (.cells Z 83)).alloc (.cells Z 83) := ⟨_, rfl⟩
  have hb1 : Below w.heap.size w w1 := hw1 ▸ ((Below.refl _ _).alloc (Nat.le_refl _) _).alloc (by simp) _
  have hx1 : w1.heap[w.heap.size + 1]? = some (.cells Tryz.zeroCells83 83 (0, 0)) := by
    have := heap_alloc_new (w.alloc (.cells Z 83)) (.cells Z 83)
    rw [hw1, ← hZ]
    simpa using this
  have hx0 : w1.heap[w.heap.size]? = some (.cells Tryz.zeroCells83 83 (0, 0)) := by
    rw [hw1, ← hZ, Below.heap_alloc _ _ _ (by simp)]
    exact heap_alloc_new _ _
  obtain ⟨cs, hcs⟩ : ∃ cs, cs = bcs (pageB b) := ⟨_, rfl⟩
  have hcl : cs.length = 256 := by rw [hcs, bcs_len, pageB_len hl]
  have h1c : ∀ u ∈ cs, u.oneCell' = true := by rw [hcs]; exact bcs_one _
  have hcp := copy_page w1 v b (h.low hb1) hl (w.heap.size + 1) hx1
  rw [← hcs] at hcp
  obtain ⟨w2, hw2⟩ : ∃ w2, w2 = w1.setRow (w.heap.size + 1) cs.toArray := ⟨_, rfl⟩
  rw [← hw2] at hcp
  have hy1 : w2.heap[w.heap.size + 1]? = some (.cells cs.toArray 83 (0, 0)) := by rw [hw2]; exact setRow_heap _ _ _ _ _ _ hx1
  have hy0 : w2.heap[w.heap.size]? = some (.cells Tryz.zeroCells83 83 (0, 0)) := by rw [hw2, setRow_other _ _ _ _ (by omega)]; exact hx0
  have hr : w2.rangeAt (w.heap.size + 1) 0 cs := fun j u hu => by rw [cell_of_heap hy1, Nat.zero_add, List.getElem?_toArray]; exact hu
  have hu := Tryz.underlying83
  have hi : (Tryz.prog.info? 83).map (·.size) = some cs.length := by rw [size78, hcl]
  have hst : (storeCells ⟨w.heap.size, 0, none⟩ cs).run Tryz.prog w2 = .ok () (w2.setCells w.heap.size 0 cs) := store_cells hy0 (by rw [zero78, hcl]; omega) h1c
  obtain ⟨w3, hw3⟩ : ∃ w3, w3 = w2.setCells w.heap.size 0 cs := ⟨_, rfl⟩
  rw [← hw3] at hst
  have hz3 : w3.heap[w.heap.size]? = some (.cells cs.toArray 83 (0, 0)) := by
    rw [hw3, heap_cells cs _ _ 0 _ 83 hy0 (by rw [zero78, hcl]; omega)]
    have : (Tryz.zeroCells83.toList.take 0 ++ cs ++ Tryz.zeroCells83.toList.drop (0 + cs.length)) = cs := by
      rw [List.take_zero, List.nil_append, List.drop_eq_nil_of_le (by rw [Array.length_toList, zero78, hcl]; omega), List.append_nil]
    rw [this]
  have hr3 : w3.rangeAt w.heap.size 0 cs := fun j u hu => by rw [cell_of_heap hz3, Nat.zero_add, List.getElem?_toArray]; exact hu
  have ht : w2.there w.heap.size 0 cs.toArray.size := by rw [show cs.toArray.size = 256 from hcl]; exact there_blk hy0 (by rw [zero78]; omega)
  have HB : Hid (Below w.heap.size w w3) := hid (by
    have k := kf_cells cs w2 w.heap.size 0
    rw [← hw3] at k
    refine ⟨k.os.trans (by rw [hw2]; exact hb1.os), k.tape.trans (by rw [hw2]; exact hb1.tape), k.output.trans (by rw [hw2]; exact hb1.output), Nat.le_trans (by rw [hw2]; simpa using hb1.size) k.size, fun g hg => ?_⟩
    rw [k.blk g (by rw [hw2]; simpa using Nat.lt_of_lt_of_le hg hb1.size) (by simp; omega), hw2, setRow_other _ _ _ _ (by omega)]
    exact hb1.block g hg)
  have HCS := hid hcs
  have HZ3 := hid hz3
  clear hy1 hy0 hx1 hx0 hz3 hb1 h hcs hw2 hl hw3
  subst hZ
  go_enter Tryz.func52, Tryz.ntmps52
  go_wp2_with fail
  rw [← hw1, hcp]
  go_wp2_with fail
  refine wp_load_mid 83 (.tmp 3) rfl (w.heap.size + 1) 0 rfl cs _ hr hu rfl hi ?_
  go_wp2_with fail
  refine bodyPost_ret (results_cell_row rfl _ _ w.heap.size 83 cs.toArray (0, 0) _ rfl HZ3.out hu rfl hi) rfl ?_
  exact ⟨by rw [HCS.out], HB.out⟩
end Go.Proofs.YtojnembakhhgiaaGreat
