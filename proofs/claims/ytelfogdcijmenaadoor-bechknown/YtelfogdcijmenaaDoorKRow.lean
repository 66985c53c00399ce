/- So many letters, and the examples' answers. -/
import Derived.Test.YtelfogdcijmenaaDoorLBk
import Derived.Test.YtelfogdcijmenaaDoorLBt
namespace Go.Proofs.YtelfogdcijmenaaDoor
open Go.RowKit

theorem rep_set (n i : Nat) (c : UInt8) (hi : i < n) : (List.replicate i c ++ List.replicate (n - i) 0).set i c = List.replicate (i + 1) c ++ List.replicate (n - (i + 1)) 0 := by
  rw [List.set_append_right _ _ (by simp)]
  have e : n - i = (n - (i + 1)) + 1 := by omega
  rw [List.length_replicate, Nat.sub_self, e, List.replicate_succ, List.set_cons_zero, List.replicate_succ']
  simp
theorem blk_sl {w : World} {g n : Nat} {l : Bs} (h : w.heap[g]? = some (.cells (bcs l).toArray 5 (0, 0))) (hn : l.length = n) : Sl w (.slice (some ⟨g, 0, none⟩) n n) l := by
  subst hn
  refine Or.inr ⟨⟨g, 0, none⟩, l.length, rfl, Nat.le_refl _, fun _ => ⟨rfl, lt_of_block h⟩, fun i hi => ?_⟩
  rw [add_plain, Nat.zero_add]
  exact blk_cell h hi
set_option maxRecDepth 100000 in
set_option maxHeartbeats 2000000 in
theorem row_any (n : Nat) (c : UInt8) (w : World) (hm : n ≤ 1000000) : Calls Tryd.prog 17 #[.int .i64 (n : Int), By c] w fun e w' => e = .returned (St (List.replicate n c)) ∧ Below w.heap.size w w' := by
  have hmk := make_n n (by omega)
  unfold By
  have hc8 := c.toNat_lt
  go_enter Tryd.func17, Tryd.ntmps17
  go_wp2_with fail
  have HB0 : Hid (Below w.heap.size w (w.alloc (.cells (bcs (List.replicate n 0)).toArray 5))) := hid ((Below.refl w.heap.size w).alloc (Nat.le_refl _) _)
  have HK0 : Hid ((w.alloc (.cells (bcs (List.replicate n 0)).toArray 5)).heap[w.heap.size]? = some (.cells (bcs (List.replicate n 0)).toArray 5 (0, 0))) := hid (heap_alloc_new w _)
  generalize w.alloc (.cells (bcs (List.replicate n 0)).toArray 5) = w1 at HB0 HK0 ⊢
  clear hmk
  go_loopg [6] n (fun gg v6 wr => ∃ i : Nat, i ≤ n ∧ gg = n - i ∧ v6 = .int .i64 (i : Int) ∧ wr.heap[w.heap.size]? = some (.cells (bcs (List.replicate i c ++ List.replicate (n - i) 0)).toArray 5 (0, 0)) ∧ Below w.heap.size w wr)
  case atStart => exact ⟨0, by omega, by omega, rfl, HK0.out, HB0.out⟩
  case round =>
    obtain ⟨i, hi, rfl, rfl, h0, hbel⟩ := hrel
    clear HK0 HB0
    by_cases hin : i < n
    · have hi1 : (i : Int) < (n : Int) := by omega
      have hlen : (List.replicate i c ++ List.replicate (n - i) 0).length = n := by simp; omega
      have hc0 := blk_cell h0 (by rw [hlen]; exact hin)
      generalize (List.replicate i c ++ List.replicate (n - i) 0)[i]'(by rw [hlen]; exact hin) = old at hc0
      have hfz := frozen_of_heap h0 i
      have hset := blk_set h0 i c
      rw [rep_set n i c hin] at hset
      have HSET := hid hset
      have HBE := hid (below_set hbel (Nat.le_refl _) i (By c))
      unfold By at HSET HBE
      clear h0 hbel hset hlen
      go_wp2_with fail
      go_roundg (n - (i + 1))
      case measure => omega
      case rel => exact ⟨i + 1, by omega, rfl, by go_num, HSET.out, HBE.out⟩
    · have hi1 : ¬ (i : Int) < (n : Int) := by omega
      have hie : i = n := by omega
      subst hie
      rw [Nat.sub_self, List.replicate_zero, List.append_nil] at h0
      have hst := (blk_sl h0 List.length_replicate).string
      have HBE := hid hbel
      clear h0 hbel
      go_wp2_with fail
      go_ret
      exact ⟨rfl, HBE.out⟩
end Go.Proofs.YtelfogdcijmenaaDoor
