/- The words of a block, as the program makes them. -/
import Derived.Test.YtkeppcpplkdkaaaDoorFrame
namespace Go.Proofs.YtkeppcpplkdkaaaDoor
open Go.RowKit

/-- a table of 64 words whose first are known -/
def pad (l : List Int) : Array Value := (u32s (l ++ List.replicate (64 - l.length) 0)).toArray
theorem pad_get {l : List Int} {i : Nat} (h : i < l.length) : (pad l)[i]? = some (.int .u32 (l.getD i 0)) := by
  unfold pad
  rw [List.getElem?_toArray, u32s, List.map_append, List.getElem?_append_left (by simpa using h)]
  simp [h]
theorem pad_new {l : List Int} (h : l.length < 64) : (pad l)[l.length]? = some (.int .u32 0) := by
  unfold pad
  rw [List.getElem?_toArray, u32s, List.map_append, List.getElem?_append_right (by simp)]
  simp [List.getElem?_replicate]
  omega
theorem pad_set {l : List Int} (h : l.length < 64) (v : Int) : (pad l).setIfInBounds l.length (.int .u32 v) = pad (l ++ [v]) := by
  unfold pad
  apply Array.ext'
  simp only [Array.toList_setIfInBounds, List.length_append, List.length_singleton]
  have e : List.replicate (64 - l.length) (0 : Int) = 0 :: List.replicate (64 - (l.length + 1)) 0 := by
    rw [show 64 - l.length = (64 - (l.length + 1)) + 1 by omega, List.replicate_succ]
  rw [e]
  simp

/-- the table in memory -/
structure SP (w : World) (l : List Int) (W : World) : Prop where
  bel : Below w.heap.size w W
  res : W.heap[w.heap.size]? = some (.cells (pad []) 53 (0, 0))
  blk : W.heap[w.heap.size + 1]? = some (.cells (pad l) 53 (0, 0))
theorem SP.drewN {w : World} {l : List Int} {W : World} (h : SP w l W) (q : Nat) : SP w l (W.drewN q) := ⟨below_drewN h.bel q, h.res, h.blk⟩
theorem SP.drew {w : World} {l : List Int} {W : World} (h : SP w l W) : SP w l W.drew := ⟨⟨h.bel.os, h.bel.tape, h.bel.output, h.bel.size, h.bel.block⟩, h.res, h.blk⟩
theorem SP.set {w : World} {l : List Int} {W : World} (h : SP w l W) {n : Nat} (hn : l.length = n) (hl : n < 64) (v : Int) : SP w (l ++ [v]) (W.setCell ⟨w.heap.size + 1, n, none⟩ (.int .u32 v)) := by
  have hs := lt_of_block h.res
  refine ⟨⟨h.bel.os, h.bel.tape, h.bel.output, by simpa [World.setCell] using h.bel.size, fun k hk => ?_⟩, ?_, ?_⟩
  · rw [Below.heap_setCell _ _ _ _ (by show k ≠ w.heap.size + 1; omega)]; exact h.bel.block k hk
  · rw [Below.heap_setCell _ _ _ _ (by show w.heap.size ≠ w.heap.size + 1; omega)]; exact h.res
  · rw [heap_setCell_same h.blk, ← hn, pad_set (by omega)]

theorem SP.set' {w : World} {l : List Int} {W : World} (h : SP w l W) {n : Nat} (hn : l.length = n) (hl : n < 64) {v v' : Int} (hv : v = v') : SP w (l ++ [v]) (W.setCell ⟨w.heap.size + 1, n, none⟩ (.int .u32 v')) := by
  subst hv; exact h.set hn hl v
theorem pad_size (l : List Int) (h : l.length ≤ 64) : (pad l).size = 64 := by
  unfold pad; simp; omega
theorem pad_one (l : List Int) : (pad l).all (·.oneCell') = true := by
  unfold pad; simp [Value.oneCell']
theorem Tryd.size53 : (Tryd.prog.info? 53).map (·.size) = some 64 := by kernel_rfl

set_option maxHeartbeats 4000000 in
set_option maxRecDepth 100000 in
theorem spread_any (b : Bs) (w : World) (bb bo bc : Nat) (hb : At w bb bo b) (hl : b.length = 64) (hbc : 64 ≤ bc) : Calls Tryd.prog 26 #[.slice (some ⟨bb, bo, none⟩) 64 bc] w fun en w' =>
    en = .returned (.agg (pad (ws b 64))) ∧ Below w.heap.size w w' := by
  have HB := hid hb
  clear hb
  go_enter Tryd.func26, Tryd.ntmps26
  go_wp2_with fail
  have hsp : SP w [] (World.alloc (World.alloc w (.cells (pad []) 53)) (.cells (pad []) 53)) := by
    refine ⟨((below_alloc_self' w _).trans ((below_alloc_self' _ _).mono (by simp))), ?_, ?_⟩
    · rw [Below.heap_alloc _ _ _ (by simp)]; exact heap_alloc_new w _
    · have := heap_alloc_new (w.alloc (.cells (pad []) 53)) (.cells (pad []) 53); simpa using this
  have HSP := hid hsp
  change Code.wp _ _ _ _ (World.alloc (World.alloc w (.cells (pad []) 53)) (.cells (pad []) 53))
  generalize World.alloc (World.alloc w (.cells (pad []) 53)) (.cells (pad []) 53) = W0 at HSP ⊢
  clear hsp
  go_loopg [11] 16 (fun gg iv wr => ∃ n : Nat, n ≤ 16 ∧ gg = 16 - n ∧ iv = .int .i64 (n : Int) ∧ SP w (ws b n) wr)
  case atStart => exact ⟨0, by omega, rfl, rfl, HSP.out⟩
  case round =>
    clear HSP
    obtain ⟨n, hn, rfl, rfl, hsp⟩ := hrel
    have HS := hid hsp
    clear hsp
    by_cases hnl : n < 16
    · obtain ⟨k, hk⟩ : ∃ k, k = 4 * n := ⟨_, rfl⟩
      have hn' : (n : Int) < 16 := by omega
      have e4 : 4 * (n : Int) = (k : Int) := by omega
      have hk0 : (k : Int) ≤ 60 := by omega
      have hkk : (k : Int) + 4 ≤ 64 := by omega
      have hkb : (k : Int) + 4 ≤ (bc : Int) := by omega
      have HC : Hid (∀ i, i < 64 → wr.cell? ⟨bb, bo + i, none⟩ = some (.int .u8 (byt b i))) := hid (fun i hi => (HS.out.bel.cell (p := ⟨bb, bo + i, none⟩) HB.out.1).trans (HB.out.2 i (by omega)))
      have c0 := HC.out k (by omega)
      have c1 := HC.out (k + 1) (by omega)
      have c2 := HC.out (k + 2) (by omega)
      have c3 := HC.out (k + 3) (by omega)
      rw [← Nat.add_assoc] at c1 c2 c3
      have hn64 : (n : Int) < 64 := by omega
      have cw : wr.cell? ⟨w.heap.size + 1, n, none⟩ = some (.int .u32 0) := by rw [cell_of_heap HS.out.blk]; have := pad_new (l := ws b n) (by rw [ws_len]; omega); rw [ws_len] at this; exact this
      have fw : wr.frozen? ⟨w.heap.size + 1, n, none⟩ = false := frozen_of_heap HS.out.blk n
      have k44 : k + 4 - k = 4 := by omega
      have HMS : Hid (16 - (n + 1) < 16 - n) := by apply hid; omega
      have HN1 : Hid (n + 1 ≤ 16 ∧ n < 64) := by apply hid; omega
      have HIV : Hid ((.int .i64 ((n : Int) + 1) : Value) = .int .i64 ((n + 1 : Nat) : Int)) := by apply hid; simp
      have HWS : Hid (ws b (n + 1) = ws b n ++ [wd (byt b k) (byt b (k + 1)) (byt b (k + 2)) (byt b (k + 3))]) := by apply hid; rw [ws, if_pos hnl, hk]
      clear hnl hn hk HC
      go_wp2_with fail
      go_region
      all_goals
        go_wp2_with fail
        go_roundg (16 - (n + 1))
        case measure => exact HMS.out
        case rel =>
          refine ⟨n + 1, HN1.out.1, rfl, HIV.out, ?_⟩
          rw [HWS.out]
          exact (HS.out.set' (ws_len b n) HN1.out.2 (by unfold wd; rfl)).drew
    · have hn' : ¬ (n : Int) < 16 := by omega
      obtain rfl : n = 16 := by omega
      clear hnl hn
      go_wp2_with fail
      go_loopg [6] 48 (fun gg iv wr => ∃ n : Nat, 16 ≤ n ∧ n ≤ 64 ∧ gg = 64 - n ∧ iv = .int .i64 (n : Int) ∧ SP w (ws b n) wr)
      case atStart => exact ⟨16, by omega, by omega, rfl, rfl, HS.out⟩
      case round =>
        clear HS
        obtain ⟨n, hn, hn2, rfl, rfl, hsp⟩ := hrel
        have HS := hid hsp
        clear hsp
        by_cases hnl : n < 64
        · have hk0 : (n : Int) < 64 := by omega
          have e15 : IntKind.i64.wrap ((n : Int) - 15) = ((n - 15 : Nat) : Int) := by rw [IntKind.wrap_i64]; omega
          have e2 : IntKind.i64.wrap ((n : Int) - 2) = ((n - 2 : Nat) : Int) := by rw [IntKind.wrap_i64]; omega
          have e16 : IntKind.i64.wrap ((n : Int) - 16) = ((n - 16 : Nat) : Int) := by rw [IntKind.wrap_i64]; omega
          have e7 : IntKind.i64.wrap ((n : Int) - 7) = ((n - 7 : Nat) : Int) := by rw [IntKind.wrap_i64]; omega
          have l15 : ((n - 15 : Nat) : Int) < 64 := by omega
          have l2 : ((n - 2 : Nat) : Int) < 64 := by omega
          have l16 : ((n - 16 : Nat) : Int) < 64 := by omega
          have l7 : ((n - 7 : Nat) : Int) < 64 := by omega
          have HC : Hid (∀ i, i < n → wr.cell? ⟨w.heap.size + 1, i, none⟩ = some (.int .u32 ((ws b n).getD i 0))) := by
            apply hid; intro i hi; rw [cell_of_heap HS.out.blk]; exact pad_get (by rw [ws_len]; exact hi)
          have c15 := HC.out (n - 15) (by omega)
          have c2 := HC.out (n - 2) (by omega)
          have c16 := HC.out (n - 16) (by omega)
          have c7 := HC.out (n - 7) (by omega)
          have cw : wr.cell? ⟨w.heap.size + 1, n, none⟩ = some (.int .u32 0) := by rw [cell_of_heap HS.out.blk]; have := pad_new (l := ws b n) (by rw [ws_len]; omega); rw [ws_len] at this; exact this
          have fw : wr.frozen? ⟨w.heap.size + 1, n, none⟩ = false := frozen_of_heap HS.out.blk n
          have HWS : Hid (ws b (n + 1) = ws b n ++ [nx (ws b n) n]) := by apply hid; rw [ws, if_neg (by omega)]
          have HNX : Hid (∀ p q r t : Int, (((p + q) % 4294967296 + r) % 4294967296 + t) % 4294967296 = (p + q + r + t) % 4294967296) := by apply hid; intro p q r t; omega
          have HMS : Hid (64 - (n + 1) < 64 - n) := by apply hid; omega
          have HN1 : Hid (16 ≤ n + 1 ∧ n + 1 ≤ 64 ∧ n < 64) := by apply hid; omega
          have HIV : Hid ((.int .i64 ((n : Int) + 1) : Value) = .int .i64 ((n + 1 : Nat) : Int)) := by apply hid; simp
          unfold nx at HWS
          clear HC
          generalize n - 15 = n15 at *
          generalize n - 2 = n2 at *
          generalize n - 16 = n16 at *
          generalize n - 7 = n7 at *
          generalize (ws b n).getD n15 0 = x15 at *
          generalize (ws b n).getD n2 0 = x2 at *
          generalize (ws b n).getD n16 0 = x16 at *
          generalize (ws b n).getD n7 0 = x7 at *
          clear hn hn2 hnl
          go_wp2_with fail
          go_quiet (fail)
          go_wp2_with fail
          refine (turn_int _ _ _ (by decide) (by decide)).mono ?_
          rintro e w3 ⟨rfl, m3, rfl⟩
          go_wp2_with fail
          refine (turn_int _ _ _ (by decide) (by decide)).mono ?_
          rintro e w3 ⟨rfl, m4, rfl⟩
          go_wp2_with fail
          refine (turn_int _ _ _ (by decide) (by decide)).mono ?_
          rintro e w3 ⟨rfl, m5, rfl⟩
          go_wp2_with fail
          refine (turn_int _ _ _ (by decide) (by decide)).mono ?_
          rintro e w3 ⟨rfl, m6, rfl⟩
          go_wp2_with fail
          go_region
          all_goals
            go_wp2_with fail
            go_roundg (64 - (n + 1))
            case measure => exact HMS.out
            case rel =>
              refine ⟨n + 1, HN1.out.1, HN1.out.2.1, rfl, HIV.out, ?_⟩
              rw [HWS.out]
              exact (HS.out.drewN _).set' (ws_len b n) HN1.out.2.2 (HNX.out _ _ _ _)
        · have hk0 : ¬ (n : Int) < 64 := by omega
          obtain rfl : n = 64 := by omega
          clear hnl hn hn2
          have hz : (Tryd.prog.info? 53).map (·.size) = some (pad (ws b 64)).size := by rw [pad_size _ (by rw [ws_len]; omega)]; exact Tryd.size53
          have HZ := hid hz
          clear hz
          go_wp2_with (first | refine wpList_load_arr _ rfl (.tmp 3) 53 rfl _ 53 _ 64 34 rfl HS.out.blk Tryd.underlying53 HZ.out ?_ | refine wpList_store_arr _ rfl (.tmp 2) (.tmp 89) 53 rfl rfl _ 53 (pad []) (pad (ws b 64)) rfl rfl HS.out.res HZ.out (by rw [pad_size _ (by simp), pad_size _ (by rw [ws_len]; omega)]) (pad_one _) ?_)
          have hload := run_loadVar_row (P := Tryd.prog) (wr.setRow w.heap.size (pad (ws b 64))) w.heap.size 53 53 (pad (ws b 64)) (0, 0) _ (setRow_same HS.out.res) Tryd.underlying53 rfl HZ.out
          refine bodyPost_ret (v := .agg (pad (ws b 64))) ?_ rfl ⟨rfl, below_setRow HS.out.bel (Nat.le_refl _)⟩
          exact results_cell Tryd.results26 rfl hload
end Go.Proofs.YtkeppcpplkdkaaaDoor
