/- The small functions of a state. -/
import Derived.Test.YtkeppcpplkdkaaaDoorTakeIn
import Derived.Test.YtkeppcpplkdkaaaDoorFill
namespace Go.Proofs.YtkeppcpplkdkaaaDoor
open Go.RowKit

set_option maxHeartbeats 1000000 in
theorem first_any (w : World) : Calls Tryd.prog 25 #[] w fun en w' => en = .returned (.agg (v8 iv)) ∧ Below w.heap.size w w' := by
  go_enter Tryd.func25, Tryd.ntmps25
  go_wp2_with fail
  exact bodyPost_ret (v := .agg (v8 iv)) (by simp [results, Tryd.results25, go_sem, iv]) rfl ⟨rfl, below_alloc_self' _ _⟩

set_option maxHeartbeats 1000000 in
theorem waiting_any (w : World) (p n : Nat) (hc : w.cell? ⟨p, 72, none⟩ = some (.int .u64 (n : Int))) (hn : n < 4611686018427387904) : Calls Tryd.prog 17 #[.pointer (some ⟨p, 0, none⟩)] w fun en w' => en = .returned (.int .i64 ((n % 64 : Nat) : Int)) ∧ w' = w := by
  go_enter Tryd.func17, Tryd.ntmps17
  go_wp2_with fail
  go_ret
  exact ⟨rfl, rfl⟩

theorem v8_one (s : S8) : (v8 s).all (·.oneCell') = true := by simp [Value.oneCell']
/-- eight words that are none -/
abbrev z8 : Array Value := v8 ⟨0, 0, 0, 0, 0, 0, 0, 0⟩

set_option maxHeartbeats 1000000 in
theorem begun_no (w : World) (p n : Nat) (hp : p < w.heap.size) (hc : w.cell? ⟨p, 72, none⟩ = some (.int .u64 (n : Int))) (hn : n < 64) : Calls Tryd.prog 19 #[.pointer (some ⟨p, 0, none⟩)] w fun en w' => en = .returned (.agg (v8 iv)) ∧ Below w.heap.size w w' := by
  have hn' : (n : Int) < 64 := by omega
  go_enter Tryd.func19, Tryd.ntmps19
  go_wp2_with fail
  refine (first_any _).mono ?_
  rintro e w1 ⟨rfl, hb⟩
  have HR : Hid (w1.heap[w.heap.size]? = some (.cells z8 35 (0, 0))) := hid ((hb.block w.heap.size (by simp)).trans (heap_alloc_new w _))
  have HB : Hid (Below w.heap.size w w1) := hid ((below_alloc_self' w _).trans (hb.mono (by simp)))
  clear hb
  go_wp2_with (refine wpList_store_arr _ rfl (.tmp 2) (.tmp 8) 35 rfl rfl _ 35 z8 (v8 iv) rfl rfl HR.out Tryd.size35 rfl (v8_one _) ?_)
  refine bodyPost_ret (v := .agg (v8 iv)) (results_cell Tryd.results19 rfl ?_) rfl ⟨rfl, below_setRow HB.out (Nat.le_refl _)⟩
  exact run_loadVar_row _ _ 35 35 _ (0, 0) _ (setRow_same HR.out) Tryd.underlying35 rfl Tryd.size35

set_option maxHeartbeats 1000000 in
theorem begun_yes (w : World) (p n : Nat) (s : S8) (hc : w.cell? ⟨p, 72, none⟩ = some (.int .u64 (n : Int))) (hn : ¬ n < 64) (h8 : Eight w p s) : Calls Tryd.prog 19 #[.pointer (some ⟨p, 0, none⟩)] w fun en w' => en = .returned (.agg (v8 s)) ∧ Below w.heap.size w w' := by
  have hn' : ¬ (n : Int) < 64 := by omega
  obtain ⟨hlt, d0, d1, d2, d3, d4, d5, d6, d7⟩ := h8
  go_enter Tryd.func19, Tryd.ntmps19
  go_wp2_with fail
  exact bodyPost_ret (v := .agg (v8 s)) (by simp [results, Tryd.results19, go_sem]) rfl ⟨rfl, below_alloc_self' _ _⟩

/-- the bytes that are written, the first words' -/
def po (s : S8) (n : Nat) : Array Value := (u8s ((outs s).take (4 * n) ++ List.replicate (32 - 4 * n) 0)).toArray
theorem Tryd.size23 : (Tryd.prog.info? 23).map (·.size) = some 32 := by kernel_rfl
theorem u8s_one (l : List Int) : (u8s l).toArray.all (·.oneCell') = true := by
  simp [List.all_eq_true, Value.oneCell']
/-- the bytes of a sum are being written -/
structure Wr (w : World) (s : S8) (n : Nat) (wr : World) : Prop where
  bel : Below w.heap.size w wr
  res : wr.heap[w.heap.size + 1]? = some (.cells (po s 0) 23 (0, 0))
  blk : wr.heap[w.heap.size + 1 + 1]? = some (.cells (po s n) 23 (0, 0))

set_option maxHeartbeats 4000000 in
theorem written_any (s : S8) (w : World) : Calls Tryd.prog 21 #[.agg (v8 s)] w fun en w' => en = .returned (vsum s) ∧ Below w.heap.size w w' := by
  go_enter Tryd.func21, Tryd.ntmps21
  go_wp2_with fail
  go_loopg [7] 8 (fun gg vi wr => ∃ n : Nat, n ≤ 8 ∧ gg = 8 - n ∧ vi = .int .i64 (n : Int) ∧ Wr w s n wr)
  case atStart =>
    refine ⟨0, by omega, rfl, rfl, ?_, ?_, ?_⟩
    · exact (((below_alloc_self' w _).alloc (by simp) _).alloc (by simp; omega) _)
    · rw [Below.heap_alloc _ _ _ (by simp)]; have := heap_alloc_new (w.alloc (Obj.cells (v8 s) 35)) (.cells (po s 0) 23); rw [show (w.alloc (Obj.cells (v8 s) 35)).heap.size = w.heap.size + 1 by simp] at this; exact this
    · have := heap_alloc_new ((w.alloc (Obj.cells (v8 s) 35)).alloc (.cells (po s 0) 23)) (.cells (po s 0) 23); rw [show ((w.alloc (Obj.cells (v8 s) 35)).alloc (.cells (po s 0) 23)).heap.size = w.heap.size + 1 + 1 by simp] at this; exact this
  case round =>
    obtain ⟨n, hn, rfl, rfl, hs⟩ := hrel
    have HS := hid hs
    clear hs
    by_cases hnl : n < 8
    · rcases (by omega : n = 0 ∨ n = 1 ∨ n = 2 ∨ n = 3 ∨ n = 4 ∨ n = 5 ∨ n = 6 ∨ n = 7) with rfl | rfl | rfl | rfl | rfl | rfl | rfl | rfl
      all_goals
        clear hn hnl
        have hf := fun o => frozen_of_heap HS.out.blk o
        have hc := fun o => cell_of_heap HS.out.blk o
      · have r0 : wr.cell? ⟨w.heap.size + 1 + 1, 0, none⟩ = some (.int .u8 0) := (hc 0).trans rfl
        have r1 : wr.cell? ⟨w.heap.size + 1 + 1, 1, none⟩ = some (.int .u8 0) := (hc 1).trans rfl
        have r2 : wr.cell? ⟨w.heap.size + 1 + 1, 2, none⟩ = some (.int .u8 0) := (hc 2).trans rfl
        have r3 : wr.cell? ⟨w.heap.size + 1 + 1, 3, none⟩ = some (.int .u8 0) := (hc 3).trans rfl
        have hX : ∀ w, (Instr.index 35 (.agg (v8 s)) (.int .i64 0)).run Tryd.prog w = .ok (.int .u32 s.a) w := by intro w; simp [Instr.index, run_underlying Tryd.underlying35, asIntOf, go_sem]
        clear hc
        go_wp2_with fail
        have hres := heap_setCell_same (heap_setCell_same (heap_setCell_same (heap_setCell_same HS.out.blk 0 (.int .u8 (s.a / 16777216 % 256))) 1 (.int .u8 (s.a / 65536 % 256))) 2 (.int .u8 (s.a / 256 % 256))) 3 (.int .u8 (s.a % 256))
        go_roundg (8 - (0 + 1))
        case measure => decide
        case rel =>
          refine ⟨0 + 1, by decide, rfl, rfl, ?_, ?_, hres⟩
          · repeat' apply below_setCell
            all_goals first | exact HS.out.bel | omega
          · rw [Below.heap_setCell _ _ _ _ (by simp), Below.heap_setCell _ _ _ _ (by simp), Below.heap_setCell _ _ _ _ (by simp), Below.heap_setCell _ _ _ _ (by simp)]
            exact HS.out.res
      · have r0 : wr.cell? ⟨w.heap.size + 1 + 1, 4, none⟩ = some (.int .u8 0) := (hc 4).trans rfl
        have r1 : wr.cell? ⟨w.heap.size + 1 + 1, 5, none⟩ = some (.int .u8 0) := (hc 5).trans rfl
        have r2 : wr.cell? ⟨w.heap.size + 1 + 1, 6, none⟩ = some (.int .u8 0) := (hc 6).trans rfl
        have r3 : wr.cell? ⟨w.heap.size + 1 + 1, 7, none⟩ = some (.int .u8 0) := (hc 7).trans rfl
        have hX : ∀ w, (Instr.index 35 (.agg (v8 s)) (.int .i64 1)).run Tryd.prog w = .ok (.int .u32 s.b) w := by intro w; simp [Instr.index, run_underlying Tryd.underlying35, asIntOf, go_sem]
        clear hc
        go_wp2_with fail
        have hres := heap_setCell_same (heap_setCell_same (heap_setCell_same (heap_setCell_same HS.out.blk 4 (.int .u8 (s.b / 16777216 % 256))) 5 (.int .u8 (s.b / 65536 % 256))) 6 (.int .u8 (s.b / 256 % 256))) 7 (.int .u8 (s.b % 256))
        go_roundg (8 - (1 + 1))
        case measure => decide
        case rel =>
          refine ⟨1 + 1, by decide, rfl, rfl, ?_, ?_, hres⟩
          · repeat' apply below_setCell
            all_goals first | exact HS.out.bel | omega
          · rw [Below.heap_setCell _ _ _ _ (by simp), Below.heap_setCell _ _ _ _ (by simp), Below.heap_setCell _ _ _ _ (by simp), Below.heap_setCell _ _ _ _ (by simp)]
            exact HS.out.res
      · have r0 : wr.cell? ⟨w.heap.size + 1 + 1, 8, none⟩ = some (.int .u8 0) := (hc 8).trans rfl
        have r1 : wr.cell? ⟨w.heap.size + 1 + 1, 9, none⟩ = some (.int .u8 0) := (hc 9).trans rfl
        have r2 : wr.cell? ⟨w.heap.size + 1 + 1, 10, none⟩ = some (.int .u8 0) := (hc 10).trans rfl
        have r3 : wr.cell? ⟨w.heap.size + 1 + 1, 11, none⟩ = some (.int .u8 0) := (hc 11).trans rfl
        have hX : ∀ w, (Instr.index 35 (.agg (v8 s)) (.int .i64 2)).run Tryd.prog w = .ok (.int .u32 s.c) w := by intro w; simp [Instr.index, run_underlying Tryd.underlying35, asIntOf, go_sem]
        clear hc
        go_wp2_with fail
        have hres := heap_setCell_same (heap_setCell_same (heap_setCell_same (heap_setCell_same HS.out.blk 8 (.int .u8 (s.c / 16777216 % 256))) 9 (.int .u8 (s.c / 65536 % 256))) 10 (.int .u8 (s.c / 256 % 256))) 11 (.int .u8 (s.c % 256))
        go_roundg (8 - (2 + 1))
        case measure => decide
        case rel =>
          refine ⟨2 + 1, by decide, rfl, rfl, ?_, ?_, hres⟩
          · repeat' apply below_setCell
            all_goals first | exact HS.out.bel | omega
          · rw [Below.heap_setCell _ _ _ _ (by simp), Below.heap_setCell _ _ _ _ (by simp), Below.heap_setCell _ _ _ _ (by simp), Below.heap_setCell _ _ _ _ (by simp)]
            exact HS.out.res
      · have r0 : wr.cell? ⟨w.heap.size + 1 + 1, 12, none⟩ = some (.int .u8 0) := (hc 12).trans rfl
        have r1 : wr.cell? ⟨w.heap.size + 1 + 1, 13, none⟩ = some (.int .u8 0) := (hc 13).trans rfl
        have r2 : wr.cell? ⟨w.heap.size + 1 + 1, 14, none⟩ = some (.int .u8 0) := (hc 14).trans rfl
        have r3 : wr.cell? ⟨w.heap.size + 1 + 1, 15, none⟩ = some (.int .u8 0) := (hc 15).trans rfl
        have hX : ∀ w, (Instr.index 35 (.agg (v8 s)) (.int .i64 3)).run Tryd.prog w = .ok (.int .u32 s.d) w := by intro w; simp [Instr.index, run_underlying Tryd.underlying35, asIntOf, go_sem]
        clear hc
        go_wp2_with fail
        have hres := heap_setCell_same (heap_setCell_same (heap_setCell_same (heap_setCell_same HS.out.blk 12 (.int .u8 (s.d / 16777216 % 256))) 13 (.int .u8 (s.d / 65536 % 256))) 14 (.int .u8 (s.d / 256 % 256))) 15 (.int .u8 (s.d % 256))
        go_roundg (8 - (3 + 1))
        case measure => decide
        case rel =>
          refine ⟨3 + 1, by decide, rfl, rfl, ?_, ?_, hres⟩
          · repeat' apply below_setCell
            all_goals first | exact HS.out.bel | omega
          · rw [Below.heap_setCell _ _ _ _ (by simp), Below.heap_setCell _ _ _ _ (by simp), Below.heap_setCell _ _ _ _ (by simp), Below.heap_setCell _ _ _ _ (by simp)]
            exact HS.out.res
      · have r0 : wr.cell? ⟨w.heap.size + 1 + 1, 16, none⟩ = some (.int .u8 0) := (hc 16).trans rfl
        have r1 : wr.cell? ⟨w.heap.size + 1 + 1, 17, none⟩ = some (.int .u8 0) := (hc 17).trans rfl
        have r2 : wr.cell? ⟨w.heap.size + 1 + 1, 18, none⟩ = some (.int .u8 0) := (hc 18).trans rfl
        have r3 : wr.cell? ⟨w.heap.size + 1 + 1, 19, none⟩ = some (.int .u8 0) := (hc 19).trans rfl
        have hX : ∀ w, (Instr.index 35 (.agg (v8 s)) (.int .i64 4)).run Tryd.prog w = .ok (.int .u32 s.e) w := by intro w; simp [Instr.index, run_underlying Tryd.underlying35, asIntOf, go_sem]
        clear hc
        go_wp2_with fail
        have hres := heap_setCell_same (heap_setCell_same (heap_setCell_same (heap_setCell_same HS.out.blk 16 (.int .u8 (s.e / 16777216 % 256))) 17 (.int .u8 (s.e / 65536 % 256))) 18 (.int .u8 (s.e / 256 % 256))) 19 (.int .u8 (s.e % 256))
        go_roundg (8 - (4 + 1))
        case measure => decide
        case rel =>
          refine ⟨4 + 1, by decide, rfl, rfl, ?_, ?_, hres⟩
          · repeat' apply below_setCell
            all_goals first | exact HS.out.bel | omega
          · rw [Below.heap_setCell _ _ _ _ (by simp), Below.heap_setCell _ _ _ _ (by simp), Below.heap_setCell _ _ _ _ (by simp), Below.heap_setCell _ _ _ _ (by simp)]
            exact HS.out.res
      · have r0 : wr.cell? ⟨w.heap.size + 1 + 1, 20, none⟩ = some (.int .u8 0) := (hc 20).trans rfl
        have r1 : wr.cell? ⟨w.heap.size + 1 + 1, 21, none⟩ = some (.int .u8 0) := (hc 21).trans rfl
        have r2 : wr.cell? ⟨w.heap.size + 1 + 1, 22, none⟩ = some (.int .u8 0) := (hc 22).trans rfl
        have r3 : wr.cell? ⟨w.heap.size + 1 + 1, 23, none⟩ = some (.int .u8 0) := (hc 23).trans rfl
        have hX : ∀ w, (Instr.index 35 (.agg (v8 s)) (.int .i64 5)).run Tryd.prog w = .ok (.int .u32 s.f) w := by intro w; simp [Instr.index, run_underlying Tryd.underlying35, asIntOf, go_sem]
        clear hc
        go_wp2_with fail
        have hres := heap_setCell_same (heap_setCell_same (heap_setCell_same (heap_setCell_same HS.out.blk 20 (.int .u8 (s.f / 16777216 % 256))) 21 (.int .u8 (s.f / 65536 % 256))) 22 (.int .u8 (s.f / 256 % 256))) 23 (.int .u8 (s.f % 256))
        go_roundg (8 - (5 + 1))
        case measure => decide
        case rel =>
          refine ⟨5 + 1, by decide, rfl, rfl, ?_, ?_, hres⟩
          · repeat' apply below_setCell
            all_goals first | exact HS.out.bel | omega
          · rw [Below.heap_setCell _ _ _ _ (by simp), Below.heap_setCell _ _ _ _ (by simp), Below.heap_setCell _ _ _ _ (by simp), Below.heap_setCell _ _ _ _ (by simp)]
            exact HS.out.res
      · have r0 : wr.cell? ⟨w.heap.size + 1 + 1, 24, none⟩ = some (.int .u8 0) := (hc 24).trans rfl
        have r1 : wr.cell? ⟨w.heap.size + 1 + 1, 25, none⟩ = some (.int .u8 0) := (hc 25).trans rfl
        have r2 : wr.cell? ⟨w.heap.size + 1 + 1, 26, none⟩ = some (.int .u8 0) := (hc 26).trans rfl
        have r3 : wr.cell? ⟨w.heap.size + 1 + 1, 27, none⟩ = some (.int .u8 0) := (hc 27).trans rfl
        have hX : ∀ w, (Instr.index 35 (.agg (v8 s)) (.int .i64 6)).run Tryd.prog w = .ok (.int .u32 s.g) w := by intro w; simp [Instr.index, run_underlying Tryd.underlying35, asIntOf, go_sem]
        clear hc
        go_wp2_with fail
        have hres := heap_setCell_same (heap_setCell_same (heap_setCell_same (heap_setCell_same HS.out.blk 24 (.int .u8 (s.g / 16777216 % 256))) 25 (.int .u8 (s.g / 65536 % 256))) 26 (.int .u8 (s.g / 256 % 256))) 27 (.int .u8 (s.g % 256))
        go_roundg (8 - (6 + 1))
        case measure => decide
        case rel =>
          refine ⟨6 + 1, by decide, rfl, rfl, ?_, ?_, hres⟩
          · repeat' apply below_setCell
            all_goals first | exact HS.out.bel | omega
          · rw [Below.heap_setCell _ _ _ _ (by simp), Below.heap_setCell _ _ _ _ (by simp), Below.heap_setCell _ _ _ _ (by simp), Below.heap_setCell _ _ _ _ (by simp)]
            exact HS.out.res
      · have r0 : wr.cell? ⟨w.heap.size + 1 + 1, 28, none⟩ = some (.int .u8 0) := (hc 28).trans rfl
        have r1 : wr.cell? ⟨w.heap.size + 1 + 1, 29, none⟩ = some (.int .u8 0) := (hc 29).trans rfl
        have r2 : wr.cell? ⟨w.heap.size + 1 + 1, 30, none⟩ = some (.int .u8 0) := (hc 30).trans rfl
        have r3 : wr.cell? ⟨w.heap.size + 1 + 1, 31, none⟩ = some (.int .u8 0) := (hc 31).trans rfl
        have hX : ∀ w, (Instr.index 35 (.agg (v8 s)) (.int .i64 7)).run Tryd.prog w = .ok (.int .u32 s.h) w := by intro w; simp [Instr.index, run_underlying Tryd.underlying35, asIntOf, go_sem]
        clear hc
        go_wp2_with fail
        have hres := heap_setCell_same (heap_setCell_same (heap_setCell_same (heap_setCell_same HS.out.blk 28 (.int .u8 (s.h / 16777216 % 256))) 29 (.int .u8 (s.h / 65536 % 256))) 30 (.int .u8 (s.h / 256 % 256))) 31 (.int .u8 (s.h % 256))
        go_roundg (8 - (7 + 1))
        case measure => decide
        case rel =>
          refine ⟨7 + 1, by decide, rfl, rfl, ?_, ?_, hres⟩
          · repeat' apply below_setCell
            all_goals first | exact HS.out.bel | omega
          · rw [Below.heap_setCell _ _ _ _ (by simp), Below.heap_setCell _ _ _ _ (by simp), Below.heap_setCell _ _ _ _ (by simp), Below.heap_setCell _ _ _ _ (by simp)]
            exact HS.out.res
    · obtain rfl : n = 8 := by omega
      clear hnl hn
      have HPO : Hid (po s 8 = (u8s (outs s)).toArray) := hid rfl
      have HPS : Hid ((po s 8).size = 32) := hid rfl
      have HP1 : Hid ((po s 8).all (·.oneCell') = true) := hid (u8s_one _)
      have HS2 := hid HS.out.blk
      have HS3 := hid HS.out.res
      have HS4 := hid HS.out.bel
      clear HS
      generalize po s 8 = P8 at HPO HPS HP1 HS2
      have HZ : Hid ((Tryd.prog.info? 23).map (·.size) = some P8.size) := by apply hid; rw [HPS.out]; exact Tryd.size23
      go_wp2_with (first | refine wpList_load_arr _ rfl (.tmp 3) 23 rfl _ 23 _ 32 5 rfl HS2.out Tryd.underlying23 HZ.out ?_ | refine wpList_store_arr _ rfl (.tmp 2) (.tmp 38) 23 rfl rfl _ 23 (po s 0) P8 rfl rfl HS3.out HZ.out (by rw [HPS.out]; rfl) HP1.out ?_)
      refine bodyPost_ret (v := .agg P8) (results_cell Tryd.results21 rfl ?_) rfl ⟨by rw [HPO.out], below_setRow HS4.out (by omega)⟩
      exact run_loadVar_row _ _ 23 23 _ (0, 0) _ (setRow_same HS3.out) Tryd.underlying23 rfl HZ.out
end Go.Proofs.YtkeppcpplkdkaaaDoor
