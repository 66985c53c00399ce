/- A block is taken in, as the program does it. -/
import Derived.Test.YtkeppcpplkdkaaaDoorSpread
namespace Go.Proofs.YtkeppcpplkdkaaaDoor
open Go.RowKit

/-- eight words as a value -/
abbrev v8 (s : S8) : Array Value := #[.int .u32 s.a, .int .u32 s.b, .int .u32 s.c, .int .u32 s.d, .int .u32 s.e, .int .u32 s.f, .int .u32 s.g, .int .u32 s.h]

theorem below_setCell {w0 w : World} {g o : Nat} {v : Value} (h : Below w0.heap.size w0 w) (hg : w0.heap.size ≤ g) : Below w0.heap.size w0 (w.setCell ⟨g, o, none⟩ v) :=
  ⟨h.os, h.tape, h.output, by simpa [World.setCell] using h.size, fun k hk => by rw [Below.heap_setCell _ _ _ _ (by show k ≠ g; omega)]; exact h.block k hk⟩
theorem Tryd.size35 : (Tryd.prog.info? 35).map (·.size) = some 8 := by kernel_rfl

/-- the program's constants lie there -/
def KC (w : World) : Prop := 0 < w.heap.size ∧ ∀ i, i < 64 → w.cell? ⟨0, i, none⟩ = some (.int .u32 (kc.getD i 0))
theorem KC.below {w w' : World} (h : KC w) (hb : Below w.heap.size w w') : KC w' := ⟨Nat.lt_of_lt_of_le h.1 hb.size, fun i hi => (hb.cell (p := ⟨0, i, none⟩) h.1).trans (h.2 i hi)⟩

set_option maxHeartbeats 4000000 in
set_option maxRecDepth 100000 in
theorem takeIn_any (s : S8) (b : Bs) (w : World) (bb bo bc : Nat) (hb : At w bb bo b) (hl : b.length = 64) (hbc : 64 ≤ bc) (hkc : KC w) : Calls Tryd.prog 20 #[.agg (v8 s), .slice (some ⟨bb, bo, none⟩) 64 bc] w fun en w' =>
    en = .returned (.agg (v8 (tk s b))) ∧ Below w.heap.size w w' := by
  have HB := hid hb
  have HKC := hid hkc
  clear hb hkc
  go_enter Tryd.func20, Tryd.ntmps20
  go_wp2_with fail
  have h8 := eight_of_heap (x0 := s.a) (x1 := s.b) (x2 := s.c) (x3 := s.d) (x4 := s.e) (x5 := s.f) (x6 := s.g) (x7 := s.h) (heap_alloc_new w (.cells (v8 s) 35))
  have hA := below_alloc_self' w (.cells (v8 s) 35)
  have sA : (w.alloc (.cells (v8 s) 35)).heap.size = w.heap.size + 1 := by simp
  change Calls _ _ _ (World.alloc (World.alloc w (.cells (v8 s) 35)) (.cells (v8 ⟨0, 0, 0, 0, 0, 0, 0, 0⟩) 35)) _
  generalize World.alloc w (.cells (v8 s) 35) = A at h8 hA sA ⊢
  have hR := heap_alloc_new A (.cells (v8 ⟨0, 0, 0, 0, 0, 0, 0, 0⟩) 35)
  have hA2 := below_alloc_self' A (.cells (v8 ⟨0, 0, 0, 0, 0, 0, 0, 0⟩) 35)
  have h8' := h8.below hA2
  generalize World.alloc A (.cells (v8 ⟨0, 0, 0, 0, 0, 0, 0, 0⟩) 35) = A2 at hR hA2 h8' ⊢
  rw [sA] at hR
  have hB2 : Below w.heap.size w A2 := hA.trans (hA2.mono (by omega))
  have HB2 := hid hB2
  have HR := hid hR
  have H8 := hid h8'
  clear h8 hA sA hR hA2 h8' hB2
  refine (spread_any b _ bb bo bc (HB.out.below (HB2.out.mono ?_)) hl hbc).mono ?_
  · exact Nat.le_refl _
  rintro e w1 ⟨rfl, hb1⟩
  have HPG : Hid (∀ i, i < 64 → (pad (ws b 64))[i]? = some (.int .u32 ((ws b 64).getD i 0))) := by apply hid; intro i hi; exact pad_get (by rw [ws_len]; exact hi)
  have HPS : Hid ((pad (ws b 64)).size = 64) := by apply hid; exact pad_size _ (by rw [ws_len]; omega)
  have HTK : Hid (tk s b = addS s (rds (ws b 64) s 64)) := hid rfl
  have HP1 : Hid ((pad (ws b 64)).all (·.oneCell') = true) := hid (pad_one _)
  generalize pad (ws b 64) = P64 at HPG HPS HP1 ⊢
  generalize ws b 64 = W64 at HPG HTK
  have HB1 := hid (HB2.out.trans (hb1.mono HB2.out.size))
  have H81 := hid (H8.out.below hb1)
  have HR1 : Hid (w1.heap[w.heap.size + 1]? = some (.cells (v8 ⟨0, 0, 0, 0, 0, 0, 0, 0⟩) 35 (0, 0))) := hid ((hb1.block _ (lt_of_block HR.out)).trans HR.out)
  clear hb1 HB2 H8 HR
  have HE := hid (H81.out.below (below_alloc_self' w1 (.cells P64 53)))
  have HZ : Hid ((Tryd.prog.info? 53).map (·.size) = some P64.size) := by apply hid; rw [HPS.out]; exact Tryd.size53
  obtain ⟨_, d0, d1, d2, d3, d4, d5, d6, d7⟩ := HE.out
  go_wp2_with (refine wpList_store_arr _ rfl (.tmp 5) (.tmp 18) 53 rfl rfl w1.heap.size 53 _ P64 rfl rfl (heap_alloc_new w1 _) HZ.out (by rw [HPS.out]; rfl) HP1.out ?_; rw [World.setRow_alloc_new])
  have HPC : Hid (∀ i, i < 64 → (w1.alloc (.cells P64 53)).cell? ⟨w1.heap.size, i, none⟩ = some (.int .u32 (W64.getD i 0))) := by
    apply hid; intro i hi; rw [cell_of_heap (heap_alloc_new w1 (.cells P64 53))]; exact HPG.out i hi
  have HBW : Hid (Below w.heap.size w (w1.alloc (.cells P64 53))) := hid (HB1.out.alloc HB1.out.size _)
  have HRW : Hid ((w1.alloc (.cells P64 53)).heap[w.heap.size + 1]? = some (.cells (v8 ⟨0, 0, 0, 0, 0, 0, 0, 0⟩) 35 (0, 0))) := by
    apply hid; rw [Below.heap_alloc _ _ _ (lt_of_block HR1.out)]; exact HR1.out
  generalize World.alloc w1 (.cells P64 53) = w2 at HPC HBW HRW HE d0 d1 d2 d3 d4 d5 d6 d7 ⊢
  clear HR1 HB1 H81 HZ HPG HPS HP1
  go_quiet (fail)
  go_wp2_with fail
  go_quiet (fail)
  go_wp2_with fail
  go_loopg [6, 7, 8, 9, 10, 11, 12, 13, 35] 64 (fun gg va vb vc vd ve vf vg vh vt wr => ∃ n : Nat, ∃ a1 b1 c1 e1 f1 g1 h1 i1 : Int, n ≤ 64 ∧ gg = 64 - n ∧ vt = .int .i64 (n : Int) ∧ va = .int .u32 a1 ∧ vb = .int .u32 b1 ∧ vc = .int .u32 c1 ∧ vd = .int .u32 e1 ∧ ve = .int .u32 f1 ∧ vf = .int .u32 g1 ∧ vg = .int .u32 h1 ∧ vh = .int .u32 i1 ∧ (⟨a1, b1, c1, e1, f1, g1, h1, i1⟩ : S8) = rds W64 s n ∧ ∃ m, wr = w2.drewN m)
  case atStart => exact ⟨0, _, _, _, _, _, _, _, _, by omega, rfl, rfl, rfl, rfl, rfl, rfl, rfl, rfl, rfl, rfl, rfl, drew2 ⟨_, rfl⟩ _⟩
  case round =>
    obtain ⟨n, a1, b1, c1, e1, f1, g1, h1, i1, hn, rfl, rfl, rfl, rfl, rfl, rfl, rfl, rfl, rfl, rfl, hst, hS⟩ := hrel
    have HS := hid hS
    have HST := hid hst
    clear hS hst
    by_cases hnl : n < 64
    · have hn' : (n : Int) < 64 := by omega
      have k0 : wr.cell? ⟨0, n, none⟩ = some (.int .u32 (kc.getD n 0)) := by obtain ⟨m, rfl⟩ := HS.out; exact (HKC.out.below HBW.out).2 n hnl
      have k1 : wr.cell? ⟨w1.heap.size, n, none⟩ = some (.int .u32 (W64.getD n 0)) := by obtain ⟨m, rfl⟩ := HS.out; exact HPC.out n hnl
      have HMS : Hid (64 - (n + 1) < 64 - n) := by apply hid; omega
      have HN1 : Hid (n + 1 ≤ 64) := by apply hid; omega
      have HIV : Hid ((.int .i64 ((n : Int) + 1) : Value) = .int .i64 ((n + 1 : Nat) : Int)) := by apply hid; simp
      have HRD : Hid (rds W64 s (n + 1) = rnd (kc.getD n 0) (W64.getD n 0) ⟨a1, b1, c1, e1, f1, g1, h1, i1⟩) := by apply hid; rw [rds, HST.out]
      generalize kc.getD n 0 = kk0 at k0 HRD
      generalize W64.getD n 0 = ww0 at k1 HRD
      clear hnl hn HST
      go_wp2_with fail
      go_quiet (first | (go_at_call 27; exact Calls.quiet_of (turn_int _ _ _ (by decide) (by decide))))
      go_wp2_with fail
      obtain ⟨x0, hx0⟩ : ∃ x0, x0 = xr kk0 ww0 f1 g1 h1 i1 := ⟨_, rfl⟩
      have HX0 := hid hx0
      unfold xr at hx0
      rw [← hx0]
      clear hx0
      refine (turn_int _ _ _ (by decide) (by decide)).mono ?_
      rintro e w3 ⟨rfl, m3, rfl⟩
      go_wp2_with fail
      refine (turn_int _ _ _ (by decide) (by decide)).mono ?_
      rintro e w3 ⟨rfl, m4, rfl⟩
      go_wp2_with fail
      refine (turn_int _ _ _ (by decide) (by decide)).mono ?_
      rintro e w3 ⟨rfl, m5, rfl⟩
      go_wp2_with fail
      go_roundg (64 - (n + 1))
      case measure => exact HMS.out
      case rel =>
        refine ⟨n + 1, _, _, _, _, _, _, _, _, HN1.out, rfl, HIV.out, rfl, rfl, rfl, rfl, rfl, rfl, rfl, rfl, ?_, drew2 HS.out _⟩
        have ex := HX0.out
        subst ex
        rw [HRD.out]
        rfl
    · have hn' : ¬ (n : Int) < 64 := by omega
      obtain rfl : n = 64 := by omega
      have HE3 : Hid (Eight wr w.heap.size s) := by apply hid; obtain ⟨m, rfl⟩ := HS.out; exact HE.out.below (below_drewN (Below.refl _ _) _)
      have HBR : Hid (Below w.heap.size w wr) := by apply hid; obtain ⟨m, rfl⟩ := HS.out; exact below_drewN HBW.out _
      have HRR : Hid (wr.heap[w.heap.size + 1]? = some (.cells (v8 ⟨0, 0, 0, 0, 0, 0, 0, 0⟩) 35 (0, 0))) := by apply hid; obtain ⟨m, rfl⟩ := HS.out; exact HRW.out
      clear d0 d1 d2 d3 d4 d5 d6 d7
      obtain ⟨hlt3, d0, d1, d2, d3, d4, d5, d6, d7⟩ := HE3.out
      have HTB : Hid (tk s b = addS s ⟨a1, b1, c1, e1, f1, g1, h1, i1⟩) := by apply hid; rw [HTK.out, HST.out]
      clear hn hnl
      have r0 : wr.cell? ⟨w.heap.size + 1, 0, none⟩ = some (.int .u32 0) := by rw [cell_of_heap HRR.out]; rfl
      have r1 : wr.cell? ⟨w.heap.size + 1, 1, none⟩ = some (.int .u32 0) := by rw [cell_of_heap HRR.out]; rfl
      have r2 : wr.cell? ⟨w.heap.size + 1, 2, none⟩ = some (.int .u32 0) := by rw [cell_of_heap HRR.out]; rfl
      have r3 : wr.cell? ⟨w.heap.size + 1, 3, none⟩ = some (.int .u32 0) := by rw [cell_of_heap HRR.out]; rfl
      have r4 : wr.cell? ⟨w.heap.size + 1, 4, none⟩ = some (.int .u32 0) := by rw [cell_of_heap HRR.out]; rfl
      have r5 : wr.cell? ⟨w.heap.size + 1, 5, none⟩ = some (.int .u32 0) := by rw [cell_of_heap HRR.out]; rfl
      have r6 : wr.cell? ⟨w.heap.size + 1, 6, none⟩ = some (.int .u32 0) := by rw [cell_of_heap HRR.out]; rfl
      have r7 : wr.cell? ⟨w.heap.size + 1, 7, none⟩ = some (.int .u32 0) := by rw [cell_of_heap HRR.out]; rfl
      have rf := fun o => frozen_of_heap HRR.out o
      go_wp2_with fail
      have hres := heap_setCell_same (heap_setCell_same (heap_setCell_same (heap_setCell_same (heap_setCell_same (heap_setCell_same (heap_setCell_same (heap_setCell_same HRR.out 0 (.int .u32 ((s.a + a1) % 4294967296))) 1 (.int .u32 ((s.b + b1) % 4294967296))) 2 (.int .u32 ((s.c + c1) % 4294967296))) 3 (.int .u32 ((s.d + e1) % 4294967296))) 4 (.int .u32 ((s.e + f1) % 4294967296))) 5 (.int .u32 ((s.f + g1) % 4294967296))) 6 (.int .u32 ((s.g + h1) % 4294967296))) 7 (.int .u32 ((s.h + i1) % 4294967296))
      have hbel : Below w.heap.size w (World.setCell (World.setCell (World.setCell (World.setCell (World.setCell (World.setCell (World.setCell (World.setCell wr ⟨w.heap.size + 1, 0, none⟩ (.int .u32 ((s.a + a1) % 4294967296))) ⟨w.heap.size + 1, 1, none⟩ (.int .u32 ((s.b + b1) % 4294967296))) ⟨w.heap.size + 1, 2, none⟩ (.int .u32 ((s.c + c1) % 4294967296))) ⟨w.heap.size + 1, 3, none⟩ (.int .u32 ((s.d + e1) % 4294967296))) ⟨w.heap.size + 1, 4, none⟩ (.int .u32 ((s.e + f1) % 4294967296))) ⟨w.heap.size + 1, 5, none⟩ (.int .u32 ((s.f + g1) % 4294967296))) ⟨w.heap.size + 1, 6, none⟩ (.int .u32 ((s.g + h1) % 4294967296))) ⟨w.heap.size + 1, 7, none⟩ (.int .u32 ((s.h + i1) % 4294967296))) := by
        repeat' apply below_setCell
        all_goals first | exact HBR.out | exact Nat.le_succ _
      refine bodyPost_ret (v := .agg (v8 (tk s b))) (results_cell Tryd.results20 rfl ?_) rfl ⟨rfl, hbel⟩
      rw [HTB.out]
      exact run_loadVar_row _ _ 35 35 _ (0, 0) _ hres Tryd.underlying35 rfl Tryd.size35
end Go.Proofs.YtkeppcpplkdkaaaDoor
