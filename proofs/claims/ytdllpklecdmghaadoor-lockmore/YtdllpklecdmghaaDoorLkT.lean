/- What the reading of a lock does: locks without parts. -/
import Derived.Test.YtdllpklecdmghaaDoorLkS
namespace Go.Proofs.YtdllpklecdmghaaDoor
open Go.RowKit
open Lk (Lt)

/-- the reader within a lock of a kind: its variables, its result and its lock so far -/
structure Wb (pb tb rb lb p : Nat) (s : Bs) (k : Nat) (w W : World) : Prop where
  rs : Rs pb tb rb p s W
  fq : Fq pb tb w W
  res : W.heap[w.heap.size]? = some (.cells #[.int .u8 0, .string ⟨#[]⟩, .int .i64 0, .slice none 0 0] 26 (0, 0))
  box : W.heap[lb]? = some (.cells #[.int .u8 (k : Int), .string ⟨#[]⟩, .int .i64 0, .slice none 0 0] 26 (0, 0))
  old : pb < w.heap.size ∧ tb < w.heap.size ∧ rb < w.heap.size ∧ w.heap.size < lb
theorem wb_of {pb tb rb p : Nat} {s r : Bs} {w w2 : World} (h : Rs pb tb rb p s w) (hf : Fr (rw1 w pb p) tb r w2) (k : Nat) : Wb pb tb rb w2.heap.size (p + 1) r k w (w2.alloc (.cells #[.int .u8 (k : Int), .string ⟨#[]⟩, .int .i64 0, .slice none 0 0] 26)) := by
  obtain ⟨h1, h2, h3, h4⟩ := rw1_rs h
  have hp := lt_of_heap h.pc
  have ht := lt_of_heap h.tc
  have hr := lt_of_heap h.rc
  have hsz : w2.heap.size = w.heap.size + 1 := hf.size.trans h4
  have hB := below_al w2 (.cells #[.int .u8 (k : Int), .string ⟨#[]⟩, .int .i64 0, .slice none 0 0] 26)
  have hn := heap_alloc_new w2 (.cells #[.int .u8 (k : Int), .string ⟨#[]⟩, .int .i64 0, .slice none 0 0] 26)
  refine ⟨⟨?_, ?_, ?_, h.pt, h.pr, h.tr⟩, ⟨fun g a b c => ?_, ?_, hf.os.trans h2.os, hf.tape.trans h2.tape, hf.out.trans h2.out⟩, ?_, hn, hp, ht, hr, by omega⟩
  · rw [hB.block _ (by omega), hf.els _ h.pt]; exact h1.pc
  · rw [hB.block _ (by omega)]; exact hf.txt
  · rw [hB.block _ (by omega), hf.els _ (Ne.symm h.tr)]; exact h1.rc
  · rw [hB.block _ (by omega), hf.els _ c]; exact h2.els g a b c
  · have := hB.size; omega
  · rw [hB.block _ (by omega), hf.els _ (by omega)]; exact h3
theorem Wb.fg {pb tb rb lb p k : Nat} {s r : Bs} {w W W' : World} (h : Wb pb tb rb lb p s k w W) (hf : Fg W tb r W') : Wb pb tb rb lb p r k w W' := by
  have hp := lt_of_heap h.rs.pc
  have hr := lt_of_heap h.rs.rc
  have hx := lt_of_heap h.res
  have hb := lt_of_heap h.box
  have ho := h.old
  refine ⟨⟨?_, hf.txt, ?_, h.rs.pt, h.rs.pr, h.rs.tr⟩, ⟨fun g a b c => ?_, Nat.le_trans h.fq.size hf.size, hf.os.trans h.fq.os, hf.tape.trans h.fq.tape, hf.out.trans h.fq.out⟩, ?_, ?_, h.old⟩
  · rw [hf.els _ hp h.rs.pt]; exact h.rs.pc
  · rw [hf.els _ hr (Ne.symm h.rs.tr)]; exact h.rs.rc
  · rw [hf.els g (Nat.lt_of_lt_of_le a h.fq.size) c]; exact h.fq.els g a b c
  · rw [hf.els _ hx (by omega)]; exact h.res
  · rw [hf.els _ hb (by omega)]; exact h.box
theorem fg_below {w w' : World} {tb : Nat} {s : Bs} (h : w.heap[tb]? = some (.cells #[St s] 55 (0, 0))) (hB : Below w.heap.size w w') : Fg w tb s w' := ⟨(hB.block _ (lt_of_heap h)).trans h, fun g a _ => hB.block g a, hB.size, hB.os, hB.tape, hB.output⟩
theorem fg_fr {w w' : World} {tb : Nat} {s : Bs} (h : Fr w tb s w') : Fg w tb s w' := ⟨h.txt, fun g _ b => h.els g b, by rw [h.size]; exact Nat.le_refl _, h.os, h.tape, h.out⟩
theorem Wb.cells {pb tb rb lb p k : Nat} {s : Bs} {w W : World} (h : Wb pb tb rb lb p s k w W) : (W.cell? ⟨w.heap.size, 0, none⟩ = some (.int .u8 0) ∧ W.cell? ⟨w.heap.size, 1, none⟩ = some (.string ⟨#[]⟩) ∧ W.cell? ⟨w.heap.size, 2, none⟩ = some (.int .i64 0) ∧ W.cell? ⟨w.heap.size, 3, none⟩ = some (.slice none 0 0) ∧ ∀ j, W.frozen? ⟨w.heap.size, j, none⟩ = false) ∧ (W.cell? ⟨lb, 0, none⟩ = some (.int .u8 (k : Int)) ∧ W.cell? ⟨lb, 1, none⟩ = some (.string ⟨#[]⟩) ∧ W.cell? ⟨lb, 2, none⟩ = some (.int .i64 0) ∧ W.cell? ⟨lb, 3, none⟩ = some (.slice none 0 0) ∧ ∀ j, W.frozen? ⟨lb, j, none⟩ = false) :=
  ⟨⟨(cell_of_heap h.res 0).trans rfl, (cell_of_heap h.res 1).trans rfl, (cell_of_heap h.res 2).trans rfl, (cell_of_heap h.res 3).trans rfl, fun j => frozen_of_heap h.res j⟩, (cell_of_heap h.box 0).trans rfl, (cell_of_heap h.box 1).trans rfl, (cell_of_heap h.box 2).trans rfl, (cell_of_heap h.box 3).trans rfl, fun j => frozen_of_heap h.box j⟩
/-- the lock stands in the result -/
theorem Wb.told {pb tb rb lb p k : Nat} {s : Bs} {w W : World} (h : Wb pb tb rb lb p s k w W) (j : Nat) (u : Value) (v0 v1 v2 v3 : Value) : (setL (W.setCell ⟨lb, j, none⟩ u) w.heap.size 0 v0 v1 v2 v3).heap[w.heap.size]? = some (.cells #[v0, v1, v2, v3] 26 (0, 0)) ∧ Rs pb tb rb p s (setL (W.setCell ⟨lb, j, none⟩ u) w.heap.size 0 v0 v1 v2 v3) ∧ Fq pb tb w (setL (W.setCell ⟨lb, j, none⟩ u) w.heap.size 0 v0 v1 v2 v3) := by
  have ho := h.old
  have hs1 : ∀ g, g ≠ lb → (W.setCell ⟨lb, j, none⟩ u).heap[g]? = W.heap[g]? := fun g hg => Below.heap_setCell _ _ _ _ hg
  have hrs : Rs pb tb rb p s (W.setCell ⟨lb, j, none⟩ u) := ⟨by rw [hs1 _ (by omega)]; exact h.rs.pc, by rw [hs1 _ (by omega)]; exact h.rs.tc, by rw [hs1 _ (by omega)]; exact h.rs.rc, h.rs.pt, h.rs.pr, h.rs.tr⟩
  have hfq : Fq pb tb w (W.setCell ⟨lb, j, none⟩ u) := ⟨fun g a b c => by rw [hs1 _ (by omega)]; exact h.fq.els g a b c, by have := h.fq.size; simpa [World.setCell] using this, h.fq.os, h.fq.tape, h.fq.out⟩
  refine ⟨?_, rs_setL hfq.size hrs (by omega) (by omega) (by omega) (Nat.le_refl _) hfq 0 v0 v1 v2 v3⟩
  have h1 : (W.setCell ⟨lb, j, none⟩ u).heap[w.heap.size]? = some (.cells #[.int .u8 0, .string ⟨#[]⟩, .int .i64 0, .slice none 0 0] 26 (0, 0)) := by rw [hs1 _ (by omega)]; exact h.res
  exact setL_same h1 0 v0 v1 v2 v3
theorem Wb.told0 {pb tb rb lb p k : Nat} {s : Bs} {w W : World} (h : Wb pb tb rb lb p s k w W) (v0 v1 v2 v3 : Value) : (setL W w.heap.size 0 v0 v1 v2 v3).heap[w.heap.size]? = some (.cells #[v0, v1, v2, v3] 26 (0, 0)) ∧ Rs pb tb rb p s (setL W w.heap.size 0 v0 v1 v2 v3) ∧ Fq pb tb w (setL W w.heap.size 0 v0 v1 v2 v3) := by
  have ho := h.old
  exact ⟨setL_same h.res 0 v0 v1 v2 v3, rs_setL h.fq.size h.rs (by omega) (by omega) (by omega) (Nat.le_refl _) h.fq 0 v0 v1 v2 v3⟩
set_option maxHeartbeats 8000000 in
theorem read_term {pb tb rb p : Nat} {s : Bs} {w : World} (h : Rs pb tb rb p s w) (hp : p < 64) (hs : s.length ≤ 140737488355328) (d k : Nat) (hk : k = Sc.kindOf (s.headD 0)) (h12 : k = 1 ∨ k = 2) : Calls Tryd.prog 32 #[.pointer (some ⟨pb, 0, none⟩), .pointer (some ⟨tb, 0, none⟩), .pointer (some ⟨rb, 0, none⟩)] w (RdE pb tb rb d w (.mk k (Sc.piece (s.drop 1)) 0 [], (s.drop 1).drop (Sc.piece (s.drop 1)).length, p + 1)) := by
  have hpl := lt_of_heap h.pc
  have c0 : w.cell? ⟨pb, 0, none⟩ = some (.int .i64 (p : Int)) := (cell_of_heap h.pc 0).trans rfl
  have f0 : w.frozen? ⟨pb, 0, none⟩ = false := frozen_of_heap h.pc 0
  obtain ⟨a1, a2⟩ := pA (p := p) (by omega)
  have hgt : ¬ (64 : Int) < ((p + 1 : Nat) : Int) := by omega
  have hne : ¬ pb = w.heap.size := by omega
  have HLT : Hid (Calls Tryd.prog 34 #[.pointer (some ⟨tb, 0, none⟩)] (rw1 w pb p) fun e w' => e = .returned (.int .u8 ((s.headD 0).toNat : Int)) ∧ Fr (rw1 w pb p) tb (s.drop 1) w') := hid (letter_fr (Fr.refl (rw1_rs h).1.tc))
  have HKD : Hid (∀ W, Calls Tryd.prog 33 #[.int .u8 ((s.headD 0).toNat : Int)] W fun e w' => e = .returned (.int .u8 (k : Int)) ∧ w' = W) := hid (fun W => by rw [hk]; exact kind_any _ W)
  have HRS := hid h
  have HSL : Hid ((s.drop 1).length ≤ 140737488355328) := hid (by rw [List.length_drop]; omega)
  clear h hp hs hk
  generalize s.drop 1 = s1 at *
  generalize s.headD 0 = c at *
  go_enter Tryd.func32, Tryd.ntmps32
  go_wp2_with fail
  refine HLT.out.mono ?_
  rintro e w2 ⟨rfl, hf2⟩
  have HF2 := hid hf2
  clear hf2 HLT c0 f0
  go_wp2_with fail
  refine (HKD.out _).mono ?_
  rintro e w3 ⟨rfl, rfl⟩
  have HWB := hid (wb_of HRS.out HF2.out k)
  obtain ⟨lb, hlb⟩ : ∃ lb, lb = w3.heap.size := ⟨_, rfl⟩
  obtain ⟨W, hW⟩ : ∃ W, W = w3.alloc (.cells #[.int .u8 (k : Int), .string ⟨#[]⟩, .int .i64 0, .slice none 0 0] 26) := ⟨_, rfl⟩
  rw [← hlb, ← hW] at HWB
  have HTM := hid (term_any HWB.out.rs.tc HSL.out)
  have HPL := hid (piece_len s1)
  clear HKD HF2 HRS a1 a2 hgt hne hpl
  have hk1 : (k : Int) = 1 ∨ (k : Int) = 2 := by omega
  clear h12
  generalize Sc.piece s1 = P at *
  rcases hk1 with hk1 | hk1
  all_goals
    rw [hk1] at hW
    go_wp2_with fail
    rw [← hlb, ← hW]
    clear hlb hW
    refine HTM.out.mono ?_
    rintro e w4 ⟨rfl, hf4⟩
    have HW4 := hid (HWB.out.fg hf4)
    clear hf4 HTM HWB
    go_wp2_with fail
    refine (freshT_any P w4 (by have := HPL.out.2; omega)).mono ?_
    rintro e w5 ⟨rfl, hb5⟩
    have HW5 := hid (HW4.out.fg (fg_below HW4.out.rs.tc hb5))
    clear hb5 HW4
    obtain ⟨⟨q0, q1, q2, q3, qf⟩, r0, r1, r2, r3, rf⟩ := HW5.out.cells
    have hln : ¬ lb = w.heap.size := by have := HW5.out.old; omega
    go_wp2_with fail
    have HT := HW5.out.told 1 (St P) (.int .u8 (k : Int)) (St P) (.int .i64 0) (.slice none 0 0)
    have HL : lcs (.mk k P 0 []) (.slice none 0 0) = #[.int .u8 (k : Int), St P, .int .i64 0, .slice none 0 0] := rfl
    rw [hk1] at HT HL
    refine bodyPost_ret (v := .agg #[.int .u8 _, St P, .int .i64 0, .slice none 0 0]) (ret_lock Tryd.results32 rfl HT.1) rfl ⟨.slice none 0 0, ?_, Kd.nil _ _ _, HT.2.1, HT.2.2⟩
    show _ = Ending.returned (.agg (lcs (.mk k P 0 []) (.slice none 0 0)))
    rw [HL]
end Go.Proofs.YtdllpklecdmghaaDoor
