import Derived.Test.YtdllpklecdmghaaGreatDoorScnAll
import Derived.Test.YtdllpklecdmghaaGreatDoorLkEAll
import Derived.Test.YtdllpklecdmghaaGreatDoorScAll
/- What the reading of a lock does. -/
namespace Go.Proofs.YtdllpklecdmghaaGreatDoor
open Go.RowKit
open Lk (Lt)
abbrev rfn (pb tb rb : Nat) : Value := .func (.func 40) #[] #[.pointer (some ⟨pb, 0, none⟩), .pointer (some ⟨tb, 0, none⟩), .pointer (some ⟨rb, 0, none⟩)]
theorem eg30 : ∀ args w, (callFunc 40 args).run Tryz.prog w = .ok (.enter 40 args) w := Go.Proofs.enters_of Tryz.func40 (by kernel_rfl) rfl
structure Rs (pb tb rb p : Nat) (s : Bs) (w : World) : Prop where
  pc : w.heap[pb]? = some (.cells #[.int .i64 (p : Int)] 3 (0, 0))
  tc : w.heap[tb]? = some (.cells #[St s] 56 (0, 0))
  rc : w.heap[rb]? = some (.cells #[rfn pb tb rb] 57 (0, 0))
  pt : pb ≠ tb
  pr : pb ≠ rb
  tr : tb ≠ rb
structure Fq (pb tb : Nat) (w w' : World) : Prop where
  els : ∀ g, g < w.heap.size → g ≠ pb → g ≠ tb → w'.heap[g]? = w.heap[g]?
  size : w.heap.size ≤ w'.heap.size
  os : w'.os = w.os
  tape : w'.tape = w.tape
  out : w'.output = w.output
theorem Fq.refl (pb tb : Nat) (w : World) : Fq pb tb w w := ⟨fun _ _ _ _ => rfl, Nat.le_refl _, rfl, rfl, rfl⟩
theorem Fq.trans {pb tb : Nat} {w w1 w2 : World} (h : Fq pb tb w w1) (h2 : Fq pb tb w1 w2) : Fq pb tb w w2 :=
  ⟨fun g a b c => (h2.els g (Nat.lt_of_lt_of_le a h.size) b c).trans (h.els g a b c), Nat.le_trans h.size h2.size, h2.os.trans h.os, h2.tape.trans h.tape, h2.out.trans h.out⟩
theorem Fq.below {pb tb : Nat} {w w' : World} (h : Below w.heap.size w w') : Fq pb tb w w' := ⟨fun g a _ _ => h.block g a, h.size, h.os, h.tape, h.output⟩
def RdE (pb tb rb d : Nat) (w : World) (R : Lt × Bs × Nat) (e : Ending) (w' : World) : Prop := ∃ kv, e = .returned (.agg (lcs R.1 kv)) ∧ Kd (fun g => w.heap.size ≤ g ∧ g < w'.heap.size) w' d kv R.1.kids ∧ Rs pb tb rb R.2.2 R.2.1 w' ∧ Fq pb tb w w'
theorem pA {p : Nat} (h : p ≤ 1000000) : IntKind.i64.wrap ((p : Int) + 1) = ((p + 1 : Nat) : Int) ∧ wrap64 ((p : Int) + 1) = ((p + 1 : Nat) : Int) := ⟨by rw [IntKind.wrap_i64]; omega, wrap_nat (by omega) (by omega)⟩
abbrev rw1 (w : World) (pb p : Nat) : World := (w.setCell ⟨pb, 0, none⟩ (.int .i64 ((p : Int) + 1))).alloc (.cells #[.int .u8 0, .string ⟨#[]⟩, .int .i64 0, .slice none 0 0] 25)
theorem rw1_rs {pb tb rb p : Nat} {s : Bs} {w : World} (h : Rs pb tb rb p s w) : Rs pb tb rb (p + 1) s (rw1 w pb p) ∧ Fq pb tb w (rw1 w pb p) ∧ (rw1 w pb p).heap[w.heap.size]? = some (.cells #[.int .u8 0, .string ⟨#[]⟩, .int .i64 0, .slice none 0 0] 25 (0, 0)) ∧ (rw1 w pb p).heap.size = w.heap.size + 1 := by
  have hp := lt_of_heap h.pc
  have ht := lt_of_heap h.tc
  have hr := lt_of_heap h.rc
  have hsz : (w.setCell ⟨pb, 0, none⟩ (.int .i64 ((p : Int) + 1))).heap.size = w.heap.size := by simp [World.setCell]
  have hB := below_al (w.setCell ⟨pb, 0, none⟩ (.int .i64 ((p : Int) + 1))) (.cells #[.int .u8 0, .string ⟨#[]⟩, .int .i64 0, .slice none 0 0] 25)
  rw [hsz] at hB
  refine ⟨⟨?_, ?_, ?_, h.pt, h.pr, h.tr⟩, ⟨fun g a b c => ?_, ?_, rfl, rfl, rfl⟩, ?_, ?_⟩
  · rw [hB.block _ hp, heap_setCell_same h.pc 0]
    rfl
  · rw [hB.block _ ht, Below.heap_setCell _ _ _ _ (Ne.symm h.pt)]
    exact h.tc
  · rw [hB.block _ hr, Below.heap_setCell _ _ _ _ (Ne.symm h.pr)]
    exact h.rc
  · rw [hB.block _ a, Below.heap_setCell _ _ _ _ b]
  · have := hB.size
    rw [hsz] at this
    exact this
  · have h1 := heap_alloc_new (w.setCell ⟨pb, 0, none⟩ (.int .i64 ((p : Int) + 1))) (.cells #[.int .u8 0, .string ⟨#[]⟩, .int .i64 0, .slice none 0 0] 25)
    rw [hsz] at h1
    exact h1
  · rw [heap_alloc_size, hsz]
theorem rs_setL {pb tb rb p : Nat} {s : Bs} {w W : World} (hw : w.heap.size ≤ W.heap.size) (h : Rs pb tb rb p s W) {r : Nat} (hr1 : r ≠ pb) (hr2 : r ≠ tb) (hr3 : r ≠ rb) (hrw : w.heap.size ≤ r) (hf : Fq pb tb w W) (o : Nat) (v0 v1 v2 v3 : Value) : Rs pb tb rb p s (setL W r o v0 v1 v2 v3) ∧ Fq pb tb w (setL W r o v0 v1 v2 v3) := by
  refine ⟨⟨?_, ?_, ?_, h.pt, h.pr, h.tr⟩, ⟨fun g a b c => ?_, ?_, hf.os, hf.tape, hf.out⟩⟩
  · rw [setL_other _ _ _ _ _ _ _ (Ne.symm hr1)]; exact h.pc
  · rw [setL_other _ _ _ _ _ _ _ (Ne.symm hr2)]; exact h.tc
  · rw [setL_other _ _ _ _ _ _ _ (Ne.symm hr3)]; exact h.rc
  · rw [setL_other _ _ _ _ _ _ _ (by omega)]; exact hf.els g a b c
  · have : (setL W r o v0 v1 v2 v3).heap.size = W.heap.size := by simp [setL, World.setCell]
    omega
set_option maxHeartbeats 8000000 in
theorem read_far {pb tb rb p : Nat} {s : Bs} {w : World} (h : Rs pb tb rb p s w) (hp : 64 ≤ p) (hp2 : p ≤ 1000000) (d : Nat) : Calls Tryz.prog 40 #[.pointer (some ⟨pb, 0, none⟩), .pointer (some ⟨tb, 0, none⟩), .pointer (some ⟨rb, 0, none⟩)] w (RdE pb tb rb d w (.zero, s, p + 1)) := by
  have hpl := lt_of_heap h.pc
  have htl := lt_of_heap h.tc
  have hrl := lt_of_heap h.rc
  have c0 : w.cell? ⟨pb, 0, none⟩ = some (.int .i64 (p : Int)) := (cell_of_heap h.pc 0).trans rfl
  have f0 : w.frozen? ⟨pb, 0, none⟩ = false := frozen_of_heap h.pc 0
  obtain ⟨a1, a2⟩ := pA hp2
  have hgt : (64 : Int) < ((p + 1 : Nat) : Int) := by omega
  have hne : ¬ pb = w.heap.size := by omega
  have HRS := hid (rw1_rs h)
  have HNE : Hid (w.heap.size ≠ pb ∧ w.heap.size ≠ tb ∧ w.heap.size ≠ rb) := hid ⟨by omega, by omega, by omega⟩
  clear h hp hp2 htl hrl
  go_enter Tryz.func40, Tryz.ntmps40
  go_wp2_with fail
  refine bodyPost_ret (v := .agg #[.int .u8 0, .string ⟨#[]⟩, .int .i64 0, .slice none 0 0]) (ret_lock Tryz.results40 rfl HRS.out.2.2.1) rfl ⟨.slice none 0 0, rfl, Kd.nil _ _ _, HRS.out.1, HRS.out.2.1⟩
end Go.Proofs.YtdllpklecdmghaaGreatDoor
/- What the reading of a lock does: locks without parts. -/
namespace Go.Proofs.YtdllpklecdmghaaGreatDoor
open Go.RowKit
open Lk (Lt)
structure Wb (pb tb rb lb p : Nat) (s : Bs) (k : Nat) (w W : World) : Prop where
  rs : Rs pb tb rb p s W
  fq : Fq pb tb w W
  res : W.heap[w.heap.size]? = some (.cells #[.int .u8 0, .string ⟨#[]⟩, .int .i64 0, .slice none 0 0] 25 (0, 0))
  box : W.heap[lb]? = some (.cells #[.int .u8 (k : Int), .string ⟨#[]⟩, .int .i64 0, .slice none 0 0] 25 (0, 0))
  old : pb < w.heap.size ∧ tb < w.heap.size ∧ rb < w.heap.size ∧ w.heap.size < lb
theorem wb_of {pb tb rb p : Nat} {s r : Bs} {w w2 : World} (h : Rs pb tb rb p s w) (hf : Fr (rw1 w pb p) tb r w2) (k : Nat) : Wb pb tb rb w2.heap.size (p + 1) r k w (w2.alloc (.cells #[.int .u8 (k : Int), .string ⟨#[]⟩, .int .i64 0, .slice none 0 0] 25)) := by
  obtain ⟨h1, h2, h3, h4⟩ := rw1_rs h
  have hp := lt_of_heap h.pc
  have ht := lt_of_heap h.tc
  have hr := lt_of_heap h.rc
  have hsz : w2.heap.size = w.heap.size + 1 := hf.size.trans h4
  have hB := below_al w2 (.cells #[.int .u8 (k : Int), .string ⟨#[]⟩, .int .i64 0, .slice none 0 0] 25)
  have hn := heap_alloc_new w2 (.cells #[.int .u8 (k : Int), .string ⟨#[]⟩, .int .i64 0, .slice none 0 0] 25)
  refine ⟨⟨?_, ?_, ?_, h.pt, h.pr, h.tr⟩, ⟨fun g a b c => ?_, ?_, hf.os.trans h2.os, hf.tape.trans h2.tape, hf.out.trans h2.out⟩, ?_, hn, hp, ht, hr, by omega⟩
  · rw [hB.block _ (by omega), hf.els _ h.pt]; exact h1.pc
  · rw [hB.block _ (by omega)]; exact hf.txt
  · rw [hB.block _ (by omega), hf.els _ (Ne.symm h.tr)]; exact h1.rc
  · rw [hB.block _ (by omega), hf.els _ c]; exact h2.els g a b c
  · have := hB.size; omega
  · rw [hB.block _ (by omega), hf.els _ (by omega)]; exact h3
theorem Wb.fg {pb tb rb lb p k : Nat} {s r : Bs} {w W W' : World} (h : Wb pb tb rb lb p s k w W) (hf : Fg W tb r W') : Wb pb tb rb lb p r k w W' := by
  have hp := lt_of_heap h.rs.pc
  have hr := lt_of_heap h.rs.rc
  have hx := lt_of_heap h.res
  have hb := lt_of_heap h.box
  have ho := h.old
  refine ⟨⟨?_, hf.txt, ?_, h.rs.pt, h.rs.pr, h.rs.tr⟩, ⟨fun g a b c => ?_, Nat.le_trans h.fq.size hf.size, hf.os.trans h.fq.os, hf.tape.trans h.fq.tape, hf.out.trans h.fq.out⟩, ?_, ?_, h.old⟩
  · rw [hf.els _ hp h.rs.pt]; exact h.rs.pc
  · rw [hf.els _ hr (Ne.symm h.rs.tr)]; exact h.rs.rc
  · rw [hf.els g (Nat.lt_of_lt_of_le a h.fq.size) c]; exact h.fq.els g a b c
  · rw [hf.els _ hx (by omega)]; exact h.res
  · rw [hf.els _ hb (by omega)]; exact h.box
theorem fg_below {w w' : World} {tb : Nat} {s : Bs} (h : w.heap[tb]? = some (.cells #[St s] 56 (0, 0))) (hB : Below w.heap.size w w') : Fg w tb s w' := ⟨(hB.block _ (lt_of_heap h)).trans h, fun g a _ => hB.block g a, hB.size, hB.os, hB.tape, hB.output⟩
theorem fg_fr {w w' : World} {tb : Nat} {s : Bs} (h : Fr w tb s w') : Fg w tb s w' := ⟨h.txt, fun g _ b => h.els g b, by rw [h.size]; exact Nat.le_refl _, h.os, h.tape, h.out⟩
theorem Wb.cells {pb tb rb lb p k : Nat} {s : Bs} {w W : World} (h : Wb pb tb rb lb p s k w W) : (W.cell? ⟨w.heap.size, 0, none⟩ = some (.int .u8 0) ∧ W.cell? ⟨w.heap.size, 1, none⟩ = some (.string ⟨#[]⟩) ∧ W.cell? ⟨w.heap.size, 2, none⟩ = some (.int .i64 0) ∧ W.cell? ⟨w.heap.size, 3, none⟩ = some (.slice none 0 0) ∧ ∀ j, W.frozen? ⟨w.heap.size, j, none⟩ = false) ∧ (W.cell? ⟨lb, 0, none⟩ = some (.int .u8 (k : Int)) ∧ W.cell? ⟨lb, 1, none⟩ = some (.string ⟨#[]⟩) ∧ W.cell? ⟨lb, 2, none⟩ = some (.int .i64 0) ∧ W.cell? ⟨lb, 3, none⟩ = some (.slice none 0 0) ∧ ∀ j, W.frozen? ⟨lb, j, none⟩ = false) :=
  ⟨⟨(cell_of_heap h.res 0).trans rfl, (cell_of_heap h.res 1).trans rfl, (cell_of_heap h.res 2).trans rfl, (cell_of_heap h.res 3).trans rfl, fun j => frozen_of_heap h.res j⟩, (cell_of_heap h.box 0).trans rfl, (cell_of_heap h.box 1).trans rfl, (cell_of_heap h.box 2).trans rfl, (cell_of_heap h.box 3).trans rfl, fun j => frozen_of_heap h.box j⟩
theorem Wb.told {pb tb rb lb p k : Nat} {s : Bs} {w W : World} (h : Wb pb tb rb lb p s k w W) (j : Nat) (u : Value) (v0 v1 v2 v3 : Value) : (setL (W.setCell ⟨lb, j, none⟩ u) w.heap.size 0 v0 v1 v2 v3).heap[w.heap.size]? = some (.cells #[v0, v1, v2, v3] 25 (0, 0)) ∧ Rs pb tb rb p s (setL (W.setCell ⟨lb, j, none⟩ u) w.heap.size 0 v0 v1 v2 v3) ∧ Fq pb tb w (setL (W.setCell ⟨lb, j, none⟩ u) w.heap.size 0 v0 v1 v2 v3) := by
  have ho := h.old
  have hs1 : ∀ g, g ≠ lb → (W.setCell ⟨lb, j, none⟩ u).heap[g]? = W.heap[g]? := fun g hg => Below.heap_setCell _ _ _ _ hg
  have hrs : Rs pb tb rb p s (W.setCell ⟨lb, j, none⟩ u) := ⟨by rw [hs1 _ (by omega)]; exact h.rs.pc, by rw [hs1 _ (by omega)]; exact h.rs.tc, by rw [hs1 _ (by omega)]; exact h.rs.rc, h.rs.pt, h.rs.pr, h.rs.tr⟩
  have hfq : Fq pb tb w (W.setCell ⟨lb, j, none⟩ u) := ⟨fun g a b c => by rw [hs1 _ (by omega)]; exact h.fq.els g a b c, by have := h.fq.size; simpa [World.setCell] using this, h.fq.os, h.fq.tape, h.fq.out⟩
  refine ⟨?_, rs_setL hfq.size hrs (by omega) (by omega) (by omega) (Nat.le_refl _) hfq 0 v0 v1 v2 v3⟩
  have h1 : (W.setCell ⟨lb, j, none⟩ u).heap[w.heap.size]? = some (.cells #[.int .u8 0, .string ⟨#[]⟩, .int .i64 0, .slice none 0 0] 25 (0, 0)) := by rw [hs1 _ (by omega)]; exact h.res
  exact setL_same h1 0 v0 v1 v2 v3
set_option maxHeartbeats 8000000 in
theorem read_term {pb tb rb p : Nat} {s : Bs} {w : World} (h : Rs pb tb rb p s w) (hp : p < 64) (hs : s.length ≤ 140737488355328) (d k : Nat) (hk : k = Sc.kindOf (s.headD 0)) (h12 : k = 1 ∨ k = 2) : Calls Tryz.prog 40 #[.pointer (some ⟨pb, 0, none⟩), .pointer (some ⟨tb, 0, none⟩), .pointer (some ⟨rb, 0, none⟩)] w (RdE pb tb rb d w (.mk k (Sc.piece (s.drop 1)) 0 [], (s.drop 1).drop (Sc.piece (s.drop 1)).length, p + 1)) := by
  have hpl := lt_of_heap h.pc
  have c0 : w.cell? ⟨pb, 0, none⟩ = some (.int .i64 (p : Int)) := (cell_of_heap h.pc 0).trans rfl
  have f0 : w.frozen? ⟨pb, 0, none⟩ = false := frozen_of_heap h.pc 0
  obtain ⟨a1, a2⟩ := pA (p := p) (by omega)
  have hgt : ¬ (64 : Int) < ((p + 1 : Nat) : Int) := by omega
  have hne : ¬ pb = w.heap.size := by omega
  have HLT : Hid (Calls Tryz.prog 42 #[.pointer (some ⟨tb, 0, none⟩)] (rw1 w pb p) fun e w' => e = .returned (.int .u8 ((s.headD 0).toNat : Int)) ∧ Fr (rw1 w pb p) tb (s.drop 1) w') := hid (letter_fr (Fr.refl (rw1_rs h).1.tc))
  have HKD : Hid (∀ W, Calls Tryz.prog 41 #[.int .u8 ((s.headD 0).toNat : Int)] W fun e w' => e = .returned (.int .u8 (k : Int)) ∧ w' = W) := hid (fun W => by rw [hk]; exact kind_any _ W)
  have HRS := hid h
  have HSL : Hid ((s.drop 1).length ≤ 140737488355328) := hid (by rw [List.length_drop]; omega)
  clear h hp hs hk
  generalize s.drop 1 = s1 at *
  generalize s.headD 0 = c at *
  go_enter Tryz.func40, Tryz.ntmps40
  go_wp2_with fail
  refine HLT.out.mono ?_
  rintro e w2 ⟨rfl, hf2⟩
  have HF2 := hid hf2
  clear hf2 HLT c0 f0
  go_wp2_with fail
  refine (HKD.out _).mono ?_
  rintro e w3 ⟨rfl, rfl⟩
  have HWB := hid (wb_of HRS.out HF2.out k)
  obtain ⟨lb, hlb⟩ : ∃ lb, lb = w3.heap.size := ⟨_, rfl⟩
  obtain ⟨W, hW⟩ : ∃ W, W = w3.alloc (.cells #[.int .u8 (k : Int), .string ⟨#[]⟩, .int .i64 0, .slice none 0 0] 25) := ⟨_, rfl⟩
  rw [← hlb, ← hW] at HWB
  have HTM := hid (term_any HWB.out.rs.tc HSL.out)
  have HPL := hid (piece_len s1)
  clear HKD HF2 HRS a1 a2 hgt hne hpl
  have hk1 : (k : Int) = 1 ∨ (k : Int) = 2 := by omega
  clear h12
  generalize Sc.piece s1 = P at *
  rcases hk1 with hk1 | hk1
  all_goals
    rw [hk1] at hW
    go_wp2_with fail
    rw [← hlb, ← hW]
    clear hlb hW
    refine HTM.out.mono ?_
    rintro e w4 ⟨rfl, hf4⟩
    have HW4 := hid (HWB.out.fg hf4)
    clear hf4 HTM HWB
    go_wp2_with fail
    refine (freshT_any P w4 (by have := HPL.out.2; omega)).mono ?_
    rintro e w5 ⟨rfl, hb5⟩
    have HW5 := hid (HW4.out.fg (fg_below HW4.out.rs.tc hb5))
    clear hb5 HW4
    obtain ⟨⟨q0, q1, q2, q3, qf⟩, r0, r1, r2, r3, rf⟩ := HW5.out.cells
    have hln : ¬ lb = w.heap.size := by have := HW5.out.old; omega
    go_wp2_with fail
    have HT := HW5.out.told 1 (St P) (.int .u8 (k : Int)) (St P) (.int .i64 0) (.slice none 0 0)
    have HL : lcs (.mk k P 0 []) (.slice none 0 0) = #[.int .u8 (k : Int), St P, .int .i64 0, .slice none 0 0] := rfl
    rw [hk1] at HT HL
    refine bodyPost_ret (v := .agg #[.int .u8 _, St P, .int .i64 0, .slice none 0 0]) (ret_lock Tryz.results40 rfl HT.1) rfl ⟨.slice none 0 0, ?_, Kd.nil _ _ _, HT.2.1, HT.2.2⟩
    show _ = Ending.returned (.agg (lcs (.mk k P 0 []) (.slice none 0 0)))
    rw [HL]
end Go.Proofs.YtdllpklecdmghaaGreatDoor
/- What the reading of a lock does: numbers, and what is none. -/
namespace Go.Proofs.YtdllpklecdmghaaGreatDoor
open Go.RowKit
open Lk (Lt)
theorem rs_low {pb tb rb p : Nat} {s : Bs} {w w' : World} (h : Rs pb tb rb p s w) (hB : Below w.heap.size w w') : Rs pb tb rb p s w' := ⟨(hB.block _ (lt_of_heap h.pc)).trans h.pc, (hB.block _ (lt_of_heap h.tc)).trans h.tc, (hB.block _ (lt_of_heap h.rc)).trans h.rc, h.pt, h.pr, h.tr⟩
theorem none_told {pb tb rb p : Nat} {s r : Bs} {w w3 : World} (h : Rs pb tb rb p s w) (hf : Fr (rw1 w pb p) tb r w3) (v0 v1 v2 v3 : Value) (o : Obj) : ((setL w3 w.heap.size 0 v0 v1 v2 v3).alloc o).heap[w.heap.size]? = some (.cells #[v0, v1, v2, v3] 25 (0, 0)) ∧ Rs pb tb rb (p + 1) r ((setL w3 w.heap.size 0 v0 v1 v2 v3).alloc o) ∧ Fq pb tb w ((setL w3 w.heap.size 0 v0 v1 v2 v3).alloc o) := by
  obtain ⟨h1, h2, h3, h4⟩ := rw1_rs h
  have hp := lt_of_heap h.pc
  have ht := lt_of_heap h.tc
  have hr := lt_of_heap h.rc
  have hz : w3.heap[w.heap.size]? = some (.cells #[.int .u8 0, .string ⟨#[]⟩, .int .i64 0, .slice none 0 0] 25 (0, 0)) := by rw [hf.els _ (by omega)]; exact h3
  have hrs : Rs pb tb rb (p + 1) r w3 := ⟨by rw [hf.els _ h.pt]; exact h1.pc, hf.txt, by rw [hf.els _ (Ne.symm h.tr)]; exact h1.rc, h.pt, h.pr, h.tr⟩
  have hfq : Fq pb tb w w3 := ⟨fun g a b c => by rw [hf.els _ c]; exact h2.els g a b c, by rw [hf.size]; exact h2.size, hf.os.trans h2.os, hf.tape.trans h2.tape, hf.out.trans h2.out⟩
  obtain ⟨a1, a2⟩ := rs_setL hfq.size hrs (r := w.heap.size) (by omega) (by omega) (by omega) (Nat.le_refl _) hfq 0 v0 v1 v2 v3
  have hB := below_al (setL w3 w.heap.size 0 v0 v1 v2 v3) o
  have hs := setL_same hz 0 v0 v1 v2 v3
  exact ⟨(hB.block _ (lt_of_heap hs)).trans hs, rs_low a1 hB, a2.trans (Fq.below hB)⟩
def numR (k p : Nat) (s : Bs) : Lt × Bs × Nat := match Sc.nm 59 1073741823 s with
  | none => (.mk k [] (-1) [], s, p + 1)
  | some (n, r) => (.mk k [] (n : Int) [], r, p + 1)
set_option maxHeartbeats 8000000 in
theorem read_num {pb tb rb p : Nat} {s : Bs} {w : World} (h : Rs pb tb rb p s w) (hp : p < 64) (hs : s.length ≤ 140737488355328) (d k : Nat) (hk : k = Sc.kindOf (s.headD 0)) (h34 : k = 3 ∨ k = 4) (R : Lt × Bs × Nat) (hR : R = numR k p (s.drop 1)) : Calls Tryz.prog 40 #[.pointer (some ⟨pb, 0, none⟩), .pointer (some ⟨tb, 0, none⟩), .pointer (some ⟨rb, 0, none⟩)] w (RdE pb tb rb d w R) := by
  have hpl := lt_of_heap h.pc
  have c0 : w.cell? ⟨pb, 0, none⟩ = some (.int .i64 (p : Int)) := (cell_of_heap h.pc 0).trans rfl
  have f0 : w.frozen? ⟨pb, 0, none⟩ = false := frozen_of_heap h.pc 0
  obtain ⟨a1, a2⟩ := pA (p := p) (by omega)
  have hgt : ¬ (64 : Int) < ((p + 1 : Nat) : Int) := by omega
  have hne : ¬ pb = w.heap.size := by omega
  have HLT : Hid (Calls Tryz.prog 42 #[.pointer (some ⟨tb, 0, none⟩)] (rw1 w pb p) fun e w' => e = .returned (.int .u8 ((s.headD 0).toNat : Int)) ∧ Fr (rw1 w pb p) tb (s.drop 1) w') := hid (letter_fr (Fr.refl (rw1_rs h).1.tc))
  have HKD : Hid (∀ W, Calls Tryz.prog 41 #[.int .u8 ((s.headD 0).toNat : Int)] W fun e w' => e = .returned (.int .u8 (k : Int)) ∧ w' = W) := hid (fun W => by rw [hk]; exact kind_any _ W)
  have HRS := hid h
  have HSL : Hid ((s.drop 1).length ≤ 140737488355328) := hid (by rw [List.length_drop]; omega)
  have HRR := hid hR
  clear hR
  clear h hp hs hk
  generalize s.drop 1 = s1 at *
  generalize s.headD 0 = c at *
  go_enter Tryz.func40, Tryz.ntmps40
  go_wp2_with fail
  refine HLT.out.mono ?_
  rintro e w2 ⟨rfl, hf2⟩
  have HF2 := hid hf2
  clear hf2 HLT c0 f0
  go_wp2_with fail
  refine (HKD.out _).mono ?_
  rintro e w3 ⟨rfl, rfl⟩
  have HWB := hid (wb_of HRS.out HF2.out k)
  obtain ⟨lb, hlb⟩ : ∃ lb, lb = w3.heap.size := ⟨_, rfl⟩
  obtain ⟨W, hW⟩ : ∃ W, W = w3.alloc (.cells #[.int .u8 (k : Int), .string ⟨#[]⟩, .int .i64 0, .slice none 0 0] 25) := ⟨_, rfl⟩
  rw [← hlb, ← hW] at HWB
  have HNM : Hid (Calls Tryz.prog 45 #[.pointer (some ⟨tb, 0, none⟩), .int .u8 59, .int .i64 1073741823] W fun en w' => match Sc.nm 59 1073741823 s1 with
      | none => en = .returned (.int .i64 (-1)) ∧ Fr W tb s1 w'
      | some (n, x) => en = .returned (.int .i64 (n : Int)) ∧ Fr W tb x w') := hid (number_fr (Fr.refl HWB.out.rs.tc) 59 (by decide) 1073741823 (by decide) HSL.out)
  clear HKD HF2 HRS a1 a2 hgt hne hpl HSL
  have hk1 : (k : Int) = 3 ∨ (k : Int) = 4 := by omega
  clear h34
  have HN2 : Hid (Calls Tryz.prog 45 #[.pointer (some ⟨tb, 0, none⟩), .int .u8 59, .int .i64 1073741823] W fun en w' => ∃ (z : Int) (x : Bs), en = .returned (.int .i64 z) ∧ Fr W tb x w' ∧ R = (.mk k [] z [], x, p + 1)) := hid (HNM.out.mono (fun en w' hn => by
    have hR2 : R = numR k p s1 := HRR.out
    unfold numR at hR2
    cases hr : Sc.nm 59 1073741823 s1 with
    | none =>
      rw [hr] at hn hR2
      exact ⟨-1, s1, hn.1, hn.2, hR2⟩
    | some q =>
      obtain ⟨n, x⟩ := q
      rw [hr] at hn hR2
      exact ⟨(n : Int), x, hn.1, hn.2, hR2⟩))
  clear HNM HRR
  rcases hk1 with hk1 | hk1
  all_goals
    rw [hk1] at hW
    go_wp2_with fail
    rw [← hlb, ← hW]
    clear hlb hW
    refine HN2.out.mono ?_
    rintro e w4 ⟨z, x, rfl, hf4, hR⟩
    have HR := hid hR
    have HW5 := hid (HWB.out.fg (fg_fr hf4))
    clear hf4 HN2 HWB hR
    obtain ⟨⟨q0, q1, q2, q3, qf⟩, r0, r1, r2, r3, rf⟩ := HW5.out.cells
    have hln : ¬ lb = w.heap.size := by have := HW5.out.old; omega
    go_wp2_with fail
    have HT := HW5.out.told 2 (.int .i64 z) (.int .u8 (k : Int)) (St []) (.int .i64 z) (.slice none 0 0)
    have HL : lcs (.mk k [] z []) (.slice none 0 0) = #[.int .u8 (k : Int), St [], .int .i64 z, .slice none 0 0] := rfl
    rw [hk1] at HT HL
    rw [HR.out]
    refine bodyPost_ret (v := .agg #[.int .u8 _, St [], .int .i64 z, .slice none 0 0]) (ret_lock Tryz.results40 rfl HT.1) rfl ⟨.slice none 0 0, ?_, Kd.nil _ _ _, HT.2.1, HT.2.2⟩
    show _ = Ending.returned (.agg (lcs (.mk k [] z []) (.slice none 0 0)))
    rw [HL]
set_option maxHeartbeats 8000000 in
theorem lkread_none {pb tb rb p : Nat} {s : Bs} {w : World} (h : Rs pb tb rb p s w) (hp : p < 64) (hs : s.length ≤ 140737488355328) (d k : Nat) (hk : k = Sc.kindOf (s.headD 0)) (h0 : k = 0) : Calls Tryz.prog 40 #[.pointer (some ⟨pb, 0, none⟩), .pointer (some ⟨tb, 0, none⟩), .pointer (some ⟨rb, 0, none⟩)] w (RdE pb tb rb d w (.mk 0 [] 0 [], s.drop 1, p + 1)) := by
  have hpl := lt_of_heap h.pc
  have c0 : w.cell? ⟨pb, 0, none⟩ = some (.int .i64 (p : Int)) := (cell_of_heap h.pc 0).trans rfl
  have f0 : w.frozen? ⟨pb, 0, none⟩ = false := frozen_of_heap h.pc 0
  obtain ⟨a1, a2⟩ := pA (p := p) (by omega)
  have hgt : ¬ (64 : Int) < ((p + 1 : Nat) : Int) := by omega
  have hne : ¬ pb = w.heap.size := by omega
  have HLT : Hid (Calls Tryz.prog 42 #[.pointer (some ⟨tb, 0, none⟩)] (rw1 w pb p) fun e w' => e = .returned (.int .u8 ((s.headD 0).toNat : Int)) ∧ Fr (rw1 w pb p) tb (s.drop 1) w') := hid (letter_fr (Fr.refl (rw1_rs h).1.tc))
  have HKD : Hid (∀ W, Calls Tryz.prog 41 #[.int .u8 ((s.headD 0).toNat : Int)] W fun e w' => e = .returned (.int .u8 (k : Int)) ∧ w' = W) := hid (fun W => by rw [hk]; exact kind_any _ W)
  have HRS := hid h
  have HSL : Hid ((s.drop 1).length ≤ 140737488355328) := hid (by rw [List.length_drop]; omega)
  clear h hp hs hk
  generalize s.drop 1 = s1 at *
  generalize s.headD 0 = c at *
  go_enter Tryz.func40, Tryz.ntmps40
  go_wp2_with fail
  refine HLT.out.mono ?_
  rintro e w2 ⟨rfl, hf2⟩
  have HF2 := hid hf2
  clear hf2 HLT c0 f0
  go_wp2_with fail
  refine (HKD.out _).mono ?_
  rintro e w3 ⟨rfl, rfl⟩
  have HWB := hid (wb_of HRS.out HF2.out k)
  obtain ⟨lb, hlb⟩ : ∃ lb, lb = w3.heap.size := ⟨_, rfl⟩
  obtain ⟨W, hW⟩ : ∃ W, W = w3.alloc (.cells #[.int .u8 (k : Int), .string ⟨#[]⟩, .int .i64 0, .slice none 0 0] 25) := ⟨_, rfl⟩
  rw [← hlb, ← hW] at HWB
  have hz : w3.heap[w.heap.size]? = some (.cells #[.int .u8 0, .string ⟨#[]⟩, .int .i64 0, .slice none 0 0] 25 (0, 0)) := by
    have ho := HWB.out.old
    have h1 := rw1_rs HRS.out
    rw [HF2.out.els _ (by omega)]
    exact h1.2.2.1
  have q0 : w3.cell? ⟨w.heap.size, 0, none⟩ = some (.int .u8 0) := (cell_of_heap hz 0).trans rfl
  have q1 : w3.cell? ⟨w.heap.size, 1, none⟩ = some (.string ⟨#[]⟩) := (cell_of_heap hz 1).trans rfl
  have q2 : w3.cell? ⟨w.heap.size, 2, none⟩ = some (.int .i64 0) := (cell_of_heap hz 2).trans rfl
  have q3 : w3.cell? ⟨w.heap.size, 3, none⟩ = some (.slice none 0 0) := (cell_of_heap hz 3).trans rfl
  have qf : ∀ j, w3.frozen? ⟨w.heap.size, j, none⟩ = false := fun j => frozen_of_heap hz j
  have hln : w.heap.size < w3.heap.size := lt_of_heap hz
  have hk1 : (k : Int) = 0 := by omega
  rw [hk1] at hW
  have HT := hid (none_told HRS.out HF2.out)
  clear HKD HF2 HRS a1 a2 hgt hne hpl HSL hz h0 hlb
  go_wp2_with fail
  refine bodyPost_ret (v := .agg #[.int .u8 0, .string ⟨#[]⟩, .int .i64 0, .slice none 0 0]) (ret_lock Tryz.results40 rfl (HT.out _ _ _ _ _).1) rfl ⟨.slice none 0 0, rfl, Kd.nil _ _ _, (HT.out _ _ _ _ _).2.1, (HT.out _ _ _ _ _).2.2⟩
end Go.Proofs.YtdllpklecdmghaaGreatDoor
