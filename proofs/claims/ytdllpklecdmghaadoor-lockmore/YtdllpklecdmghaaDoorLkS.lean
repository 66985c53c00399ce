/- What the reading of a lock does. -/
import Derived.Test.YtdllpklecdmghaaDoorLkR
import Derived.Test.YtdllpklecdmghaaDoorLkE
import Derived.Test.YtdllpklecdmghaaDoorAp
import Derived.Test.YtdllpklecdmghaaDoorScAll
namespace Go.Proofs.YtdllpklecdmghaaDoor
open Go.RowKit
open Lk (Lt)

abbrev rfn (pb tb rb : Nat) : Value := .func (.func 32) #[] #[.pointer (some ⟨pb, 0, none⟩), .pointer (some ⟨tb, 0, none⟩), .pointer (some ⟨rb, 0, none⟩)]
theorem eg30 : ∀ args w, (callFunc 32 args).run Tryd.prog w = .ok (.enter 32 args) w := Go.Proofs.enters_of Tryd.func32 (by kernel_rfl) rfl
/-- the reader's variables: how many parts, what is left, itself -/
structure Rs (pb tb rb p : Nat) (s : Bs) (w : World) : Prop where
  pc : w.heap[pb]? = some (.cells #[.int .i64 (p : Int)] 3 (0, 0))
  tc : w.heap[tb]? = some (.cells #[St s] 55 (0, 0))
  rc : w.heap[rb]? = some (.cells #[rfn pb tb rb] 56 (0, 0))
  pt : pb ≠ tb
  pr : pb ≠ rb
  tr : tb ≠ rb
/-- nothing else has changed -/
structure Fq (pb tb : Nat) (w w' : World) : Prop where
  els : ∀ g, g < w.heap.size → g ≠ pb → g ≠ tb → w'.heap[g]? = w.heap[g]?
  size : w.heap.size ≤ w'.heap.size
  os : w'.os = w.os
  tape : w'.tape = w.tape
  out : w'.output = w.output
theorem Fq.refl (pb tb : Nat) (w : World) : Fq pb tb w w := ⟨fun _ _ _ _ => rfl, Nat.le_refl _, rfl, rfl, rfl⟩
theorem Fq.trans {pb tb : Nat} {w w1 w2 : World} (h : Fq pb tb w w1) (h2 : Fq pb tb w1 w2) : Fq pb tb w w2 :=
  ⟨fun g a b c => (h2.els g (Nat.lt_of_lt_of_le a h.size) b c).trans (h.els g a b c), Nat.le_trans h.size h2.size, h2.os.trans h.os, h2.tape.trans h.tape, h2.out.trans h.out⟩
theorem Fq.below {pb tb : Nat} {w w' : World} (h : Below w.heap.size w w') : Fq pb tb w w' := ⟨fun g a _ _ => h.block g a, h.size, h.os, h.tape, h.output⟩
/-- what a reading tells and leaves -/
def RdE (pb tb rb d : Nat) (w : World) (R : Lt × Bs × Nat) (e : Ending) (w' : World) : Prop := ∃ kv, e = .returned (.agg (lcs R.1 kv)) ∧ Kd (fun g => w.heap.size ≤ g ∧ g < w'.heap.size) w' d kv R.1.kids ∧ Rs pb tb rb R.2.2 R.2.1 w' ∧ Fq pb tb w w'
theorem pA {p : Nat} (h : p ≤ 1000000) : IntKind.i64.wrap ((p : Int) + 1) = ((p + 1 : Nat) : Int) ∧ wrap64 ((p : Int) + 1) = ((p + 1 : Nat) : Int) := ⟨by rw [IntKind.wrap_i64]; omega, wrap_nat (by omega) (by omega)⟩
/-- the world behind the first two regions -/
abbrev rw1 (w : World) (pb p : Nat) : World := (w.setCell ⟨pb, 0, none⟩ (.int .i64 ((p : Int) + 1))).alloc (.cells #[.int .u8 0, .string ⟨#[]⟩, .int .i64 0, .slice none 0 0] 26)
theorem rw1_rs {pb tb rb p : Nat} {s : Bs} {w : World} (h : Rs pb tb rb p s w) : Rs pb tb rb (p + 1) s (rw1 w pb p) ∧ Fq pb tb w (rw1 w pb p) ∧ (rw1 w pb p).heap[w.heap.size]? = some (.cells #[.int .u8 0, .string ⟨#[]⟩, .int .i64 0, .slice none 0 0] 26 (0, 0)) ∧ (rw1 w pb p).heap.size = w.heap.size + 1 := by
  have hp := lt_of_heap h.pc
  have ht := lt_of_heap h.tc
  have hr := lt_of_heap h.rc
  have hsz : (w.setCell ⟨pb, 0, none⟩ (.int .i64 ((p : Int) + 1))).heap.size = w.heap.size := by simp [World.setCell]
  have hB := below_al (w.setCell ⟨pb, 0, none⟩ (.int .i64 ((p : Int) + 1))) (.cells #[.int .u8 0, .string ⟨#[]⟩, .int .i64 0, .slice none 0 0] 26)
  rw [hsz] at hB
  refine ⟨⟨?_, ?_, ?_, h.pt, h.pr, h.tr⟩, ⟨fun g a b c => ?_, ?_, rfl, rfl, rfl⟩, ?_, ?_⟩
  · rw [hB.block _ hp, heap_setCell_same h.pc 0]
    rfl
  · rw [hB.block _ ht, Below.heap_setCell _ _ _ _ (Ne.symm h.pt)]
    exact h.tc
  · rw [hB.block _ hr, Below.heap_setCell _ _ _ _ (Ne.symm h.pr)]
    exact h.rc
  · rw [hB.block _ a, Below.heap_setCell _ _ _ _ b]
  · have := hB.size
    rw [hsz] at this
    exact this
  · have h1 := heap_alloc_new (w.setCell ⟨pb, 0, none⟩ (.int .i64 ((p : Int) + 1))) (.cells #[.int .u8 0, .string ⟨#[]⟩, .int .i64 0, .slice none 0 0] 26)
    rw [hsz] at h1
    exact h1
  · rw [heap_alloc_size, hsz]
/-- a lock is stored in the result -/
theorem rs_setL {pb tb rb p : Nat} {s : Bs} {w W : World} (hw : w.heap.size ≤ W.heap.size) (h : Rs pb tb rb p s W) {r : Nat} (hr1 : r ≠ pb) (hr2 : r ≠ tb) (hr3 : r ≠ rb) (hrw : w.heap.size ≤ r) (hf : Fq pb tb w W) (o : Nat) (v0 v1 v2 v3 : Value) : Rs pb tb rb p s (setL W r o v0 v1 v2 v3) ∧ Fq pb tb w (setL W r o v0 v1 v2 v3) := by
  refine ⟨⟨?_, ?_, ?_, h.pt, h.pr, h.tr⟩, ⟨fun g a b c => ?_, ?_, hf.os, hf.tape, hf.out⟩⟩
  · rw [setL_other _ _ _ _ _ _ _ (Ne.symm hr1)]; exact h.pc
  · rw [setL_other _ _ _ _ _ _ _ (Ne.symm hr2)]; exact h.tc
  · rw [setL_other _ _ _ _ _ _ _ (Ne.symm hr3)]; exact h.rc
  · rw [setL_other _ _ _ _ _ _ _ (by omega)]; exact hf.els g a b c
  · have : (setL W r o v0 v1 v2 v3).heap.size = W.heap.size := by simp [setL, World.setCell]
    omega
set_option maxHeartbeats 8000000 in
theorem read_far {pb tb rb p : Nat} {s : Bs} {w : World} (h : Rs pb tb rb p s w) (hp : 64 ≤ p) (hp2 : p ≤ 1000000) (d : Nat) : Calls Tryd.prog 32 #[.pointer (some ⟨pb, 0, none⟩), .pointer (some ⟨tb, 0, none⟩), .pointer (some ⟨rb, 0, none⟩)] w (RdE pb tb rb d w (.zero, s, p + 1)) := by
  have hpl := lt_of_heap h.pc
  have htl := lt_of_heap h.tc
  have hrl := lt_of_heap h.rc
  have c0 : w.cell? ⟨pb, 0, none⟩ = some (.int .i64 (p : Int)) := (cell_of_heap h.pc 0).trans rfl
  have f0 : w.frozen? ⟨pb, 0, none⟩ = false := frozen_of_heap h.pc 0
  obtain ⟨a1, a2⟩ := pA hp2
  have hgt : (64 : Int) < ((p + 1 : Nat) : Int) := by omega
  have hne : ¬ pb = w.heap.size := by omega
  have HRS := hid (rw1_rs h)
  have HNE : Hid (w.heap.size ≠ pb ∧ w.heap.size ≠ tb ∧ w.heap.size ≠ rb) := hid ⟨by omega, by omega, by omega⟩
  clear h hp hp2 htl hrl
  go_enter Tryd.func32, Tryd.ntmps32
  go_wp2_with fail
  refine bodyPost_ret (v := .agg #[.int .u8 0, .string ⟨#[]⟩, .int .i64 0, .slice none 0 0]) (ret_lock Tryd.results32 rfl HRS.out.2.2.1) rfl ⟨.slice none 0 0, rfl, Kd.nil _ _ _, HRS.out.1, HRS.out.2.1⟩
end Go.Proofs.YtdllpklecdmghaaDoor
