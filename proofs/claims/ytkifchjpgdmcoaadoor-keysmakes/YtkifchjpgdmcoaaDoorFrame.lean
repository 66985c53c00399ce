/- The reader's block in memory, and the frame: which blocks stay as they were. -/
import Derived.Test.YtkifchjpgdmcoaaDoorProg
import Derived.Test.YtkifchjpgdmcoaaDoorMath
import Derived.WalkKit
import Derived.WalkSpells
import Derived.WalkLawsBesides
namespace Go.Proofs.YtkifchjpgdmcoaaDoor
open Go.RowKit

abbrev Bs := List UInt8

/-- a fact kept from the walk -/
theorem hid {p : Prop} (h : p) : Hid p := h

/-- a text as a value -/
abbrev St (l : Bs) : Value := .string ⟨l.toArray⟩

/-- two ways to end -/
def Ends {α : Type} (o : Option α) (P : α → Prop) (Q : Prop) : Prop := (∀ x, o = some x → P x) ∧ (o = none → Q)
theorem ends_none {α : Type} {o : Option α} {P : α → Prop} {Q : Prop} (h : o = none) (q : Q) : Ends o P Q := ⟨fun x hx => (by rw [h] at hx; cases hx), fun _ => q⟩
theorem ends_some {α : Type} {o : Option α} {P : α → Prop} {Q : Prop} {x : α} (h : o = some x) (p : P x) : Ends o P Q := ⟨fun y hy => (Option.some.inj (h.symm.trans hy)) ▸ p, fun hn => (by rw [h] at hn; cases hn)⟩
theorem Ends.some {α : Type} {o : Option α} {P : α → Prop} {Q : Prop} {x : α} (e : Ends o P Q) (h : o = some x) : P x := e.1 x h
theorem Ends.none {α : Type} {o : Option α} {P : α → Prop} {Q : Prop} (e : Ends o P Q) (h : o = none) : Q := e.2 h

/-- below block B all but block b is as it was -/
structure Frx (B b : Nat) (w0 w : World) : Prop where
  os : w.os = w0.os
  tape : w.tape = w0.tape
  output : w.output = w0.output
  size : w0.heap.size ≤ w.heap.size
  block : ∀ k, k < B → k ≠ b → w.heap[k]? = w0.heap[k]?

theorem Frx.refl (B b : Nat) (w : World) : Frx B b w w := ⟨rfl, rfl, rfl, Nat.le_refl _, fun _ _ _ => rfl⟩
theorem Frx.trans {B b : Nat} {w0 w1 w2 : World} (h : Frx B b w0 w1) (k : Frx B b w1 w2) : Frx B b w0 w2 :=
  ⟨k.os.trans h.os, k.tape.trans h.tape, k.output.trans h.output, Nat.le_trans h.size k.size, fun i hi hb => (k.block i hi hb).trans (h.block i hi hb)⟩
theorem Frx.drewN {B b : Nat} {w0 w : World} (h : Frx B b w0 w) (n : Nat) : Frx B b w0 (w.drewN n) := ⟨h.os, h.tape, h.output, h.size, h.block⟩
theorem Frx.drew {B b : Nat} {w0 w : World} (h : Frx B b w0 w) : Frx B b w0 w.drew := ⟨h.os, h.tape, h.output, h.size, h.block⟩
theorem Frx.setCell {B b : Nat} {w0 w : World} (h : Frx B b w0 w) (o : Nat) (v : Value) : Frx B b w0 (w.setCell ⟨b, o, none⟩ v) :=
  h.trans ⟨rfl, rfl, rfl, by simp [World.setCell], fun k _ hk => Below.heap_setCell _ _ _ _ hk⟩
theorem Frx.below {B b : Nat} {w0 w : World} (h : Frx B b w0 w) (hb : B ≤ b) : Below B w0 w := ⟨h.os, h.tape, h.output, h.size, fun k hk => h.block k hk (by omega)⟩

/-- the cells of a reader -/
abbrev rcells (s : ByteArray) (a lv : Int) (kp : Bool) (op n : Int) (tx : ByteArray) (kids : Value) : Array Value :=
  #[.string s, .int .i64 a, .int .i64 lv, .bool kp, .int .u8 op, .int .i64 n, .string tx, kids]

/-- a reader of the text s at place a, at level lv, that keeps or not, with what it has found -/
structure RS (w0 : World) (B b : Nat) (s : ByteArray) (lv : Nat) (kp : Bool) (a : Nat) (n : Int) (tx : ByteArray) (ks : List Bs) (w : World) : Prop where
  le : a ≤ s.size
  fr : Frx B b w0 w
  hb : b < w0.heap.size
  hB : B ≤ w0.heap.size
  sz : s.size ≤ 16384
  kl : ks.length ≤ a
  lvb : lv ≤ 64
  blk : ∃ kids, w.heap[b]? = some (.cells (rcells s a lv kp 0 n tx kids) 83 (0, 0)) ∧ w.ownsRow (b + 1) 22 1 kids ks.length (ks.map St)

theorem cell_of_heap {w : World} {b : Nat} {cs : Array Value} {t : TypeId} (h : w.heap[b]? = some (.cells cs t (0, 0))) (o : Nat) : w.cell? ⟨b, o, none⟩ = cs[o]? := by
  simp [World.cell?, h]
theorem frozen_of_heap {w : World} {b : Nat} {cs : Array Value} {t : TypeId} (h : w.heap[b]? = some (.cells cs t (0, 0))) (o : Nat) : w.frozen? ⟨b, o, none⟩ = false := by
  simp [World.frozen?, h]

/-- the cells, as the walk wants them -/
theorem RS.cells {w0 : World} {B b : Nat} {s : ByteArray} {lv : Nat} {kp : Bool} {a : Nat} {n : Int} {tx : ByteArray} {ks : List Bs} {w : World} (h : RS w0 B b s lv kp a n tx ks w) :
    w.cell? ⟨b, 0, none⟩ = some (.string s) ∧ w.cell? ⟨b, 1, none⟩ = some (.int .i64 a) ∧ w.cell? ⟨b, 2, none⟩ = some (.int .i64 lv) ∧ w.cell? ⟨b, 3, none⟩ = some (.bool kp) ∧ (∀ o, w.frozen? ⟨b, o, none⟩ = false) := by
  obtain ⟨kids, h1, _⟩ := h.blk
  exact ⟨by rw [cell_of_heap h1]; rfl, by rw [cell_of_heap h1]; rfl, by rw [cell_of_heap h1]; rfl, by rw [cell_of_heap h1]; rfl, fun o => frozen_of_heap h1 o⟩

theorem heap_setCell_same {w : World} {b : Nat} {cs : Array Value} {t : TypeId} (h : w.heap[b]? = some (.cells cs t (0, 0))) (o : Nat) (v : Value) :
    (w.setCell ⟨b, o, none⟩ v).heap[b]? = some (.cells (cs.setIfInBounds o v) t (0, 0)) := by
  simp [World.setCell, Array.getElem?_modify, h]

theorem ownsRow_setCell_at {w : World} {b : Nat} {e : TypeId} {size : Nat} {v : Value} {n : Nat} {xs : List Value} (h : w.ownsRow (b + 1) e size v n xs) (o : Nat) (u : Value) :
    (w.setCell ⟨b, o, none⟩ u).ownsRow (b + 1) e size v n xs := ownsRow_setCell_below h (by show b < b + 1; omega) u

theorem RS.drewN {w0 : World} {B b : Nat} {s : ByteArray} {lv : Nat} {kp : Bool} {a : Nat} {n : Int} {tx : ByteArray} {ks : List Bs} {w : World} (h : RS w0 B b s lv kp a n tx ks w) (m : Nat) : RS w0 B b s lv kp a n tx ks (w.drewN m) := by
  obtain ⟨kids, h1, h2⟩ := h.blk
  exact ⟨h.le, h.fr.drewN m, h.hb, h.hB, h.sz, h.kl, h.lvb, kids, h1, h2⟩

theorem RS.drew {w0 : World} {B b : Nat} {s : ByteArray} {lv : Nat} {kp : Bool} {a : Nat} {n : Int} {tx : ByteArray} {ks : List Bs} {w : World} (h : RS w0 B b s lv kp a n tx ks w) : RS w0 B b s lv kp a n tx ks w.drew := by
  obtain ⟨kids, h1, h2⟩ := h.blk
  exact ⟨h.le, h.fr.drew, h.hb, h.hB, h.sz, h.kl, h.lvb, kids, h1, h2⟩

/-- the place is moved -/
theorem RS.setAt {w0 : World} {B b : Nat} {s : ByteArray} {lv : Nat} {kp : Bool} {a : Nat} {n : Int} {tx : ByteArray} {ks : List Bs} {w : World} (h : RS w0 B b s lv kp a n tx ks w) {a' : Nat} (h1 : a ≤ a') (ha : a' ≤ s.size) (v : Value) (hv : v = .int .i64 a') :
    RS w0 B b s lv kp a' n tx ks (w.setCell ⟨b, 1, none⟩ v) := by
  obtain ⟨kids, g1, g2⟩ := h.blk
  refine ⟨ha, h.fr.setCell 1 _, h.hb, h.hB, h.sz, Nat.le_trans h.kl h1, h.lvb, kids, ?_, ownsRow_setCell_at g2 _ _⟩
  rw [heap_setCell_same g1, hv]
  rfl

/-- the level is moved -/
theorem RS.setLv {w0 : World} {B b : Nat} {s : ByteArray} {lv : Nat} {kp : Bool} {a : Nat} {n : Int} {tx : ByteArray} {ks : List Bs} {w : World} (h : RS w0 B b s lv kp a n tx ks w) {lv' : Nat} (hl : lv' ≤ 64) (v : Value) (hv : v = .int .i64 lv') :
    RS w0 B b s lv' kp a n tx ks (w.setCell ⟨b, 2, none⟩ v) := by
  obtain ⟨kids, h1, h2⟩ := h.blk
  refine ⟨h.le, h.fr.setCell 2 _, h.hb, h.hB, h.sz, h.kl, hl, kids, ?_, ownsRow_setCell_at h2 _ _⟩
  rw [heap_setCell_same h1, hv]
  rfl

/-- the number is set -/
theorem RS.setN {w0 : World} {B b : Nat} {s : ByteArray} {lv : Nat} {kp : Bool} {a : Nat} {n : Int} {tx : ByteArray} {ks : List Bs} {w : World} (h : RS w0 B b s lv kp a n tx ks w) (n' : Int) :
    RS w0 B b s lv kp a n' tx ks (w.setCell ⟨b, 5, none⟩ (.int .i64 n')) := by
  obtain ⟨kids, h1, h2⟩ := h.blk
  refine ⟨h.le, h.fr.setCell 5 _, h.hb, h.hB, h.sz, h.kl, h.lvb, kids, ?_, ownsRow_setCell_at h2 _ _⟩
  rw [heap_setCell_same h1]
  rfl

/-- the text is set -/
theorem RS.setTx {w0 : World} {B b : Nat} {s : ByteArray} {lv : Nat} {kp : Bool} {a : Nat} {n : Int} {tx : ByteArray} {ks : List Bs} {w : World} (h : RS w0 B b s lv kp a n tx ks w) (tx' : ByteArray) :
    RS w0 B b s lv kp a n tx' ks (w.setCell ⟨b, 6, none⟩ (.string tx')) := by
  obtain ⟨kids, h1, h2⟩ := h.blk
  refine ⟨h.le, h.fr.setCell 6 _, h.hb, h.hB, h.sz, h.kl, h.lvb, kids, ?_, ownsRow_setCell_at h2 _ _⟩
  rw [heap_setCell_same h1]
  rfl

end Go.Proofs.YtkifchjpgdmcoaaDoor
