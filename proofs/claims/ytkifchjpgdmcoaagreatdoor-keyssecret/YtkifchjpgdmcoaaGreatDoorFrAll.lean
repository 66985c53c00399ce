import Derived.Test.YtkifchjpgdmcoaaGreatDoorProg
import Derived.Test.YtkifchjpgdmcoaaGreatDoorMath
import Derived.WalkKit
import Derived.WalkSpells
import Derived.WalkLawsBesides
import Derived.Deep.QuietTactic
import Derived.BigQuiet
import Derived.Deep.LoopGhost
/- The reader's block in memory, and the frame: which blocks stay as they were. -/
namespace Go.Proofs.YtkifchjpgdmcoaaGreatDoor
open Go.RowKit
abbrev Bs := List UInt8
theorem hid {p : Prop} (h : p) : Hid p := h
abbrev St (l : Bs) : Value := .string ⟨l.toArray⟩
def Ends {α : Type} (o : Option α) (P : α → Prop) (Q : Prop) : Prop := (∀ x, o = some x → P x) ∧ (o = none → Q)
theorem ends_none {α : Type} {o : Option α} {P : α → Prop} {Q : Prop} (h : o = none) (q : Q) : Ends o P Q := ⟨fun x hx => (by rw [h] at hx; cases hx), fun _ => q⟩
theorem ends_some {α : Type} {o : Option α} {P : α → Prop} {Q : Prop} {x : α} (h : o = some x) (p : P x) : Ends o P Q := ⟨fun y hy => (Option.some.inj (h.symm.trans hy)) ▸ p, fun hn => (by rw [h] at hn; cases hn)⟩
theorem Ends.some {α : Type} {o : Option α} {P : α → Prop} {Q : Prop} {x : α} (e : Ends o P Q) (h : o = some x) : P x := e.1 x h
theorem Ends.none {α : Type} {o : Option α} {P : α → Prop} {Q : Prop} (e : Ends o P Q) (h : o = none) : Q := e.2 h
structure Frx (B b : Nat) (w0 w : World) : Prop where
 os : w.os = w0.os
 tape : w.tape = w0.tape
 output : w.output = w0.output
 size : w0.heap.size ≤ w.heap.size
 block : ∀ k, k < B → k ≠ b → w.heap[k]? = w0.heap[k]?
theorem Frx.refl (B b : Nat) (w : World) : Frx B b w w := ⟨rfl, rfl, rfl, Nat.le_refl _, fun _ _ _ => rfl⟩
theorem Frx.trans {B b : Nat} {w0 w1 w2 : World} (h : Frx B b w0 w1) (k : Frx B b w1 w2) : Frx B b w0 w2 :=
 ⟨k.os.trans h.os, k.tape.trans h.tape, k.output.trans h.output, Nat.le_trans h.size k.size, fun i hi hb => (k.block i hi hb).trans (h.block i hi hb)⟩
theorem Frx.drewN {B b : Nat} {w0 w : World} (h : Frx B b w0 w) (n : Nat) : Frx B b w0 (w.drewN n) := ⟨h.os, h.tape, h.output, h.size, h.block⟩
theorem Frx.drew {B b : Nat} {w0 w : World} (h : Frx B b w0 w) : Frx B b w0 w.drew := ⟨h.os, h.tape, h.output, h.size, h.block⟩
theorem Frx.setCell {B b : Nat} {w0 w : World} (h : Frx B b w0 w) (o : Nat) (v : Value) : Frx B b w0 (w.setCell ⟨b, o, none⟩ v) :=
 h.trans ⟨rfl, rfl, rfl, by simp [World.setCell], fun k _ hk => Below.heap_setCell _ _ _ _ hk⟩
theorem Frx.below {B b : Nat} {w0 w : World} (h : Frx B b w0 w) (hb : B ≤ b) : Below B w0 w := ⟨h.os, h.tape, h.output, h.size, fun k hk => h.block k hk (by omega)⟩
abbrev rcells (s : ByteArray) (a lv : Int) (kp : Bool) (op n : Int) (tx : ByteArray) (kids : Value) : Array Value :=
 #[.string s, .int .i64 a, .int .i64 lv, .bool kp, .int .u8 op, .int .i64 n, .string tx, kids]
structure RS (w0 : World) (B b : Nat) (s : ByteArray) (lv : Nat) (kp : Bool) (a : Nat) (n : Int) (tx : ByteArray) (ks : List Bs) (w : World) : Prop where
 le : a ≤ s.size
 fr : Frx B b w0 w
 hb : b < w0.heap.size
 hB : B ≤ w0.heap.size
 sz : s.size ≤ 16384
 kl : ks.length ≤ a
 lvb : lv ≤ 64
 blk : ∃ kids, w.heap[b]? = some (.cells (rcells s a lv kp 0 n tx kids) 95 (0, 0)) ∧ w.ownsRow (b + 1) 22 1 kids ks.length (ks.map St)
theorem cell_of_heap {w : World} {b : Nat} {cs : Array Value} {t : TypeId} (h : w.heap[b]? = some (.cells cs t (0, 0))) (o : Nat) : w.cell? ⟨b, o, none⟩ = cs[o]? := by
 simp [World.cell?, h]
theorem frozen_of_heap {w : World} {b : Nat} {cs : Array Value} {t : TypeId} (h : w.heap[b]? = some (.cells cs t (0, 0))) (o : Nat) : w.frozen? ⟨b, o, none⟩ = false := by
 simp [World.frozen?, h]
theorem RS.cells {w0 : World} {B b : Nat} {s : ByteArray} {lv : Nat} {kp : Bool} {a : Nat} {n : Int} {tx : ByteArray} {ks : List Bs} {w : World} (h : RS w0 B b s lv kp a n tx ks w) :
   w.cell? ⟨b, 0, none⟩ = some (.string s) ∧ w.cell? ⟨b, 1, none⟩ = some (.int .i64 a) ∧ w.cell? ⟨b, 2, none⟩ = some (.int .i64 lv) ∧ w.cell? ⟨b, 3, none⟩ = some (.bool kp) ∧ (∀ o, w.frozen? ⟨b, o, none⟩ = false) := by
 obtain ⟨kids, h1, _⟩ := h.blk
 exact ⟨by rw [cell_of_heap h1]; rfl, by rw [cell_of_heap h1]; rfl, by rw [cell_of_heap h1]; rfl, by rw [cell_of_heap h1]; rfl, fun o => frozen_of_heap h1 o⟩
theorem heap_setCell_same {w : World} {b : Nat} {cs : Array Value} {t : TypeId} (h : w.heap[b]? = some (.cells cs t (0, 0))) (o : Nat) (v : Value) :
   (w.setCell ⟨b, o, none⟩ v).heap[b]? = some (.cells (cs.setIfInBounds o v) t (0, 0)) := by
 simp [World.setCell, Array.getElem?_modify, h]
theorem ownsRow_setCell_at {w : World} {b : Nat} {e : TypeId} {size : Nat} {v : Value} {n : Nat} {xs : List Value} (h : w.ownsRow (b + 1) e size v n xs) (o : Nat) (u : Value) :
   (w.setCell ⟨b, o, none⟩ u).ownsRow (b + 1) e size v n xs := ownsRow_setCell_below h (by show b < b + 1; omega) u
theorem RS.drewN {w0 : World} {B b : Nat} {s : ByteArray} {lv : Nat} {kp : Bool} {a : Nat} {n : Int} {tx : ByteArray} {ks : List Bs} {w : World} (h : RS w0 B b s lv kp a n tx ks w) (m : Nat) : RS w0 B b s lv kp a n tx ks (w.drewN m) := by
 obtain ⟨kids, h1, h2⟩ := h.blk
 exact ⟨h.le, h.fr.drewN m, h.hb, h.hB, h.sz, h.kl, h.lvb, kids, h1, h2⟩
theorem RS.drew {w0 : World} {B b : Nat} {s : ByteArray} {lv : Nat} {kp : Bool} {a : Nat} {n : Int} {tx : ByteArray} {ks : List Bs} {w : World} (h : RS w0 B b s lv kp a n tx ks w) : RS w0 B b s lv kp a n tx ks w.drew := by
 obtain ⟨kids, h1, h2⟩ := h.blk
 exact ⟨h.le, h.fr.drew, h.hb, h.hB, h.sz, h.kl, h.lvb, kids, h1, h2⟩
theorem RS.setAt {w0 : World} {B b : Nat} {s : ByteArray} {lv : Nat} {kp : Bool} {a : Nat} {n : Int} {tx : ByteArray} {ks : List Bs} {w : World} (h : RS w0 B b s lv kp a n tx ks w) {a' : Nat} (h1 : a ≤ a') (ha : a' ≤ s.size) (v : Value) (hv : v = .int .i64 a') :
   RS w0 B b s lv kp a' n tx ks (w.setCell ⟨b, 1, none⟩ v) := by
 obtain ⟨kids, g1, g2⟩ := h.blk
 refine ⟨ha, h.fr.setCell 1 _, h.hb, h.hB, h.sz, Nat.le_trans h.kl h1, h.lvb, kids, ?_, ownsRow_setCell_at g2 _ _⟩
 rw [heap_setCell_same g1, hv]
 rfl
theorem RS.setLv {w0 : World} {B b : Nat} {s : ByteArray} {lv : Nat} {kp : Bool} {a : Nat} {n : Int} {tx : ByteArray} {ks : List Bs} {w : World} (h : RS w0 B b s lv kp a n tx ks w) {lv' : Nat} (hl : lv' ≤ 64) (v : Value) (hv : v = .int .i64 lv') :
   RS w0 B b s lv' kp a n tx ks (w.setCell ⟨b, 2, none⟩ v) := by
 obtain ⟨kids, h1, h2⟩ := h.blk
 refine ⟨h.le, h.fr.setCell 2 _, h.hb, h.hB, h.sz, h.kl, hl, kids, ?_, ownsRow_setCell_at h2 _ _⟩
 rw [heap_setCell_same h1, hv]
 rfl
theorem RS.setN {w0 : World} {B b : Nat} {s : ByteArray} {lv : Nat} {kp : Bool} {a : Nat} {n : Int} {tx : ByteArray} {ks : List Bs} {w : World} (h : RS w0 B b s lv kp a n tx ks w) (n' : Int) :
   RS w0 B b s lv kp a n' tx ks (w.setCell ⟨b, 5, none⟩ (.int .i64 n')) := by
 obtain ⟨kids, h1, h2⟩ := h.blk
 refine ⟨h.le, h.fr.setCell 5 _, h.hb, h.hB, h.sz, h.kl, h.lvb, kids, ?_, ownsRow_setCell_at h2 _ _⟩
 rw [heap_setCell_same h1]
 rfl
theorem RS.setTx {w0 : World} {B b : Nat} {s : ByteArray} {lv : Nat} {kp : Bool} {a : Nat} {n : Int} {tx : ByteArray} {ks : List Bs} {w : World} (h : RS w0 B b s lv kp a n tx ks w) (tx' : ByteArray) :
   RS w0 B b s lv kp a n tx' ks (w.setCell ⟨b, 6, none⟩ (.string tx')) := by
 obtain ⟨kids, h1, h2⟩ := h.blk
 refine ⟨h.le, h.fr.setCell 6 _, h.hb, h.hB, h.sz, h.kl, h.lvb, kids, ?_, ownsRow_setCell_at h2 _ _⟩
 rw [heap_setCell_same h1]
 rfl
end Go.Proofs.YtkifchjpgdmcoaaGreatDoor

/- What the reader's number, wanted and none do. -/
namespace Go.Proofs.YtkifchjpgdmcoaaGreatDoor
open Go.RowKit
abbrev rest (s : ByteArray) (a : Nat) : Bs := s.data.toList.drop a
set_option maxHeartbeats 400000 in
theorem wanted_any {w0 : World} {B b : Nat} {s : ByteArray} {lv : Nat} {kp : Bool} {a : Nat} {n : Int} {tx : ByteArray} {ks : List Bs} {w : World} (h : RS w0 B b s lv kp a n tx ks w) :
   Calls Tryz.prog 131 #[.pointer (some ⟨b, 0, none⟩)] w fun e w' => e = .returned (.bool (kp && lv == 1)) ∧ w' = w := by
 obtain ⟨c0, c1, c2, c3, hf⟩ := h.cells
 cases kp
 · go_enter Tryz.func131, Tryz.ntmps131
   go_wp2
   go_ret
   exact ⟨rfl, rfl⟩
 · go_enter Tryz.func131, Tryz.ntmps131
   go_wp2
   go_ret
   exact ⟨by have e : ((lv : Int) == 1) = (lv == 1) := by rw [Bool.eq_iff_iff]; simp; omega
             simp [e], rfl⟩
set_option maxHeartbeats 400000 in
theorem none_any {w : World} (v : Value) :
   Calls Tryz.prog 117 #[v] w fun e w' => e = .returned (.int .i64 0) ∧ w' = w := by
 go_enter Tryz.func117, Tryz.ntmps117
 go_wp2
 go_ret
 exact ⟨rfl, rfl⟩
theorem rest_cons {s : ByteArray} {k : Nat} (h : k < s.size) : rest s k = s[k] :: rest s (k + 1) := by
 have : k < s.data.toList.length := by simpa using h
 rw [rest, List.drop_eq_getElem_cons this]
 rfl
theorem rest_nil {s : ByteArray} {k : Nat} (h : s.size ≤ k) : rest s k = [] := by
 have : s.data.toList.length ≤ k := by simpa using h
 exact List.drop_of_length_le this
theorem num_stop {s : ByteArray} {e : UInt8} {k m : Nat} (hk : k < s.size) (he : s[k] ≠ e) (h : 9 < ((s[k].toNat : Int) - 48) % 256 ∨ (9223372036854775807 - ((s[k].toNat : Int) - 48) % 256) / 10 < (m : Int)) : Tm.numGo e m (rest s k) = none := by
 have hc := s[k].toNat_lt
 rw [rest_cons hk, Tm.numGo, if_neg he, if_neg]
 omega
theorem num_go {s : ByteArray} {e : UInt8} {k m : Nat} (hk : k < s.size) (he : s[k] ≠ e) (h : ((s[k].toNat : Int) - 48) % 256 ≤ 9) (h2 : (m : Int) ≤ (9223372036854775807 - ((s[k].toNat : Int) - 48) % 256) / 10) :
   Tm.numGo e m (rest s k) = Tm.numGo e (10 * m + (s[k].toNat - 48)) (rest s (k + 1)) ∧ (10 * (m : Int) + ((s[k].toNat : Int) - 48) % 256) = ((10 * m + (s[k].toNat - 48) : Nat) : Int) ∧ 10 * m + (s[k].toNat - 48) ≤ 9223372036854775807 := by
 have hc := s[k].toNat_lt
 refine ⟨?_, by omega, by omega⟩
 rw [rest_cons hk, Tm.numGo, if_neg he, if_pos]
 omega
theorem rest_len (s : ByteArray) (a : Nat) : (rest s a).length = s.size - a := by
 rw [rest, List.length_drop]; rfl
theorem num_end {s : ByteArray} {e : UInt8} {a k m : Nat} (hk : k < s.size) (hak : a ≤ k) (he : s[k] = e) (h : Tm.numGo e 0 (rest s a) = Tm.numGo e m (rest s k)) :
   Tm.num e (rest s a) = if k = a ∨ (1 < k - a ∧ s[a]'(by omega) = 48) then none else some (m, rest s (k + 1)) := by
 have h1 : Tm.numGo e m (rest s k) = some (m, rest s (k + 1)) := by rw [rest_cons hk, Tm.numGo, if_pos he]
 unfold Tm.num
 rw [h, h1]
 simp only
 rw [rest_len, rest_len]
 have hd : (rest s a).head? = some (s[a]'(by omega)) := by rw [rest_cons (by omega)]; rfl
 rw [hd]
 by_cases g : k = a ∨ (1 < k - a ∧ s[a]'(by omega) = 48)
 · rw [if_pos g, if_pos]
   rcases g with g | ⟨g1, g2⟩
   · left; omega
   · right; exact ⟨by omega, by rw [g2]⟩
 · rw [if_neg g, if_neg]
   intro g2
   apply g
   rcases g2 with g2 | ⟨g2, g3⟩
   · left; omega
   · right; exact ⟨by omega, by simpa using g3⟩
theorem num_out {s : ByteArray} {e : UInt8} {a k m : Nat} (hk : s.size ≤ k) (h : Tm.numGo e 0 (rest s a) = Tm.numGo e m (rest s k)) : Tm.num e (rest s a) = none := by
 unfold Tm.num
 rw [h, rest_nil hk]
 rfl
theorem num_none {s : ByteArray} {e : UInt8} {a k m : Nat} (h : Tm.numGo e 0 (rest s a) = Tm.numGo e m (rest s k)) (h2 : Tm.numGo e m (rest s k) = none) : Tm.num e (rest s a) = none := by
 unfold Tm.num
 rw [h, h2]
set_option maxHeartbeats 1000000 in
theorem number_any {w0 : World} {B b : Nat} {s : ByteArray} {lv : Nat} {kp : Bool} {a : Nat} {n : Int} {tx : ByteArray} {ks : List Bs} {w : World} (h : RS w0 B b s lv kp a n tx ks w) (ei : Int) (e : UInt8) (he : ei = e.toNat) :
   Calls Tryz.prog 130 #[.pointer (some ⟨b, 0, none⟩), .int .u8 ei] w fun en w' =>
     Ends (Tm.num e (rest s a)) (fun x => en = .returned (.tuple #[.int .i64 x.1, .bool true]) ∧ RS w0 B b s lv kp (s.size - x.2.length) n tx ks w')
       (en = .returned (.tuple #[.int .i64 0, .bool false]) ∧ ∃ a', RS w0 B b s lv kp a' n tx ks w') := by
 obtain ⟨c0, c1, c2, c3, hf⟩ := h.cells
 have hle := h.le
 have hsz := h.sz
 subst he
 have h0 : Hid (RS w0 B b s lv kp a n tx ks w) := h
 clear h
 go_enter Tryz.func130, Tryz.ntmps130
 go_wp2_with fail
 go_loopg [7] (s.size - a) (fun g nv wr => ∃ k m : Nat, a ≤ k ∧ k ≤ s.size ∧ g = s.size - k ∧ nv = .int .i64 m ∧ m ≤ 9223372036854775807 ∧ RS w0 B b s lv kp k n tx ks wr ∧ Tm.numGo e 0 (rest s a) = Tm.numGo e m (rest s k))
 case atStart => exact ⟨a, 0, Nat.le_refl _, hle, rfl, rfl, by omega, h0.out, rfl⟩
 case round =>
   obtain ⟨k, m, hak, hk, rfl, rfl, hm, hR, hN⟩ := hrel
   clear c0 c1 c2 c3 hf
   obtain ⟨c0, c1, c2, c3, hf⟩ := hR.cells
   have HR := hid hR
   have HN := hid hN
   clear hR hN
   by_cases hlt : k < s.size
   · by_cases hc : s[k] = e
     · have hb : (((s[k].toNat : Int)) != (e.toNat : Int)) = false := by simp [hc]
       have hE := hid (num_end hlt hak hc HN.out)
       have HC := hid hc
       clear hc
       have hks : ((k : Int) == (s.size : Int)) = false := by simp; omega
       by_cases hka : k = a
       · have hz : ((k : Int) - (a : Int) == 0) = true := by simp; omega
         have HE : Hid (Tm.num e (rest s a) = none) := by show _ = _; rw [hE.out, if_pos (Or.inl hka)]
         clear hka
         go_wp2_with fail
         go_quiet (fail)
         go_wp2_with fail
         go_quiet (fail)
         go_wp2_with fail
         go_ret2
         refine ends_none HE.out ⟨rfl, k, ?_⟩
         first | exact HR.out.drewN _ | exact (HR.out.drewN _).drewN _
       · have hz : ((k : Int) - (a : Int) == 0) = false := by simp; omega
         by_cases h1 : 1 < k - a
         · have hg : decide (1 < (k : Int) - (a : Int)) = true := by simp; omega
           have hg' : (1 < (k : Int) - (a : Int)) := by omega
           have has : a < s.size := by omega
           by_cases h48 : s[a] = 48
           · have hz48 : ((s[a].toNat : Int) == 48) = true := by simp [h48]
             have HE : Hid (Tm.num e (rest s a) = none) := by show _ = _; rw [hE.out, if_pos (Or.inr ⟨h1, h48⟩)]
             clear hka h48
             go_wp2_with fail
             go_quiet (fail)
             go_wp2_with fail
             go_quiet (fail)
             go_wp2_with fail
             go_ret2
             refine ends_none HE.out ⟨rfl, k, ?_⟩
             first | exact HR.out.drewN _ | exact (HR.out.drewN _).drewN _
           · have hz48 : ((s[a].toNat : Int) == 48) = false := by simp; intro h; exact h48 (UInt8.toNat_inj.1 (by simp; omega))
             have HE : Hid (Tm.num e (rest s a) = some (m, rest s (k + 1))) := by show _ = _; rw [hE.out, if_neg (by simp [hka, h48])]
             clear hka h48
             go_wp2_with fail
             go_quiet (fail)
             go_wp2_with fail
             go_quiet (fail)
             go_wp2_with fail
             go_ret2
             refine ends_some HE.out ⟨rfl, ?_⟩
             simp only [rest_len]
             rw [show s.size - (s.size - (k + 1)) = k + 1 by omega]
             first | exact (HR.out.drewN _).setAt (by omega) (by omega) _ (by simp) | exact ((HR.out.drewN _).drewN _).setAt (by omega) (by omega) _ (by simp)
         · have hg : decide (1 < (k : Int) - (a : Int)) = false := by simp; omega
           have HE : Hid (Tm.num e (rest s a) = some (m, rest s (k + 1))) := by show _ = _; rw [hE.out, if_neg (by simp [hka, h1])]
           clear hka h1
           go_wp2_with fail
           go_quiet (fail)
           go_wp2_with fail
           go_quiet (fail)
           go_wp2_with fail
           go_ret2
           refine ends_some HE.out ⟨rfl, ?_⟩
           simp only [rest_len]
           rw [show s.size - (s.size - (k + 1)) = k + 1 by omega]
           first | exact (HR.out.drewN _).setAt (by omega) (by omega) _ (by simp) | exact ((HR.out.drewN _).drewN _).setAt (by omega) (by omega) _ (by simp)
     · have hb : (((s[k].toNat : Int)) != (e.toNat : Int)) = true := by simp; intro h; exact hc (UInt8.toNat_inj.1 (by omega))
       have HC := hid hc
       clear hc
       go_wp2_with fail
       go_quiet (fail)
       go_wp2_with fail
       go_quiet (fail)
       go_wp2_with fail
       · go_ret2
         refine ends_none (num_none HN.out (num_stop hlt HC.out (by assumption))) ⟨rfl, k, ?_⟩
         first | exact HR.out.drewN _ | exact (HR.out.drewN _).drewN _
       · have hh : ((s[k].toNat : Int) - 48) % 256 ≤ 9 ∧ (m : Int) ≤ (9223372036854775807 - ((s[k].toNat : Int) - 48) % 256) / 10 := by assumption
         obtain ⟨g1, g2, g3⟩ := num_go hlt HC.out hh.1 hh.2
         go_roundg (s.size - (k + 1))
         case measure => omega
         case rel =>
           refine ⟨k + 1, _, by omega, by omega, rfl, congrArg (Value.int .i64) g2, g3, ?_, HN.out.trans g1⟩
           first | exact (HR.out.drewN _).setAt (by omega) (by omega) _ (by simp) | exact ((HR.out.drewN _).drewN _).setAt (by omega) (by omega) _ (by simp)
       · go_ret2
         refine ends_none (num_none HN.out (num_stop hlt HC.out (Or.inl (by assumption)))) ⟨rfl, k, ?_⟩
         first | exact HR.out.drewN _ | exact (HR.out.drewN _).drewN _
   · have hks : ((k : Int) == (s.size : Int)) = true := by simp; omega
     have HE : Hid (Tm.num e (rest s a) = none) := num_out (by omega) HN.out
     go_wp2_with fail
     go_quiet (fail)
     go_wp2_with fail
     go_quiet (fail)
     go_wp2_with fail
     go_ret2
     refine ends_none HE.out ⟨rfl, k, ?_⟩
     first | exact HR.out.drewN _ | exact (HR.out.drewN _).drewN _
end Go.Proofs.YtkifchjpgdmcoaaGreatDoor
