/- A disk in memory, and the small calls. -/
import Derived.Test.YtojnembakhhgiaaGreatMathAll
import Derived.Test.YtojnembakhhgiaaGreatMp
import Derived.OwnWalk
import Derived.ProofKit
import Derived.Deep.LoopGhost
import Derived.Deep.RegionHeld3
import Derived.Deep.Cut
namespace Go.Proofs.YtojnembakhhgiaaGreat
open Go.RowKit

/-- a text as a value -/
abbrev St (l : Bs) : Value := .string ⟨l.toArray⟩
/-- a fact that the walk must not touch -/
def Hid (p : Prop) : Prop := p
theorem hid {p : Prop} (h : p) : Hid p := h
theorem Hid.out {p : Prop} (h : Hid p) : p := h
/-- bytes, pages and writes as cells -/
abbrev bcs (b : Bs) : List Value := b.map fun c => .int .u8 (c.toNat : Int)
def pcs (l : List Bs) : List Value := (l.map bcs).flatten
def wcs (l : List Dw) : List Value := (l.map fun x => .int .i64 (x.step : Int) :: .int .i64 (x.at' : Int) :: bcs x.pg).flatten
theorem cell_of_heap {w : World} {b : Nat} {cs : Array Value} {t : TypeId} (h : w.heap[b]? = some (.cells cs t (0, 0))) (o : Nat) : w.cell? ⟨b, o, none⟩ = cs[o]? := by
  simp [World.cell?, h]
theorem frozen_of_heap {w : World} {b : Nat} {cs : Array Value} {t : TypeId} (h : w.heap[b]? = some (.cells cs t (0, 0))) (o : Nat) : w.frozen? ⟨b, o, none⟩ = false := by
  simp [World.frozen?, h]
theorem lt_of_block {w : World} {b : Nat} {o : Obj} (h : w.heap[b]? = some o) : b < w.heap.size := by
  apply Classical.byContradiction
  intro hn
  rw [Array.getElem?_eq_none (by omega)] at h
  cases h
/-- a file's block and the values in it -/
structure Fm where
  p : Nat
  pv : Value
  sv : Value
  ov : Value
def ob (v : Value) : List Nat := v.ownBlock.toList
def Fm.blocks (m : Fm) : List Nat := m.p :: (ob m.pv ++ (ob m.sv ++ ob m.ov))
structure FileAt (w : World) (pages settled : List Bs) (ws : List Dw) (m : Fm) : Prop where
  blk : w.heap[m.p]? = some (.cells #[m.pv, m.sv, m.ov] 77 (0, 0))
  pg : w.ownsRow 0 83 256 m.pv pages.length (pcs pages)
  st : w.ownsRow 0 83 256 m.sv settled.length (pcs settled)
  op : w.ownsRow 0 87 258 m.ov ws.length (wcs ws)
/-- where the file of a name lies -/
def namesOf (s : Ds) (ms : List Fm) : NM := fun t => ((s.files.zip ms).find? fun x => x.1.name == t).map fun x => x.2.p
structure Dv (w : World) (d : Nat) (s : Ds) (mb : Option Nat) (ms : List Fm) : Prop where
  blk : w.heap[d]? = some (.cells #[.int .i64 (s.quota : Int), .map mb, .int .i64 (s.steps : Int), .bool s.set, .int .i64 (s.inn : Int), .int .u64 (s.keep : Int), .bool s.off] 56 (0, 0))
  len : ms.length = s.files.length
  fil : ∀ i (h : i < s.files.length) (h' : i < ms.length), FileAt w (pagesOf s s.files[i]) s.files[i].settled (ofNo s.opn s.files[i].no) ms[i]
  map : ∀ b, mb = some b → Om w b (namesOf s ms)
  nomap : mb = none → s.files = []
  apart : (d :: (mb.toList ++ ms.flatMap Fm.blocks)).Nodup
  ok : Dok s
  small : s.steps < 1000000 ∧ s.inn < 9223372036854775808 ∧ s.keep < 18446744073709551616
/-- the small calls -/
theorem ready_any (w : World) (d : Nat) (s : Ds) (mb : Option Nat) (ms : List Fm) (h : Dv w d s mb ms) : Calls Tryz.prog 42 #[.pointer (some ⟨d, 0, none⟩)] w fun e w' => e = .returned (.int .i64 (if s.off = true then 7 else 0)) ∧ w' = w := by
  have c6 : w.cell? ⟨d, 6, none⟩ = some (.bool s.off) := (cell_of_heap h.blk 6).trans rfl
  clear h
  cases ho : s.off with
  | false =>
    rw [ho] at c6
    go_enter Tryz.func42, Tryz.ntmps42
    go_wp2_with fail
    go_ret
    exact ⟨rfl, rfl⟩
  | true =>
    rw [ho] at c6
    go_enter Tryz.func42, Tryz.ntmps42
    go_wp2_with fail
    go_ret
    exact ⟨rfl, rfl⟩
theorem off_any (w : World) (d : Nat) (s : Ds) (mb : Option Nat) (ms : List Fm) (h : Dv w d s mb ms) : Calls Tryz.prog 12 #[.pointer (some ⟨d, 0, none⟩)] w fun e w' => e = .returned (.bool s.off) ∧ w' = w := by
  have c6 : w.cell? ⟨d, 6, none⟩ = some (.bool s.off) := (cell_of_heap h.blk 6).trans rfl
  clear h
  go_enter Tryz.func12, Tryz.ntmps12
  go_wp2_with fail
  go_ret
  exact ⟨rfl, rfl⟩
theorem steps_any (w : World) (d : Nat) (s : Ds) (mb : Option Nat) (ms : List Fm) (h : Dv w d s mb ms) : Calls Tryz.prog 39 #[.pointer (some ⟨d, 0, none⟩)] w fun e w' => e = .returned (.int .i64 (s.steps : Int)) ∧ w' = w := by
  have c2 : w.cell? ⟨d, 2, none⟩ = some (.int .i64 (s.steps : Int)) := (cell_of_heap h.blk 2).trans rfl
  clear h
  go_enter Tryz.func39, Tryz.ntmps39
  go_wp2_with fail
  go_ret
  exact ⟨rfl, rfl⟩
theorem isName_any (w : World) (t : Bs) : Calls Tryz.prog 43 #[St t] w fun e w' => e = .returned (.bool (named t)) ∧ w' = w := by
  have hs : (⟨t.toArray⟩ : ByteArray).size = t.length := by simp [ByteArray.size]
  have e1 : named t = (decide ((1 : Int) ≤ (t.length : Int)) && decide ((t.length : Int) ≤ 100)) := by
    unfold named
    rw [Bool.eq_iff_iff]
    simp
    omega
  rw [e1]
  clear e1
  by_cases h1 : (1 : Int) ≤ (t.length : Int)
  · go_enter Tryz.func43, Tryz.ntmps43
    go_wp2_with fail
    go_ret
    exact ⟨by simp [h1], rfl⟩
  · have h2 : decide ((1 : Int) ≤ (t.length : Int)) = false := by simpa using h1
    go_enter Tryz.func43, Tryz.ntmps43
    go_wp2_with fail
    go_ret
    exact ⟨rfl, rfl⟩
set_option maxRecDepth 100000 in
set_option maxHeartbeats 2000000 in
theorem find_any (w : World) (d : Nat) (s : Ds) (mb : Option Nat) (ms : List Fm) (h : Dv w d s mb ms) (t : Bs) (ht : t.length ≤ 140737488355328) :
    Calls Tryz.prog 49 #[.pointer (some ⟨d, 0, none⟩), St t] w fun e w' => e = .returned (if s.off = true then .tuple #[.pointer none, .int .i64 7] else match namesOf s ms t with
      | none => .tuple #[.pointer none, .int .i64 91]
      | some p => .tuple #[.pointer (some ⟨p, 0, none⟩), .int .i64 0]) ∧ w' = w := by
  have HR := hid (ready_any w d s mb ms h)
  have c1 : w.cell? ⟨d, 1, none⟩ = some (.map mb) := (cell_of_heap h.blk 1).trans rfl
  have hl : (Instr.lookup 52 (.map mb) (.string ⟨t.toArray⟩) false).run Tryz.prog w = .ok (pv (namesOf s ms t)) w := by
    cases mb with
    | none =>
      rw [show namesOf s ms t = none by unfold namesOf; rw [h.nomap rfl]; rfl]
      exact look_nil w t ht
    | some b => exact (h.map b rfl).look t ht
  clear h
  cases ho : s.off with
  | true =>
    rw [ho] at HR
    go_enter Tryz.func49, Tryz.ntmps49
    go_wp2_with fail
    refine HR.out.mono ?_
    rintro e w1 ⟨rfl, hw⟩
    subst hw
    go_wp2_with fail
    go_ret2
    exact ⟨rfl, rfl⟩
  | false =>
    rw [ho] at HR
    generalize namesOf s ms t = o at hl
    cases o with
    | none =>
      have hl2 : (Instr.lookup 52 (.map mb) (.string ⟨t.toArray⟩) false).run Tryz.prog w = .ok (.pointer none) w := hl
      clear hl
      go_enter Tryz.func49, Tryz.ntmps49
      go_wp2_with fail
      refine HR.out.mono ?_
      rintro e w1 ⟨rfl, hw⟩
      subst hw
      go_wp2_with fail
      go_ret2
      exact ⟨rfl, rfl⟩
    | some p =>
      have hl2 : (Instr.lookup 52 (.map mb) (.string ⟨t.toArray⟩) false).run Tryz.prog w = .ok (.pointer (some ⟨p, 0, none⟩)) w := hl
      clear hl
      go_enter Tryz.func49, Tryz.ntmps49
      go_wp2_with fail
      refine HR.out.mono ?_
      rintro e w1 ⟨rfl, hw⟩
      subst hw
      go_wp2_with fail
      go_ret2
      exact ⟨rfl, rfl⟩
end Go.Proofs.YtojnembakhhgiaaGreat
