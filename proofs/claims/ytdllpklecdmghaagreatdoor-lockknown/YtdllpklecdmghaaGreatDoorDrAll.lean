import Derived.Test.YtdllpklecdmghaaGreatDoorRows
import Derived.Test.YtdllpklecdmghaaGreatDoorCards
import Derived.Test.YtdllpklecdmghaaGreatDoorTie
import Derived.Test.YtdllpklecdmghaaGreatDoorKaAll
import Derived.ProofKit
import Derived.OpenShut
import Derived.Deep.Slices
import Derived.Lib.LaidTab
import Derived.LaidMore
import Derived.Stop.LaidErr
import Derived.Stop.Joined
import Derived.Lay
import Derived.SizedLaws
import Derived.Test.YtdllpklecdmghaaGreatDoorLkMAll
/- What comes in: locks, rows of locks, witnesses, texts. -/
namespace Go.Proofs.YtdllpklecdmghaaGreatDoor
open Go.ChangeShapes Go.WideShapes Go.ChangeAt Go.RowKit
open Lk (Lt)
theorem own : ownKnob Tryz.prog.godebug = none := by kernel_rfl
def laid3 : List (String × DataW Unit) := Rows.lockReadsRow.laid
set_option maxRecDepth 100000 in
theorem door_met (os : Os) (args : Array Value) : laidMetH Tryz.prog laid3 ((World.doorLaid Tryz.prog 400 os).forCall (fun _ _ => 0) ⟨#[], args, []⟩).memory :=
  laidMetH_of_parts3 (fuel := 8) (laidMet_of_run' 8 (by kernel_rfl) (by kernel_rfl)) (by kernel_rfl) (by kernel_rfl)
end Go.Proofs.YtdllpklecdmghaaGreatDoor
/- The table of powers as the program's text lays it. -/
namespace Go.Proofs.YtdllpklecdmghaaGreatDoor
open Go.ChangeShapes Go.WideShapes Go.ChangeAt Go.RowKit
theorem Tryz.cells90 : Tryz.prog.cellsOf 90 = 1 := by kernel_rfl
theorem Tryz.cells128 : Tryz.prog.cellsOf 128 = 20 := by kernel_rfl
theorem Tryz.gPow : Tryz.prog.globalNamed "internal/strconv.uint64pow10" = some 1 := by kernel_rfl
theorem Tryz.gPowType : (Tryz.prog.globals[1]?).map (·.type) = some 128 := by kernel_rfl
theorem pw_of_laid {W : World} (h : laidMetH Tryz.prog laid3 W) : Pw W := by
  have h1 : laidMet Tryz.prog laid3 W := h
  have h2 : laidMet Tryz.prog (("internal/strconv.uint64pow10", Lib.tabData .u64 Lib.pow10Tab) :: []) W := (h1.tail).tail
  exact Lib.tabIs_of_head Tryz.gPow Tryz.gPowType Tryz.underlying128 Tryz.underlying90 Tryz.cells90 Tryz.cells128 h2
end Go.Proofs.YtdllpklecdmghaaGreatDoor
/- Scanning texts as mathematics. No program in it. -/
namespace Go.Proofs.YtdllpklecdmghaaGreatDoor.Sc
open Tm
def nmGo (e : UInt8) (most : Nat) : Nat → Nat → Bs → Option (Nat × Bs)
  | _, _, [] => none
  | n, i, c :: l =>
    if c = e ∧ 0 < i then some (n, l)
    else if c.toNat < 48 ∨ 57 < c.toNat ∨ (0 < i ∧ n = 0) then none
    else if most < 10 * n + (c.toNat - 48) then none
    else nmGo e most (10 * n + (c.toNat - 48)) (i + 1) l
def nm (e : UInt8) (most : Nat) (s : Bs) : Option (Nat × Bs) := nmGo e most 0 0 s
theorem nmGo_len {e : UInt8} {most : Nat} : ∀ {s : Bs} {n i m : Nat} {r : Bs}, nmGo e most n i s = some (m, r) → r.length < s.length
  | [], _, _, _, _, h => by simp [nmGo] at h
  | c :: l, n, i, m, r, h => by
    rw [nmGo] at h
    split at h
    · simp at h
      obtain ⟨_, rfl⟩ := h
      simp
    · split at h
      · cases h
      · split at h
        · cases h
        · have := nmGo_len h
          simp
          omega
theorem nmGo_most {e : UInt8} {most : Nat} : ∀ {s : Bs} {n i m : Nat} {r : Bs}, n ≤ most → nmGo e most n i s = some (m, r) → m ≤ most
  | [], _, _, _, _, _, h => by simp [nmGo] at h
  | c :: l, n, i, m, r, hn, h => by
    rw [nmGo] at h
    split at h
    · simp at h
      omega
    · split at h
      · cases h
      · split at h
        · cases h
        · exact nmGo_most (by omega) h
def hd (s : Bs) : Option (Nat × Bs) := match s with
  | [] => none
  | c :: r =>
    if c = 110 then (match nm 59 9223372036854775807 r with | none => none | some (_, x) => some (0, x))
    else if c = 116 then (match nm 58 4096 r with | none => none | some (n, x) => if n ≤ x.length then some (0, x.drop n) else none)
    else if c = 84 then (match nm 58 32 r with | none => none | some (n, x) => some (n, x))
    else if c = 80 ∨ c = 72 then some (1, r)
    else if c = 83 ∨ c = 66 ∨ c = 88 ∨ c = 68 ∨ c = 86 ∨ c = 87 ∨ c = 75 ∨ c = 76 then some (2, r)
    else none
theorem hd_len {s : Bs} {p : Nat} {r : Bs} (h : hd s = some (p, r)) : r.length < s.length ∧ p ≤ 32 := by
  unfold hd at h
  match s, h with
  | [], h => cases h
  | c :: r0, h =>
    simp only at h
    split at h
    · split at h
      · cases h
      · rename_i n x hn
        cases h
        have := nmGo_len hn
        exact ⟨by simp; omega, by omega⟩
    · split at h
      · split at h
        · cases h
        · rename_i n x hn
          split at h
          · cases h
            have := nmGo_len hn
            exact ⟨by simp; omega, by omega⟩
          · cases h
      · split at h
        · split at h
          · cases h
          · rename_i n x hn
            cases h
            have := nmGo_len hn
            have := nmGo_most (Nat.zero_le _) hn
            exact ⟨by simp; omega, by omega⟩
        · split at h
          · cases h
            exact ⟨by simp, by omega⟩
          · split at h
            · cases h
              exact ⟨by simp, by omega⟩
            · cases h
def nest : Nat → Nat → Bs → Option Bs
  | _, 0, s => some s
  | 0, _ + 1, _ => none
  | g + 1, o + 1, s => match hd s with
    | none => none
    | some (p, r) => nest g (o + p) r
def piece (s : Bs) : Bs := match nest ((s.take 16384).length + 1) 1 (s.take 16384) with
  | none => []
  | some r => (s.take 16384).take ((s.take 16384).length - r.length)
def kindOf (c : UInt8) : Nat := if c = 115 then 1 else if c = 112 then 2 else if c = 97 then 3 else if c = 111 then 4 else if c = 38 then 5 else if c = 124 then 6 else 0
end Go.Proofs.YtdllpklecdmghaaGreatDoor.Sc
