/- Scanning texts as mathematics. No program in it. -/
import Derived.Test.YtdllpklecdmghaaDoorLkM
namespace Go.Proofs.YtdllpklecdmghaaDoor.Sc
open Tm

/-- digits up to a byte, behind i of them that make n -/
def nmGo (e : UInt8) (most : Nat) : Nat → Nat → Bs → Option (Nat × Bs)
  | _, _, [] => none
  | n, i, c :: l =>
    if c = e ∧ 0 < i then some (n, l)
    else if c.toNat < 48 ∨ 57 < c.toNat ∨ (0 < i ∧ n = 0) then none
    else if most < 10 * n + (c.toNat - 48) then none
    else nmGo e most (10 * n + (c.toNat - 48)) (i + 1) l
/-- a number up to and with a byte -/
def nm (e : UInt8) (most : Nat) (s : Bs) : Option (Nat × Bs) := nmGo e most 0 0 s
theorem nmGo_len {e : UInt8} {most : Nat} : ∀ {s : Bs} {n i m : Nat} {r : Bs}, nmGo e most n i s = some (m, r) → r.length < s.length
  | [], _, _, _, _, h => by simp [nmGo] at h
  | c :: l, n, i, m, r, h => by
    rw [nmGo] at h
    split at h
    · simp at h
      obtain ⟨_, rfl⟩ := h
      simp
    · split at h
      · cases h
      · split at h
        · cases h
        · have := nmGo_len h
          simp
          omega
theorem nmGo_most {e : UInt8} {most : Nat} : ∀ {s : Bs} {n i m : Nat} {r : Bs}, n ≤ most → nmGo e most n i s = some (m, r) → m ≤ most
  | [], _, _, _, _, _, h => by simp [nmGo] at h
  | c :: l, n, i, m, r, hn, h => by
    rw [nmGo] at h
    split at h
    · simp at h
      omega
    · split at h
      · cases h
      · split at h
        · cases h
        · exact nmGo_most (by omega) h
/-- what stands ahead of a term's parts: how many come -/
def hd (s : Bs) : Option (Nat × Bs) := match s with
  | [] => none
  | c :: r =>
    if c = 110 then (match nm 59 9223372036854775807 r with | none => none | some (_, x) => some (0, x))
    else if c = 116 then (match nm 58 4096 r with | none => none | some (n, x) => if n ≤ x.length then some (0, x.drop n) else none)
    else if c = 84 then (match nm 58 32 r with | none => none | some (n, x) => some (n, x))
    else if c = 80 ∨ c = 72 then some (1, r)
    else if c = 83 ∨ c = 66 ∨ c = 88 ∨ c = 68 ∨ c = 86 ∨ c = 87 ∨ c = 75 ∨ c = 76 then some (2, r)
    else none
theorem hd_len {s : Bs} {p : Nat} {r : Bs} (h : hd s = some (p, r)) : r.length < s.length ∧ p ≤ 32 := by
  unfold hd at h
  match s, h with
  | [], h => cases h
  | c :: r0, h =>
    simp only at h
    split at h
    · split at h
      · cases h
      · rename_i n x hn
        cases h
        have := nmGo_len hn
        exact ⟨by simp; omega, by omega⟩
    · split at h
      · split at h
        · cases h
        · rename_i n x hn
          split at h
          · cases h
            have := nmGo_len hn
            exact ⟨by simp; omega, by omega⟩
          · cases h
      · split at h
        · split at h
          · cases h
          · rename_i n x hn
            cases h
            have := nmGo_len hn
            have := nmGo_most (Nat.zero_le _) hn
            exact ⟨by simp; omega, by omega⟩
        · split at h
          · cases h
            exact ⟨by simp, by omega⟩
          · split at h
            · cases h
              exact ⟨by simp, by omega⟩
            · cases h
/-- so many things, one behind the other, with their parts -/
def nest : Nat → Nat → Bs → Option Bs
  | _, 0, s => some s
  | 0, _ + 1, _ => none
  | g + 1, o + 1, s => match hd s with
    | none => none
    | some (p, r) => nest g (o + p) r
/-- the text of the term that a text begins with; none: there can't be one -/
def piece (s : Bs) : Bs := match nest ((s.take 16384).length + 1) 1 (s.take 16384) with
  | none => []
  | some r => (s.take 16384).take ((s.take 16384).length - r.length)
/-- the kind that is written with a letter -/
def kindOf (c : UInt8) : Nat := if c = 115 then 1 else if c = 112 then 2 else if c = 97 then 3 else if c = 111 then 4 else if c = 38 then 5 else if c = 124 then 6 else 0
end Go.Proofs.YtdllpklecdmghaaDoor.Sc
