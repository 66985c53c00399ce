/- Locks as mathematics: how many parts they have, which are right, how they are written, what opens them. No program in it. -/
import Derived.Test.YtdllpklecdmghaaDoorMath
import Derived.Lib.ItoaNum
namespace Go.Proofs.YtdllpklecdmghaaDoor.Lk
open Tm

inductive Lt where
  | mk (kind : Nat) (term : Bs) (n : Int) (kids : List Lt)

def Lt.kind : Lt → Nat | .mk k _ _ _ => k
def Lt.term : Lt → Bs | .mk _ t _ _ => t
def Lt.n : Lt → Int | .mk _ _ n _ => n
def Lt.kids : Lt → List Lt | .mk _ _ _ ks => ks
def Lt.zero : Lt := .mk 0 [] 0 []

theorem Lt.ind {P : Lt → Prop} (h : ∀ k t n ks, (∀ x ∈ ks, P x) → P (.mk k t n ks)) : ∀ l, P l
  | .mk k t n ks => h k t n ks (fun x _hx => Lt.ind h x)
termination_by l => SizeOf.sizeOf l
decreasing_by
  have := List.sizeOf_lt_of_mem _hx
  simp
  omega

/-- a right term with that letter ahead -/
def isOp (t : Bs) (c : UInt8) : Bool := deep t != 0 && t.head? == some c
def isKey (t : Bs) : Bool := deep t != 0 && isPk t.head?
/-- has it just what its kind has? -/
def fit (l : Lt) : Bool :=
  if l.kind = 1 then decide (l.n = 0) && decide (l.kids.length = 0) && isKey l.term
  else if l.kind = 2 then decide (l.n = 0) && decide (l.kids.length = 0) && isOp l.term 72
  else if l.kind = 3 ∨ l.kind = 4 then decide (l.term.length = 0) && decide (l.kids.length = 0) && decide (0 ≤ l.n) && decide (l.n ≤ 1073741823)
  else if l.kind = 5 ∨ l.kind = 6 then decide (l.term.length = 0) && decide (l.n = 0) && decide (l.kids.length ≠ 0) && decide (l.kids.length ≤ 8)
  else false

mutual
/-- room for so many parts, less a lock's -/
def room : Lt → Nat → Option Nat
  | .mk k t n ks, p => if p = 0 then none else if fit (.mk k t n ks) then rooms ks (p - 1) else none
def rooms : List Lt → Nat → Option Nat
  | [], p => some p
  | x :: ks, p => match room x p with
    | none => none
    | some q => rooms ks q
end
def right (l : Lt) : Bool := (room l 64).isSome

mutual
def size : Lt → Nat
  | .mk _ _ _ ks => 1 + sizes ks
def sizes : List Lt → Nat
  | [] => 0
  | x :: ks => size x + sizes ks
end
mutual
/-- each part fits its kind -/
def ok : Lt → Bool
  | .mk k t n ks => fit (.mk k t n ks) && oks ks
def oks : List Lt → Bool
  | [] => true
  | x :: ks => ok x && oks ks
end
theorem size_pos (l : Lt) : 1 ≤ size l := by
  cases l
  rw [size]
  omega
theorem room_is : ∀ (l : Lt) (p : Nat), room l p = if ok l = true ∧ size l ≤ p then some (p - size l) else none := by
  intro l
  induction l using Lt.ind with
  | h k t n ks ih =>
    have hs : ∀ (ms : List Lt), (∀ x ∈ ms, x ∈ ks) → ∀ p, rooms ms p = if oks ms = true ∧ sizes ms ≤ p then some (p - sizes ms) else none := by
      intro ms
      induction ms with
      | nil => intro _ p; simp [rooms, oks, sizes]
      | cons x ms ihm =>
        intro hm p
        rw [rooms, ih x (hm x (by simp)) p, oks, sizes]
        by_cases h1 : ok x = true ∧ size x ≤ p
        · rw [if_pos h1]
          simp only
          rw [ihm (fun y hy => hm y (by simp [hy]))]
          by_cases h2 : oks ms = true ∧ sizes ms ≤ p - size x
          · rw [if_pos h2, if_pos ⟨by rw [h1.1, h2.1]; rfl, by omega⟩]
            congr 1
            omega
          · rw [if_neg h2, if_neg (fun h => h2 ⟨by have := h.1; simp at this; exact this.2, by omega⟩)]
        · rw [if_neg h1]
          simp only
          rw [if_neg (fun h => h1 ⟨by have := h.1; simp at this; exact this.1, by omega⟩)]
    intro p
    rw [room, ok, size]
    by_cases hp : p = 0
    · rw [if_pos hp, if_neg (by omega)]
    · rw [if_neg hp]
      by_cases hf : fit (.mk k t n ks) = true
      · rw [if_pos hf, hs ks (fun _ h => h) (p - 1), hf]
        by_cases h2 : oks ks = true ∧ sizes ks ≤ p - 1
        · rw [if_pos h2, if_pos ⟨by rw [h2.1]; rfl, by omega⟩]
          congr 1
          omega
        · rw [if_neg h2, if_neg (fun h => h2 ⟨by have := h.1; simpa using this, by omega⟩)]
      · rw [if_neg hf, if_neg (fun h => hf (by have := h.1; simp at this; exact this.1))]
theorem right_is (l : Lt) : right l = true ↔ ok l = true ∧ size l ≤ 64 := by
  unfold right
  rw [room_is]
  by_cases h : ok l = true ∧ size l ≤ 64
  · rw [if_pos h]; simp [h]
  · rw [if_neg h]; simp [h]

/-- the letters of the kinds -/
def letter (k : Nat) : UInt8 := if k = 1 then 115 else if k = 2 then 112 else if k = 3 then 97 else if k = 4 then 111 else if k = 5 then 38 else 124
mutual
/-- a lock, written -/
def wr : Lt → Bs
  | .mk k t n ks => letter k :: (if k = 1 ∨ k = 2 then t else if k = 3 ∨ k = 4 then Lib.decDigits n.toNat ++ [59] else Lib.decDigits ks.length ++ 58 :: wrs ks)
def wrs : List Lt → Bs
  | [] => []
  | x :: ks => wr x ++ wrs ks
end
mutual
/-- are two the same? -/
def same : Lt → Lt → Bool
  | .mk k t n ks, m => decide (k = m.kind) && decide (t = m.term) && decide (n = m.n) && sames ks m.kids
def sames : List Lt → List Lt → Bool
  | [], [] => true
  | x :: ks, y :: ms => same x y && sames ks ms
  | [], _ :: _ => false
  | _ :: _, [] => false
end
theorem same_iff : ∀ (l m : Lt), same l m = true ↔ l = m := by
  intro l
  induction l using Lt.ind with
  | h k t n ks ih =>
    have hs : ∀ (a b : List Lt), (∀ x ∈ a, x ∈ ks) → (sames a b = true ↔ a = b) := by
      intro a
      induction a with
      | nil => intro b _; cases b <;> simp [sames]
      | cons x a iha =>
        intro b hm
        cases b with
        | nil => simp [sames]
        | cons y b =>
          rw [sames, Bool.and_eq_true, ih x (hm x (by simp)), iha b (fun z hz => hm z (by simp [hz]))]
          simp
    intro m
    rw [same, Bool.and_eq_true, Bool.and_eq_true, Bool.and_eq_true, hs ks _ (fun _ h => h), decide_eq_true_iff, decide_eq_true_iff, decide_eq_true_iff]
    cases m with
    | mk k' t' n' ks' =>
      constructor
      · rintro ⟨⟨⟨rfl, rfl⟩, rfl⟩, rfl⟩
        rfl
      · intro h
        cases h
        exact ⟨⟨⟨rfl, rfl⟩, rfl⟩, rfl⟩

/-- what is held against a lock -/
structure Sp where
  sigs : List Bs
  pres : List Bs
  msg : Bs
  after : Int
  age : Int
mutual
/-- does a right lock open? -/
def opn (ver : Bs → Bs → Bs → Bool) (s : Sp) : Lt → Bool
  | .mk k t n ks =>
    if k = 1 then s.sigs.any (fun x => ver t s.msg x)
    else if k = 2 then s.pres.any (fun x => decide (72 :: x = t))
    else if k = 3 then decide (n ≤ s.after)
    else if k = 4 then decide (n ≤ s.age)
    else if k = 5 then opnAll ver s ks
    else opnAny ver s ks
def opnAll (ver : Bs → Bs → Bs → Bool) (s : Sp) : List Lt → Bool
  | [] => true
  | x :: ks => opn ver s x && opnAll ver s ks
def opnAny (ver : Bs → Bs → Bs → Bool) (s : Sp) : List Lt → Bool
  | [] => false
  | x :: ks => opn ver s x || opnAny ver s ks
end
mutual
/-- the keys of a lock -/
def keys : Lt → List Bs
  | .mk k t _ ks => if k = 1 then [t] else keysAll ks
def keysAll : List Lt → List Bs
  | [] => []
  | x :: ks => keys x ++ keysAll ks
end
end Go.Proofs.YtdllpklecdmghaaDoor.Lk
