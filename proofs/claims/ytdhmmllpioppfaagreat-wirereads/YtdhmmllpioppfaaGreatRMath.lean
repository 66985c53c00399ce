/- How the document reads a term: its parts one behind the other, then whether they fit. No program in it. -/
import Derived.Test.YtdhmmllpioppfaaGreatMath
namespace Go.Proofs.YtdhmmllpioppfaaGreat.Tm

/-- how many parts an op has -/
def partsN (c : UInt8) : Option Nat :=
  if c = 80 ∨ c = 72 then some 1
  else if c = 83 ∨ c = 66 ∨ c = 88 ∨ c = 68 ∨ c = 86 ∨ c = 87 ∨ c = 75 ∨ c = 76 then some 2 else none

/-- do the parts fit the op? -/
def fitB (c : UInt8) (ks : List Bs) : Bool :=
  if c = 80 then (match ks with | [p] => !(p.head? == some 86 || p.head? == some 75) | _ => true)
  else if c = 88 then (match ks with | [p, q] => leB p q | _ => true)
  else if c = 87 then (match ks with | [p, q] => isPk p.head? && isPk q.head? | _ => true)
  else if c = 76 then (match ks with | [p, _] => isPk p.head? | _ => true)
  else true

/-- where the parts begin, and how many they are -/
def headB (c : UInt8) (l : Bs) : Option (Nat × Bs) :=
  if c = 84 then (match num 58 l with | none => none | some (k, r) => if k ≤ 32 then some (k, r) else none)
  else (match partsN c with | none => none | some k => some (k, l))

def bodyB (n : Nat) (c : UInt8) (l : Bs) : Option (Nat × Bs) :=
  match headB c l with
  | none => none
  | some (k, r) => match manyA (rd n) k 1 r with
    | none => none
    | some (d, r') => if fitB c (kidsN (rd n) k r) then some (d, r') else none

theorem many_one (f : Bs → Option (Nat × Bs)) (l : Bs) : manyA f 1 1 l = oneA f l := by
  rw [manyA]; unfold oneA
  cases f l with
  | none => rfl
  | some x =>
    obtain ⟨d, r⟩ := x
    simp only [manyA]
    rw [show max 1 (d + 1) = d + 1 by omega]

theorem many_two (f : Bs → Option (Nat × Bs)) (l : Bs) : manyA f 2 1 l = two2 f l := by
  rw [manyA]; unfold two2 twoA
  cases f l with
  | none => rfl
  | some x =>
    obtain ⟨d, r⟩ := x
    simp only
    rw [manyA]
    cases f r with
    | none => rfl
    | some y =>
      obtain ⟨e, r'⟩ := y
      simp only [manyA]
      rw [show max (max 1 (d + 1)) (e + 1) = max d e + 1 by omega]

theorem kidsN_one (f : Bs → Option (Nat × Bs)) (l : Bs) : kidsN f 1 l = kids1 f l := by
  rw [kidsN]; unfold kids1
  cases f l with
  | none => rfl
  | some x => rfl

theorem kidsN_two {f : Bs → Option (Nat × Bs)} {l : Bs} {d : Nat} {r r' : Bs} (h : twoA f l = some (d, r, r')) : kidsN f 2 l = [used l r, used r r'] := by
  unfold twoA at h
  cases h1 : f l with
  | none => rw [h1] at h; simp at h
  | some x =>
    obtain ⟨d1, r1⟩ := x
    rw [h1] at h
    simp only at h
    cases h2 : f r1 with
    | none => rw [h2] at h; simp at h
    | some y =>
      obtain ⟨d2, r2⟩ := y
      rw [h2] at h
      simp at h
      obtain ⟨_, rfl, rfl⟩ := h
      rw [kidsN, h1]
      simp only
      rw [kidsN, h2]
      rfl

theorem used_head {l r : Bs} (h : r.length < l.length) : (used l r).head? = l.head? := by
  cases l with
  | nil => simp at h
  | cons a t =>
    unfold used
    simp at h
    rw [show (a :: t).length - r.length = (t.length - r.length) + 1 by simp; omega]
    rfl

/-- the document's way of reading is the same -/
theorem rd_body (n : Nat) (c : UInt8) (l : Bs) (h1 : c ≠ 110) (h2 : c ≠ 116) : rd (n + 1) (c :: l) = bodyB n c l := by
  rw [rd_cons, if_neg h1, if_neg h2]
  unfold bodyB headB
  by_cases c3 : c = 84
  · subst c3
    rw [if_pos rfl, if_pos rfl]
    unfold tupleA
    cases num 58 l with
    | none => rfl
    | some x =>
      obtain ⟨k, r⟩ := x
      simp only
      split
      · simp only
        cases manyA (rd n) k 1 r with
        | none => rfl
        | some y => rfl
      · rfl
  · rw [if_neg c3, if_neg c3]
    by_cases c4 : c = 80
    · subst c4
      rw [if_pos rfl]
      show _ = (match manyA (rd n) 1 1 l with | none => none | some (d, r') => if fitB 80 (kidsN (rd n) 1 l) then some (d, r') else none)
      rw [many_one, kidsN_one]
      unfold pubA oneA kids1
      cases hr : rd n l with
      | none => rfl
      | some x =>
        obtain ⟨d, r⟩ := x
        have hlt := (rd_len hr).1
        simp only
        show _ = if (!((used l r).head? == some 86 || (used l r).head? == some 75)) = true then _ else _
        rw [used_head hlt]
        by_cases hh : l.head? = some 86 ∨ l.head? = some 75
        · rw [if_pos hh, if_neg]
          rcases hh with hh | hh <;> rw [hh] <;> decide
        · rw [if_neg hh, if_pos]
          have g1 : (l.head? == some 86) = false := by simpa using fun e => hh (Or.inl e)
          have g2 : (l.head? == some 75) = false := by simpa using fun e => hh (Or.inr e)
          rw [g1, g2]; rfl
    · rw [if_neg c4]
      by_cases c5 : c = 72
      · subst c5
        rw [if_pos rfl]
        show _ = (match manyA (rd n) 1 1 l with | none => none | some (d, r') => if fitB 72 (kidsN (rd n) 1 l) then some (d, r') else none)
        rw [many_one]
        cases oneA (rd n) l with
        | none => rfl
        | some x => rfl
      · rw [if_neg c5]
        by_cases c6 : isTwo c = true
        · rw [if_pos c6]
          have hp : partsN c = some 2 := by
            unfold partsN
            rw [if_neg (by rintro (h | h) <;> contradiction), if_pos]
            simp [isTwo] at c6
            rcases c6 with (((h | h) | h) | h) | h <;> simp [h]
          have hf : ∀ ks, fitB c ks = true := by
            intro ks
            unfold fitB
            rw [if_neg c4, if_neg (by intro e; subst e; simp [isTwo] at c6), if_neg (by intro e; subst e; simp [isTwo] at c6), if_neg (by intro e; subst e; simp [isTwo] at c6)]
          rw [hp]
          show _ = (match manyA (rd n) 2 1 l with | none => none | some (d, r') => if fitB c (kidsN (rd n) 2 l) then some (d, r') else none)
          rw [many_two, hf]
          cases two2 (rd n) l with
          | none => rfl
          | some x => rfl
        · rw [if_neg c6]
          have key : ∀ (g : Bs → Bs → Bs → Bool), (∀ r r' d, twoA (rd n) l = some (d, r, r') → fitB c [used l r, used r r'] = g l r r') → partsN c = some 2 →
              (match twoA (rd n) l with | none => none | some (d, r, r') => if g l r r' then some (d, r') else none) =
              (match (match partsN c with | none => none | some k => some (k, l) : Option (Nat × Bs)) with | none => none | some (k, r) => match manyA (rd n) k 1 r with | none => none | some (d, r') => if fitB c (kidsN (rd n) k r) then some (d, r') else none) := by
            intro g hg hp
            rw [hp]
            show _ = (match manyA (rd n) 2 1 l with | none => none | some (d, r') => if fitB c (kidsN (rd n) 2 l) then some (d, r') else none)
            rw [many_two]
            unfold two2
            cases ht : twoA (rd n) l with
            | none => rfl
            | some x =>
              obtain ⟨d, r, r'⟩ := x
              simp only
              rw [kidsN_two ht, hg r r' d ht]
          by_cases c7 : c = 88
          · subst c7
            rw [if_pos rfl]
            exact key (fun l r r' => leB (used l r) (used r r')) (fun r r' d _ => rfl) (by decide)
          · rw [if_neg c7]
            by_cases c8 : c = 87
            · subst c8
              rw [if_pos rfl]
              refine key (fun l r _ => isPk l.head? && isPk r.head?) (fun r r' d ht => ?_) (by decide)
              obtain ⟨p, q, a, b, rfl, rfl, _, _, _, hp, hq⟩ := two_good (rd_good n) ht
              show (isPk (used (p ++ (q ++ r')) (q ++ r')).head? && isPk (used (q ++ r') r').head?) = _
              rw [used_app, used_app, head_app hp.2.1, head_app hq.2.1]
            · rw [if_neg c8]
              by_cases c9 : c = 76
              · subst c9
                rw [if_pos rfl]
                refine key (fun l _ _ => isPk l.head?) (fun r r' d ht => ?_) (by decide)
                obtain ⟨p, q, a, b, rfl, rfl, _, _, _, hp, hq⟩ := two_good (rd_good n) ht
                show isPk (used (p ++ (q ++ r')) (q ++ r')).head? = _
                rw [used_app, head_app hp.2.1]
              · rw [if_neg c9]
                have hp : partsN c = none := by
                  unfold partsN
                  rw [if_neg (by rintro (h | h) <;> contradiction), if_neg]
                  rintro (h | h | h | h | h | h | h | h)
                  · exact c6 (by rw [h]; decide)
                  · exact c6 (by rw [h]; decide)
                  · exact c7 h
                  · exact c6 (by rw [h]; decide)
                  · exact c6 (by rw [h]; decide)
                  · exact c8 h
                  · exact c6 (by rw [h]; decide)
                  · exact c9 h
                rw [hp]
end Go.Proofs.YtdhmmllpioppfaaGreat.Tm
