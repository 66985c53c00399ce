/- A region that draws its order, reads what lies there and stores it once. -/
import Derived.Test.YtkifchjpgdmcoaaDoorKyR
namespace Go.Proofs.YtkifchjpgdmcoaaDoor
open Go.RowKit

/-- what holds of what has come up -/
structure Rp (ops : Array Oper) (D : List Nat) (dst : Nat → Nat) (val : Nat → Value) (z : Nat) (a0 : Act) (w1 w2 : World) (l : Array Bool) (a : Act) (w : World) : Prop where
  size : l.size = ops.size
  off : Off D a0 a
  wor : w = if l.getD z false = true then w2 else w1.drew
  has : ∀ j, j < ops.size → j ≠ z → dn l j → gt a (dst j) = val j
theorem region_put {P : Program} {ops : Array Oper} {Q : Exit → Act → World → Prop} {id : Nat} {a0 : Act} {w1 : World} (D : List Nat) (dst : Nat → Nat) (val : Nat → Value) (z : Nat) (w2 : World)
    (hm : P.follows .mixedOrders = true)
    (hb : ∀ (i : Nat) (o : Oper), ops[i]? = some o → ∀ e ∈ o.after, e.on < i)
    (hD : ∀ i, i < ops.size → i ≠ z → dst i ∈ D ∧ dst i < a0.tmps.size)
    (hinj : ∀ i j, i < ops.size → j < ops.size → i ≠ z → j ≠ z → i ≠ j → dst i ≠ dst j)
    (hp : ∀ (i : Nat) (o : Oper) (a : Act) (w : World), ops[i]? = some o → i ≠ z → (w = w1.drew ∨ w = w2) → Off D a0 a → (∀ e ∈ o.after, Region.binds .any e = true → e.on ≠ z → gt a (dst e.on) = val e.on) → wpOp P ops Q i (fun a' w' => a' = a.put (some (dst i)) (val i) ∧ w' = w) a w)
    (hz : ∀ (o : Oper) (a : Act), ops[z]? = some o → Off D a0 a → (∀ e ∈ o.after, Region.binds .any e = true → e.on ≠ z → gt a (dst e.on) = val e.on) → wpOp P ops Q z (fun a' w' => a' = a ∧ w' = w2) a w1.drew)
    (hd : ∀ (a : Act), Off D a0 a → (∀ i, i < ops.size → i ≠ z → gt a (dst i) = val i) → Q .normal a w2) (hzs : z < ops.size := by decide) : (Code.region id ops true).wp P Q a0 w1 := by
  refine region_inv (Rp ops D dst val z a0 w1 w2) hm hb ?_ ?_ ?_
  · have hno : ∀ j : Nat, ¬ dn (Array.replicate ops.size false) j := fun j hj => by
      rcases Nat.lt_or_ge j ops.size with h | h
      · simp [dn, h] at hj
      · simp [dn, h] at hj
    exact ⟨by simp, Off.refl _ _, by rw [if_neg (hno z)], fun j _ _ hj => absurd hj (hno j)⟩
  · intro l a w i o hI ho hf hw
    have hi : i < ops.size := (Array.getElem?_eq_some_iff.1 ho).1
    have hil : i < l.size := by rw [hI.size]; exact hi
    have hu := undone hf
    have hdep : ∀ e ∈ o.after, Region.binds .any e = true → e.on ≠ z → gt a (dst e.on) = val e.on := fun e he hbd hne => hI.has e.on (Nat.lt_trans (hb i o ho e he) hi) hne (hw e he hbd)
    by_cases hiz : i = z
    · subst hiz
      have hw1 := hI.wor
      rw [if_neg hu] at hw1
      subst hw1
      refine wpOp_mono ?_ (hz o a ho hI.off hdep)
      rintro a' w' ⟨rfl, rfl⟩
      exact ⟨by simpa using hI.size, hI.off, by rw [if_pos (dn_here hil)], fun j h1 h2 h3 => hI.has j h1 h2 (dn_set (Ne.symm h2) h3)⟩
    · have hw1 : w = w1.drew ∨ w = w2 := by
        have := hI.wor
        split at this
        · exact .inr this
        · exact .inl this
      refine wpOp_mono ?_ (hp i o a w ho hiz hw1 hI.off hdep)
      rintro a' w' ⟨rfl, rfl⟩
      refine ⟨by simpa using hI.size, hI.off.put (hD i hi hiz).1 _, by rw [getD_set_other hiz]; exact hI.wor, fun j h1 h2 h3 => ?_⟩
      by_cases e : i = j
      · subst e
        exact get_put_same (by rw [hI.off.size]; exact (hD i hi hiz).2)
      · exact (get_put_ne (hinj i j hi h1 hiz h2 e)).trans (hI.has j h1 h2 (dn_set e h3))
  · intro l a w hI hl
    have hall : ∀ i, i < ops.size → dn l i := fun i hi => by
      have h := hl i
      have hs : i < l.size := by rw [hI.size]; exact hi
      simpa [dn, hs] using h
    have hw := hI.wor
    rw [if_pos (hall z hzs)] at hw
    subst hw
    exact hd a hI.off (fun i h1 h2 => hI.has i h1 h2 (hall i h1))
end Go.Proofs.YtkifchjpgdmcoaaDoor
