/- A store and all that it heard. -/
import Derived.Test.YtmdiggbbgcjcnaaDoorSdG
namespace Go.Proofs.YtmdiggbbgcjcnaaDoor
open Go.RowKit

/-- does a secret make those heard just above it? -/
def okH (H : List Bs) (k : Nat) (t : Bs) : Bool := (List.range k).all (fun b => Sd.fr stp k (2 ^ b) t == (H.getD (H.length - 2 ^ b) [], 0))
/-- what Add answers, over all that was heard -/
def addH (H : List Bs) (i : Int) (t : Bs) : Nat × List Bs :=
  if i < 0 ∨ i ≠ 1048575 - (H.length : Int) then (2, H) else if Tm.deep t = 0 then (10, H)
  else if okH H (Sd.low i.toNat) t then (0, H ++ [t]) else (150, H)
/-- what Get answers -/
def getH (H : List Bs) (i : Int) : Bs × Nat := if i < 1048576 - (H.length : Int) ∨ 1048575 < i then ([], 5) else (H.getD (1048575 - i.toNat) [], 0)

theorem fr_low {k i b : Nat} (hi : i % 2 ^ k = 0) (x : Bs) : Sd.fr stp k (i + 2 ^ b) x = Sd.fr stp k (2 ^ b) x := by
  have e : (i + 2 ^ b) % 2 ^ k = 2 ^ b % 2 ^ k := by
    have h1 := Nat.div_add_mod i (2 ^ k)
    rw [hi, Nat.add_zero] at h1
    rw [← h1, Nat.mul_add_mod]
  rw [← Sd.fr_mod stp k (i + 2 ^ b), e, Sd.fr_mod]

/-- what is kept stands for all that was heard -/
structure Sk (H : List Bs) (R : Nat → Bs) : Prop where
  inv : Sd.Inv stp H R
  len : ∀ k, (R k).length ≤ 20000
theorem sk_nil : Sk [] (fun _ => []) := ⟨Sd.inv_nil stp, fun _ => by simp⟩

theorem okB_okH {H : List Bs} {R : Nat → Bs} (h : Sk H R) {i : Nat} (hi : i + H.length = 1048575) (t : Bs) : okB R (Sd.low i) i t = okH H (Sd.low i) t := by
  have e : i = 2 ^ 20 - 1 - H.length := by omega
  have ho : Sd.Ones H.length (Sd.low i) := by rw [e]; exact Sd.low_ones (by omega)
  have hl := (Sd.low_is i).1
  unfold okB okH
  rw [Bool.eq_iff_iff, List.all_eq_true, List.all_eq_true]
  have hh : ∀ b, b < Sd.low i → (Sd.fr stp (Sd.low i) (i + 2 ^ b) t == (R b, 0)) = (Sd.fr stp (Sd.low i) (2 ^ b) t == (H.getD (H.length - 2 ^ b) [], 0)) := fun b hb => by
    rw [fr_low (Sd.low_mod i), h.inv.low (st := stp) ho hb (by omega)]
  constructor
  · intro hx b hb; have := hx b hb; rwa [hh b (by simpa using hb)] at this
  · intro hx b hb; have := hx b hb; rwa [← hh b (by simpa using hb)] at this

theorem addF_H {H : List Bs} {R : Nat → Bs} (h : Sk H R) (i : Int) (t : Bs) : (addF H.length R i t).1 = (addH H i t).1 ∧ (addF H.length R i t).2.1 = (addH H i t).2.length ∧ Sk (addH H i t).2 (addF H.length R i t).2.2 := by
  unfold addF addH
  by_cases h0 : i < 0 ∨ i ≠ 1048575 - (H.length : Int)
  · rw [if_pos h0, if_pos h0]; exact ⟨rfl, rfl, h⟩
  · rw [if_neg h0, if_neg h0]
    by_cases hd : Tm.deep t = 0
    · rw [if_pos hd, if_pos hd]; exact ⟨rfl, rfl, h⟩
    · rw [if_neg hd, if_neg hd]
      have hi : i.toNat + H.length = 1048575 := by omega
      rw [okB_okH h hi]
      cases hok : okH H (Sd.low i.toNat) t with
      | false => exact ⟨rfl, rfl, h⟩
      | true =>
        refine ⟨rfl, by simp, ?_, fun k => ?_⟩
        · have e : i.toNat = 2 ^ 20 - 1 - H.length := by omega
          have ho : Sd.Ones H.length (Sd.low i.toNat) := by rw [e]; exact Sd.low_ones (by omega)
          have hne : t ≠ [] := by rintro rfl; exact hd rfl
          refine h.inv.add (st := stp) (by omega) ho hne fun b hb => ?_
          unfold okH at hok
          rw [List.all_eq_true] at hok
          have := hok b (by simpa using hb)
          simpa using this
        · show (addR R (Sd.low i.toNat) t k).length ≤ 20000
          unfold addR
          split
          · simp
          · split
            · exact deep_len hd
            · exact h.len k

theorem getRes_H {H : List Bs} {R : Nat → Bs} (h : Sk H R) (i : Int) : getRes H.length R i = getH H i := by
  unfold getRes getH
  by_cases h0 : i < 1048576 - (H.length : Int) ∨ 1048575 < i
  · rw [if_pos h0, if_pos h0]
  · rw [if_neg h0, if_neg h0]
    have hle := h.inv.le
    have := h.inv.get (st := stp) (i := i.toNat) (by omega) (by omega)
    rw [show (2 : Nat) ^ 20 = 1048576 from rfl] at this
    exact this

theorem keptF_pop {H : List Bs} {R : Nat → Bs} (h : Sk H R) : ∀ n k, n + k ≤ 21 → keptF R n k = Sd.popF H.length n k
  | 0, _, _ => rfl
  | n + 1, k, hk => by
    unfold keptF Sd.popF
    rw [keptF_pop h n (k + 1) (by omega)]
    congr 1
    have hb := h.inv.bit k (by omega)
    by_cases e : R k = []
    · rw [if_pos e, if_neg (by intro hh; exact (hb.2 hh) e)]
    · rw [if_neg e, if_pos (hb.1 e)]

/-- a store that heard these -/
def StH (w : World) (g : Nat) (H : List Bs) : Prop := ∃ R, Sk H R ∧ Sto w g H.length R
theorem StH.le {w : World} {g : Nat} {H : List Bs} (h : StH w g H) : H.length ≤ 1048576 := by obtain ⟨R, h1, _⟩ := h; exact h1.inv.le
theorem StH.lt {w : World} {g : Nat} {H : List Bs} (h : StH w g H) : g < w.heap.size := by obtain ⟨R, _, h2⟩ := h; exact h2.lt
theorem StH.same {w w' : World} {g : Nat} {H : List Bs} (h : StH w g H) (hh : w'.heap[g]? = w.heap[g]?) : StH w' g H := by
  obtain ⟨R, h1, h2⟩ := h
  exact ⟨R, h1, hh.trans h2⟩
theorem StH.below {w w' : World} {g : Nat} {H : List Bs} (h : StH w g H) (hb : Below w.heap.size w w') : StH w' g H := h.same (hb.block g h.lt)

theorem newH (w : World) : Calls Tryd.prog 11 #[] w fun e w' => e = .returned (.pointer (some ⟨w.heap.size, 0, none⟩)) ∧ StH w' w.heap.size [] ∧ Below w.heap.size w w' :=
  (new_any w).mono (fun e w' ⟨h1, h2⟩ => ⟨h1, ⟨_, sk_nil, by rw [h2]; exact sto_new (c := 0) rfl⟩, by rw [h2]; exact (Below.refl _ w).alloc (Nat.le_refl _) _⟩)
theorem copyH {w : World} {g : Nat} {H : List Bs} (h : StH w g H) : Calls Tryd.prog 17 #[.pointer (some ⟨g, 0, none⟩)] w fun e w' => e = .returned (.pointer (some ⟨w.heap.size, 0, none⟩)) ∧ StH w' w.heap.size H ∧ Below w.heap.size w w' := by
  obtain ⟨R, h1, h2⟩ := h
  exact (copy_any h2).mono (fun e w' ⟨q1, q2⟩ => ⟨q1, ⟨R, h1, by rw [q2]; exact sto_new rfl⟩, by rw [q2]; exact (Below.refl _ w).alloc (Nat.le_refl _) _⟩)
theorem countH {w : World} {g : Nat} {H : List Bs} (h : StH w g H) : Calls Tryd.prog 18 #[.pointer (some ⟨g, 0, none⟩)] w fun e w' => e = .returned (.int .i64 (H.length : Int)) ∧ w' = w := by
  obtain ⟨R, h1, h2⟩ := h
  exact count_any h2
theorem keptH {w : World} {g : Nat} {H : List Bs} (h : StH w g H) : Calls Tryd.prog 19 #[.pointer (some ⟨g, 0, none⟩)] w fun e w' => e = .returned (.int .i64 (Sd.popF H.length 21 0 : Int)) ∧ w' = w := by
  obtain ⟨R, h1, h2⟩ := h
  have := kept_any h2
  rwa [keptF_pop h1 21 0 (by omega)] at this
theorem getHA {w : World} {g : Nat} {H : List Bs} (i : Int) (h : StH w g H) (hp : Pw w) : Calls Tryd.prog 15 #[.pointer (some ⟨g, 0, none⟩), .int .i64 i] w fun e w' => e = made (getH H i) ∧ Below w.heap.size w w' := by
  obtain ⟨R, h1, h2⟩ := h
  have := get_any i h2 h1.inv.le h1.len hp
  rwa [getRes_H h1] at this
theorem addHA {w : World} {g : Nat} {H : List Bs} (i : Int) (t : Bs) (h : StH w g H) (hp : Pw w) (hz : Tz w) : Calls Tryd.prog 13 #[.pointer (some ⟨g, 0, none⟩), .int .i64 i, St t] w fun e w' => e = .returned (.int .i64 ((addH H i t).1 : Int)) ∧ StH w' g (addH H i t).2 ∧ Frx w.heap.size g w w' := by
  obtain ⟨R, h1, h2⟩ := h
  obtain ⟨e1, e2, e3⟩ := addF_H h1 i t
  have := add_any i t h2 h1.inv.le hp hz
  rw [e1, e2] at this
  exact this.mono (fun e w' ⟨q1, q2, q3⟩ => ⟨q1, ⟨_, e3, q2⟩, q3⟩)
end Go.Proofs.YtmdiggbbgcjcnaaDoor
