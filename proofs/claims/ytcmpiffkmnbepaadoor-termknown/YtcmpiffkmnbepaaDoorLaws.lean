/- What the answers of the makers and of the calls on keys, signatures and boxes say of one another. No program in it. -/
import Derived.Test.YtcmpiffkmnbepaaDoorAskB
namespace Go.Proofs.YtcmpiffkmnbepaaDoor
open Go.RowKit

/-- two parts, put together -/
theorem bRes_two (op : UInt8) (a b : Bs) : bRes op [] [a, b] =
    if Tm.deep a = 0 ∨ Tm.deep b = 0 then ([], 10) else if 64 < max (Tm.deep a) (Tm.deep b) + 1 ∨ 16384 < 1 + a.length + b.length then ([], 3) else (op :: (a ++ b), 0) := by
  unfold bRes
  have e1 : ([a, b].any (fun k => Tm.deep k == 0) = true) ↔ (Tm.deep a = 0 ∨ Tm.deep b = 0) := by simp
  have e2 : bDeep [a, b] = max (Tm.deep a) (Tm.deep b) + 1 := by simp [bDeep]
  have e3 : 1 + ([] : Bs).length + bSize [a, b] = 1 + a.length + b.length := by simp [bSize]; omega
  have e4 : ([] : Bs) ++ [a, b].flatten = a ++ b := by simp
  by_cases h : Tm.deep a = 0 ∨ Tm.deep b = 0
  · rw [if_pos (e1.2 h), if_pos h]
  · rw [if_neg (fun x => h (e1.1 x)), if_neg h, e2, e3, e4]

theorem bRes_two_ok {op : UInt8} {a b : Bs} (h : (bRes op [] [a, b]).2 = 0) :
    bRes op [] [a, b] = (op :: (a ++ b), 0) ∧ Tm.deep a ≠ 0 ∧ Tm.deep b ≠ 0 ∧ max (Tm.deep a) (Tm.deep b) + 1 ≤ 64 ∧ 1 + a.length + b.length ≤ 16384 := by
  rw [bRes_two] at h ⊢
  split at h
  · simp at h
  · rename_i h1
    split at h
    · simp at h
    · rename_i h2
      rw [if_neg h1, if_neg h2]
      exact ⟨rfl, fun e => h1 (Or.inl e), fun e => h1 (Or.inr e), by omega, by omega⟩

theorem bRes_same (op op' : UInt8) (a b : Bs) : (bRes op [] [a, b]).2 = (bRes op' [] [a, b]).2 := by
  rw [bRes_two, bRes_two]
  split
  · rfl
  · split <;> rfl

/-- what was made of two is right, and has these two parts -/
theorem made_two {op : UInt8} {a b : Bs} (hop : Tm.isTwo op = true) (ha : Tm.deep a ≠ 0) (hb : Tm.deep b ≠ 0) (h1 : max (Tm.deep a) (Tm.deep b) + 1 ≤ 64) (h2 : 1 + a.length + b.length ≤ 16384) :
    Tm.deep (op :: (a ++ b)) = max (Tm.deep a) (Tm.deep b) + 1 ∧ Tm.kidsOf 63 (op :: (a ++ b)) = [a, b] := by
  have ia := (Tm.deep_is ha).1
  have ib := (Tm.deep_is hb).1
  have hi := Tm.is_two ia ib hop
  have hd : Tm.deep (op :: (a ++ b)) = max (Tm.deep a) (Tm.deep b) + 1 := Tm.is_deep hi h1 (by simp; omega)
  refine ⟨hd, ?_⟩
  obtain ⟨p, q, x, y, hk, hpq, hp, hq, _⟩ := kids_two (by rw [hd]; omega) hop
  obtain ⟨rfl, rfl, _⟩ := Tm.is_uniq ia hp hpq
  exact hk

theorem unbox_made {a b j : Bs} (ha : Tm.deep a ≠ 0) (hb : Tm.deep b ≠ 0) (h1 : max (Tm.deep a) (Tm.deep b) + 1 ≤ 64) (h2 : 1 + a.length + b.length ≤ 16384) :
    unboxRes j (66 :: (a ++ b)) = if a = j then (b, true) else ([], false) := by
  obtain ⟨hd, hk⟩ := made_two (op := 66) (by decide) ha hb h1 h2
  unfold unboxRes
  rw [if_pos ⟨by rw [hd]; omega, rfl⟩, hk]

theorem verify_made {a b p m : Bs} (ha : Tm.deep a ≠ 0) (hb : Tm.deep b ≠ 0) (h1 : max (Tm.deep a) (Tm.deep b) + 1 ≤ 64) (h2 : 1 + a.length + b.length ≤ 16384) :
    verifyRes p m (83 :: (a ++ b)) = (b == m && Tm.pk a == p) := by
  obtain ⟨hd, hk⟩ := made_two (op := 83) (by decide) ha hb h1 h2
  unfold verifyRes
  rw [if_pos ⟨by rw [hd]; omega, rfl⟩, hk]

theorem verify_box (p m : Bs) (l : Bs) : verifyRes p m (66 :: l) = false := by
  unfold verifyRes
  rw [if_neg (by simp)]

theorem pub_ok {k : Bs} (h : (pubRes k).2 = 0) : pubRes k = (Tm.pk k, 0) ∧ Tm.deep k ≠ 0 ∧ Tm.deep (Tm.pk k) ≠ 0 := by
  unfold pubRes at h ⊢
  split at h
  · simp at h
  · rename_i h1
    split at h
    · simp at h
    · rename_i h2
      rw [if_neg h1, if_neg h2]
      exact ⟨rfl, h1, h2⟩

theorem pk_eq {a b : Bs} (ha : Tm.deep a ≠ 0) (hb : Tm.deep b ≠ 0) : Tm.pk a = Tm.pk b ↔ a = b := by
  constructor
  · intro h
    exact (Tm.pk_inj a.length (x := []) (y := []) (Nat.le_refl _) (Tm.deep_is ha).1 (Tm.deep_is hb).1 (Tm.deep_le a) (Tm.deep_le b) (by rw [h])).1
  · intro h; rw [h]
end Go.Proofs.YtcmpiffkmnbepaaDoor
