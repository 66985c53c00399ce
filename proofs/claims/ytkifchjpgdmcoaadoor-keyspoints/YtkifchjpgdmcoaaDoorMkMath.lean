/- Tuples of up to 32 terms: reading what was put together. No program in it. -/
import Derived.Test.YtkifchjpgdmcoaaDoorBuild
import Derived.Lib.ItoaNum
namespace Go.Proofs.YtkifchjpgdmcoaaDoor
open Go.RowKit

theorem num_dec (n : Nat) (h : n ≤ 32) (x : Bs) : Tm.num 58 (Lib.decDigits n ++ 58 :: x) = some (n, x) := by
  by_cases h10 : n < 10
  · rw [Lib.decDigits_one h10]
    have e1 : (UInt8.ofNat (48 + n)).toNat = 48 + n := by simp; omega
    have e2 : ¬ UInt8.ofNat (48 + n) = 58 := by intro e; have := congrArg UInt8.toNat e; rw [e1] at this; simp at this; omega
    simp only [List.cons_append, List.nil_append, Tm.num, Tm.numGo, e1]
    rw [if_neg e2, if_pos ⟨by omega, by omega, by omega⟩, if_pos trivial]
    simp
    omega
  · rw [Lib.decDigits_two h10 (by omega)]
    have e1 : (UInt8.ofNat (48 + n / 10)).toNat = 48 + n / 10 := by simp; omega
    have e2 : ¬ UInt8.ofNat (48 + n / 10) = 58 := by intro e; have := congrArg UInt8.toNat e; rw [e1] at this; simp at this; omega
    have e3 : (UInt8.ofNat (48 + n % 10)).toNat = 48 + n % 10 := by simp; omega
    have e4 : ¬ UInt8.ofNat (48 + n % 10) = 58 := by intro e; have := congrArg UInt8.toNat e; rw [e3] at this; simp at this; omega
    simp only [List.cons_append, List.nil_append, Tm.num, Tm.numGo, e1, e3]
    rw [if_neg e2, if_pos ⟨by omega, by omega, by omega⟩, if_neg e4, if_pos ⟨by omega, by omega, by omega⟩, if_pos trivial]
    have e6 : ¬ UInt8.ofNat (n / 10) = 0 := by intro e; have := congrArg UInt8.toNat e; simp at this; omega
    simp [e6]
    omega

theorem many_flat (m : Nat) : ∀ (ks : List Bs) (d : Nat) (x : Bs), (∀ k ∈ ks, Tm.deep k ≠ 0) → (∀ k ∈ ks, Tm.deep k ≤ m) →
    Tm.manyA (Tm.rd m) ks.length d (ks.flatten ++ x) = some (ks.foldl (fun d k => max d (Tm.deep k + 1)) d, x)
  | [], d, x, _, _ => rfl
  | k :: ks, d, x, h0, h1 => by
    have hk := (Tm.deep_is (h0 k (by simp))).1
    rw [List.length_cons, Tm.manyA, List.flatten_cons, List.append_assoc, hk.2.2 m _ (h1 k (by simp))]
    exact many_flat m ks _ x (fun y hy => h0 y (by simp [hy])) (fun y hy => h1 y (by simp [hy]))

theorem fold_ge (ks : List Bs) : ∀ d, d ≤ ks.foldl (fun d k => max d (Tm.deep k + 1)) d ∧ ∀ k ∈ ks, Tm.deep k + 1 ≤ ks.foldl (fun d k => max d (Tm.deep k + 1)) d := by
  induction ks with
  | nil => intro d; simp
  | cons y ks ih =>
    intro d
    have h := ih (max d (Tm.deep y + 1))
    refine ⟨by simp only [List.foldl_cons]; omega, fun k hk => ?_⟩
    simp only [List.foldl_cons]
    rcases List.mem_cons.1 hk with rfl | hk
    · omega
    · exact h.2 k hk

/-- what is put together of right terms is a right term, but for its size -/
theorem is_tuple (ks : List Bs) (hn : ks.length ≤ 32) (h0 : ∀ k ∈ ks, Tm.deep k ≠ 0) : Tm.Is (bDeep ks) (84 :: (Lib.decDigits ks.length ++ [58] ++ ks.flatten)) := by
  have hf := fold_ge ks 1
  refine ⟨hf.1, by simp, fun n x hd => ?_⟩
  have hd' : ks.foldl (fun d k => max d (Tm.deep k + 1)) 1 ≤ n := hd
  obtain ⟨m, rfl⟩ : ∃ m, n = m + 1 := ⟨n - 1, by omega⟩
  have e : (84 :: (Lib.decDigits ks.length ++ [58] ++ ks.flatten)) ++ x = 84 :: (Lib.decDigits ks.length ++ 58 :: (ks.flatten ++ x)) := by simp
  rw [e, Tm.rd]
  rw [if_neg (by decide), if_neg (by decide), if_pos rfl, num_dec _ hn]
  simp only
  rw [if_pos hn]
  exact many_flat m ks 1 x h0 (fun k hk => by have := hf.2 k hk; omega)

/-- the document's tuple is build's -/
theorem tuple_res (ks : List Bs) (hn : ks.length ≤ 32) (h0 : ∀ k ∈ ks, Tm.deep k ≠ 0) :
    (if Tm.deep (84 :: (Lib.decDigits ks.length ++ [58] ++ ks.flatten)) = 0 then (([], 3) : Bs × Nat) else (84 :: (Lib.decDigits ks.length ++ [58] ++ ks.flatten), 0)) = bRes 84 (Lib.decDigits ks.length ++ [58]) ks := by
  have hi := is_tuple ks hn h0
  have ha : ¬ ks.any (fun k => Tm.deep k == 0) = true := by
    rw [List.any_eq_true]
    rintro ⟨k, hk, he⟩
    exact h0 k hk (by simpa using he)
  have hlen : (84 :: (Lib.decDigits ks.length ++ [58] ++ ks.flatten)).length = 1 + (Lib.decDigits ks.length ++ [58]).length + bSize ks := by
    rw [bSize_flat]; simp only [List.length_cons, List.length_append]; omega
  unfold bRes
  rw [if_neg ha]
  by_cases hl : 64 < bDeep ks ∨ 16384 < 1 + (Lib.decDigits ks.length ++ [58]).length + bSize ks
  · rw [if_pos hl, if_pos (Tm.is_deep0 hi (by rw [hlen]; exact hl))]
  · have h1 : bDeep ks ≤ 64 := by omega
    have h2 : 1 + (Lib.decDigits ks.length ++ [58]).length + bSize ks ≤ 16384 := by omega
    have hd := Tm.is_deep hi h1 (by rw [hlen]; exact h2)
    rw [if_neg hl, if_neg (by rw [hd]; have := hi.1; omega)]
theorem tuple_bad (op : UInt8) (head : Bs) (ks : List Bs) (i : Nat) (h : i < ks.length) (hz : Tm.deep ks[i] = 0) : bRes op head ks = ([], 10) := by
  unfold bRes; rw [if_pos (any_take h hz)]
end Go.Proofs.YtkifchjpgdmcoaaDoor
