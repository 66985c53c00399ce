/- Unknown, of none or one known. -/
import Derived.Test.YtdhmmllpioppfaaVUnk
namespace Go.Proofs.Ytdhmmllpioppfaa.V
open Go.RowKit

set_option maxHeartbeats 2000000 in
set_option maxRecDepth 100000 in
theorem bin_one (w : World) (g c k t : Nat) (hc : w.cell? ⟨g, 0, none⟩ = some (.int .u64 (k : Int))) : Calls Try.prog 53 #[.slice (some ⟨g, 0, none⟩) 1 c, .int .u64 (t : Int)] w fun e w' => (∃ i : Int, e = .returned (.tuple #[.int .i64 i, .bool (k == t)])) ∧ w' = w := by
  have HLS := hid (fun W => less_any k t W)
  rcases Nat.lt_trichotomy k t with h | h | h
  · have hkt : (k == t) = false := by simp; omega
    rw [decide_eq_true h] at HLS
    rw [hkt]
    clear hkt h
    go_enter Try.func53, Try.ntmps53
    go_wp2_with fail
    go_loopg [7, 8, 9] (2 : Nat) (fun gg v7 v8 v9 wr => wr = w ∧ ∃ i : Nat, i ≤ 1 ∧ gg = 2 - i ∧ v7 = .int .i64 (i : Int) ∧ v8 = .int .i64 1)
    case atStart => exact ⟨rfl, 0, by omega, rfl, rfl, rfl⟩
    case round =>
      obtain ⟨hwr, i, hi, rfl, rfl, rfl⟩ := hrel
      subst hwr
      have hi' : i = 0 ∨ i = 1 := by omega
      clear hi
      rcases hi' with rfl | rfl
      · go_wp2_with fail
        refine (HLS.out _).mono ?_
        rintro e w1 ⟨rfl, hw1⟩
        subst hw1
        go_wp2_with fail
        go_roundg (1 : Nat)
        case measure => omega
        case rel => exact ⟨rfl, 1, by omega, rfl, rfl, rfl⟩
      · go_wp2_with fail
        go_ret2
        exact ⟨⟨_, rfl⟩, rfl⟩
  · subst h
    have hkt : (k == k) = true := by simp
    have hll : ¬ k < k := by omega
    rw [decide_eq_false hll] at HLS
    rw [hkt]
    clear hkt hll
    go_enter Try.func53, Try.ntmps53
    go_wp2_with fail
    go_loopg [7, 8, 9] (2 : Nat) (fun gg v7 v8 v9 wr => wr = w ∧ ∃ i : Nat, i ≤ 1 ∧ gg = 1 + i ∧ v7 = .int .i64 0 ∧ v8 = .int .i64 (i : Int))
    case atStart => exact ⟨rfl, 1, by omega, rfl, rfl, rfl⟩
    case round =>
      obtain ⟨hwr, i, hi, rfl, rfl, rfl⟩ := hrel
      subst hwr
      have hi' : i = 0 ∨ i = 1 := by omega
      clear hi
      rcases hi' with rfl | rfl
      · go_wp2_with fail
        go_ret2
        exact ⟨⟨_, rfl⟩, rfl⟩
      · go_wp2_with fail
        refine (HLS.out _).mono ?_
        rintro e w1 ⟨rfl, hw1⟩
        subst hw1
        go_wp2_with fail
        go_roundg (1 : Nat)
        case measure => omega
        case rel => exact ⟨rfl, 0, by omega, rfl, rfl, rfl⟩
  · have hkt : (k == t) = false := by simp; omega
    have hkb : ((k : Int) == (t : Int)) = false := by simp; omega
    have hll : ¬ k < t := by omega
    rw [decide_eq_false hll] at HLS
    rw [hkt]
    clear hkt hll h
    go_enter Try.func53, Try.ntmps53
    go_wp2_with fail
    go_loopg [7, 8, 9] (2 : Nat) (fun gg v7 v8 v9 wr => wr = w ∧ ∃ i : Nat, i ≤ 1 ∧ gg = 1 + i ∧ v7 = .int .i64 0 ∧ v8 = .int .i64 (i : Int))
    case atStart => exact ⟨rfl, 1, by omega, rfl, rfl, rfl⟩
    case round =>
      obtain ⟨hwr, i, hi, rfl, rfl, rfl⟩ := hrel
      subst hwr
      have hi' : i = 0 ∨ i = 1 := by omega
      clear hi
      rcases hi' with rfl | rfl
      · go_wp2
        go_ret2
        exact ⟨⟨_, rfl⟩, rfl⟩
      · go_wp2_with fail
        refine (HLS.out _).mono ?_
        rintro e w1 ⟨rfl, hw1⟩
        subst hw1
        go_wp2_with fail
        go_roundg (1 : Nat)
        case measure => omega
        case rel => exact ⟨rfl, 0, by omega, rfl, rfl, rfl⟩

theorem unknown_none (w : World) (v : Value) (L : List Rec) (hL : Rcs w v L) (hm : L.length ≤ 140737488355328) (ht : ∀ i (h : i < L.length), L[i].1 < 18446744073709551616) :
    Calls Try.prog 37 #[v, .slice none 0 0] w fun e w' => e = .returned (.bool (L.any fun r => r.1 % 2 == 0 && !false)) ∧ Below w.heap.size w w' := by
  refine unknown_of w v _ L (fun _ => false) hL hm ht ?_
  refine (clone_none w).mono ?_
  rintro e w1 ⟨rfl, hw1⟩
  subst hw1
  refine ⟨none, 0, 0, rfl, Below.refl _ _, ?_⟩
  refine (sort_few w1 none 0 0 (by omega)).mono ?_
  rintro e w2 ⟨rfl, hw2⟩
  subst hw2
  refine ⟨rfl, Below.refl _ _, fun W t hb => ?_⟩
  refine (bin_none W t).mono ?_
  rintro e w3 ⟨rfl, hw3⟩
  subst hw3
  exact ⟨0, rfl, Below.refl _ _⟩
theorem unknown_one (w : World) (v : Value) (L : List Rec) (g o c k : Nat) (hc : w.cell? ⟨g, o, none⟩ = some (.int .u64 (k : Int))) (hL : Rcs w v L) (hm : L.length ≤ 140737488355328) (ht : ∀ i (h : i < L.length), L[i].1 < 18446744073709551616) :
    Calls Try.prog 37 #[v, .slice (some ⟨g, o, none⟩) 1 c] w fun e w' => e = .returned (.bool (L.any fun r => r.1 % 2 == 0 && !(k == r.1))) ∧ Below w.heap.size w w' := by
  refine unknown_of w v _ L (fun t => k == t) hL hm ht ?_
  refine (clone_one w g o c k hc).mono ?_
  rintro e w1 ⟨g1, c1, rfl, hg1, hc1, hb1⟩
  refine ⟨_, 1, c1, rfl, hb1, ?_⟩
  refine (sort_few w1 _ 1 c1 (by omega)).mono ?_
  rintro e w2 ⟨rfl, hw2⟩
  subst hw2
  refine ⟨rfl, hb1, fun W t hb => ?_⟩
  refine (bin_one W g1 c1 k t (by rw [← hc1]; exact World.cell?_of_block (hb.block g1 hg1))).mono ?_
  rintro e w3 ⟨⟨i, rfl⟩, hw3⟩
  subst hw3
  exact ⟨i, rfl, Below.refl _ _⟩
end Go.Proofs.Ytdhmmllpioppfaa.V
