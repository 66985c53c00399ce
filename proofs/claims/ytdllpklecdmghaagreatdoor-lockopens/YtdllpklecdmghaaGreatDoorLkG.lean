/- A lock is written. -/
import Derived.Test.YtdllpklecdmghaaGreatDoorLkF
namespace Go.Proofs.YtdllpklecdmghaaGreatDoor
open Go.RowKit
open Lk (Lt)

theorem dec_len (n : Nat) (h : n ≤ 18446744073709551615) : (Lib.decDigits n).length ≤ 20 := by
  have step : ∀ (k m : Nat), m < 10 ^ (k + 1) → (Lib.decDigits m).length ≤ k + 1 := by
    intro k
    induction k with
    | zero => intro m hm; rw [Lib.decDigits_one (by omega)]; simp
    | succ k ih =>
      intro m hm
      by_cases h10 : m < 10
      · rw [Lib.decDigits_one h10]; simp
      · rw [Lib.decDigits, dif_neg h10, List.length_append]
        have := ih (m / 10) (by rw [Nat.pow_succ] at hm; omega)
        simp; omega
  exact step 19 n (by omega)
theorem wr_len : ∀ (l : Lt), Lk.ok l = true → (Lk.wr l).length ≤ Lk.size l * 16400 := by
  intro l
  induction l using Lk.Lt.ind with
  | h k t n ks ih =>
    intro hok
    rw [Lk.ok, Bool.and_eq_true] at hok
    have hs : ∀ (ms : List Lt), (∀ x ∈ ms, x ∈ ks) → Lk.oks ms = true → (Lk.wrs ms).length ≤ Lk.sizes ms * 16400 := by
      intro ms
      induction ms with
      | nil => intro _ _; simp [Lk.wrs, Lk.sizes]
      | cons x ms ihm =>
        intro hm ho
        rw [Lk.oks, Bool.and_eq_true] at ho
        rw [Lk.wrs, Lk.sizes, List.length_append]
        have h1 := ih x (hm x (by simp)) ho.1
        have h2 := ihm (fun y hy => hm y (by simp [hy])) ho.2
        omega
    rw [Lk.wr, Lk.size, List.length_cons]
    have hk := Lk.fit_kind hok.1
    by_cases h12 : k = 1 ∨ k = 2
    · rw [if_pos h12]
      have h1 := (Lk.fit_t h12 hok.1).2.2
      have := (Tm.deep_is h1).2
      omega
    · rw [if_neg h12]
      by_cases h34 : k = 3 ∨ k = 4
      · rw [if_pos h34]
        have h1 := Lk.fit_n h34 hok.1
        have := dec_len n.toNat (by omega)
        simp only [List.length_append, List.length_singleton]
        omega
      · rw [if_neg h34]
        have h1 := Lk.fit_k (k := k) (by omega) hok.1
        have := dec_len ks.length (by omega)
        have := hs ks (fun _ h => h) hok.2
        simp only [List.length_append, List.length_cons]
        omega
theorem wr_right {l : Lt} (h : Lk.right l = true) : (Lk.wr l).length ≤ 1049600 := by
  rw [Lk.right_is] at h
  have := wr_len l h.1
  omega
/-- what Write answers -/
def wrRes (l : Lt) : Bs × Nat := if Lk.right l = true then (Lk.wr l, 0) else ([], 110)
set_option maxHeartbeats 4000000 in
set_option maxRecDepth 100000 in
theorem write_any {b : Nat → Prop} (d : Nat) (l : Lt) (kv : Value) (w : World) (hk : Kd b w d kv l.kids) (hp : Pw w) : Calls Tryz.prog 8 #[.agg (lcs l kv)] w fun e w' => e = .returned (.tuple #[St (wrRes l).1, .int .i64 ((wrRes l).2 : Int)]) ∧ Below w.heap.size w w' := by
  have HR : Hid (∀ W, Below w.heap.size w W → Calls Tryz.prog 10 #[.agg (lcs l kv)] W fun e w' => e = .returned (.bool (Lk.right l)) ∧ Below w.heap.size w w') := hid (fun W hW => (lright_any d l kv W (hk.low hW)).mono (fun e w' ⟨h1, h2⟩ => ⟨h1, hW.trans (h2.mono hW.size)⟩))
  obtain ⟨R, hR⟩ : ∃ R, R = Lk.right l := ⟨_, rfl⟩
  rw [← hR] at HR
  cases R with
  | false =>
    have HW : Hid (wrRes l = ([], 110)) := hid (by unfold wrRes; rw [← hR]; rfl)
    rw [HW.out]
    obtain ⟨_, ao, cap, rfl⟩ := hk.shape
    unfold lcs at *
    clear hk hp hR
    go_enter Tryz.func8, Tryz.ntmps8
    go_wp2_with fail
    refine (HR.out _ (below_al _ _)).mono ?_
    rintro e w1 ⟨rfl, hb⟩
    have HB := hid hb
    clear hb HR
    go_wp2_with fail
    go_ret2
    exact ⟨rfl, HB.out⟩
  | true =>
    have HW : Hid (wrRes l = (Lk.wr l, 0)) := hid (by unfold wrRes; rw [← hR]; rfl)
    rw [HW.out]
    have hlen := wr_right hR.symm
    have hok := ((Lk.right_is l).1 hR.symm).1
    obtain ⟨_, ao, cap, rfl⟩ := hk.shape
    obtain ⟨w0, hw0⟩ : ∃ w0, w0 = w.alloc (.cells #[.int .u8 (l.kind : Int), St l.term, .int .i64 l.n, .slice ao l.kids.length cap] 25) := ⟨_, rfl⟩
    have hB0 : Below w.heap.size w w0 := by rw [hw0]; exact below_al _ _
    have HR1 : Hid (Calls Tryz.prog 10 #[.agg #[.int .u8 (l.kind : Int), St l.term, .int .i64 l.n, .slice ao l.kids.length cap]] w0 fun e w' => e = .returned (.bool true) ∧ Below w0.heap.size w0 w') := hid (by
      have h := lright_any d l _ w0 (hk.low hB0)
      rw [← hR] at h
      exact h)
    have HAL : Hid (∀ W, Below w0.heap.size w0 W → Calls Tryz.prog 33 #[.slice none 0 0, .agg #[.int .u8 (l.kind : Int), St l.term, .int .i64 l.n, .slice ao l.kids.length cap]] W fun e w' => ∃ v', e = .returned v' ∧ w'.ownsRow w0.heap.size 5 1 v' (Lk.wr l).length (bcs (Lk.wr l)) ∧ Below w0.heap.size w0 w') := hid (fun W hW =>
      alock_any w0 (hp.below hB0) d l _ (hk.low hB0) hok W (.slice none 0 0) [] hW ⟨rfl, .inl ⟨rfl, rfl⟩⟩ (by simp only [List.length_nil]; omega))
    have HC0 : Hid (∀ W, Below w0.heap.size w0 W → W.cell? ⟨w.heap.size, 0, none⟩ = some (.int .u8 (l.kind : Int)) ∧ W.cell? ⟨w.heap.size, 1, none⟩ = some (St l.term) ∧ W.cell? ⟨w.heap.size, 2, none⟩ = some (.int .i64 l.n) ∧ W.cell? ⟨w.heap.size, 3, none⟩ = some (.slice ao l.kids.length cap)) := hid (fun W hW => by
      have h := fun (j : Nat) (u : Value) (hu : (#[Value.int .u8 (l.kind : Int), St l.term, .int .i64 l.n, .slice ao l.kids.length cap] : Array Value)[j]? = some u) => cell_later hW (a := ⟨w.heap.size, j, none⟩) (v := u) (by rw [hw0]; exact (cell_of_heap (heap_alloc_new w _) j).trans hu)
      exact ⟨h 0 _ rfl, h 1 _ rfl, h 2 _ rfl, h 3 _ rfl⟩)
    have HB0 := hid hB0
    have HNE : Hid (Lk.wr l ≠ []) := hid (by cases l; rw [Lk.wr]; simp)
    unfold lcs
    clear hk hp hR hlen hok HR hB0 HW
    generalize Lk.wr l = T at *
    go_enter Tryz.func8, Tryz.ntmps8
    go_wp2_with fail
    rw [← hw0]
    refine HR1.out.mono ?_
    rintro e w1 ⟨rfl, hb⟩
    obtain ⟨q0, q1, q2, q3⟩ := HC0.out w1 hb
    have HAL1 := hid (HAL.out w1 hb)
    clear hb HR1 HAL hw0 HC0
    go_wp2_with fail
    refine HAL1.out.mono ?_
    rintro e w2 ⟨v2, rfl, ho, hb2⟩
    obtain ⟨g2, cap2, rfl, hcv⟩ := own_string ho HNE.out
    have hcv9 := hcv 9 Tryz.underlying9
    have HB2 := hid (HB0.out.trans (hb2.mono HB0.out.size))
    clear ho hb2 HAL1 q0 q1 q2 q3 hcv
    go_wp2_with fail
    go_ret2
    exact ⟨rfl, HB2.out⟩
end Go.Proofs.YtdllpklecdmghaaGreatDoor
