/- What may be wrong with a text: each fault, as its closure tells it. -/
import Derived.Test.YtelfogdcijmenaaDoorWof
namespace Go.Proofs.YtelfogdcijmenaaDoor
open Go.RowKit

theorem low_any : ∀ c : Fin 256, Lib.lowerB (UInt8.ofNat c.val) = lowC (UInt8.ofNat c.val) := by decide +kernel
theorem lower_low (l : Bs) : Lib.toLowerA l = low l := by
  unfold Lib.toLowerA low
  apply List.map_congr_left
  intro c _
  have h := low_any ⟨c.toNat, c.toNat_lt⟩
  simpa using h
/-- the words of what stands behind the mark -/
def wordsB (s : Bs) : Bs := (low (tailB s)).map wordOf
def test (s : Bs) : Nat → Bool
  | 0 => decide (32768 < s.length)
  | 1 => s.any outB
  | 2 => s.any smlB && s.any capB
  | 3 => !fitB (headB s)
  | 4 => decide ((tailB s).length < 6)
  | 5 => (wordsB s).any nwB
  | 6 => decide (chk 1 (headW (low (headB s)) ++ wordsB s) ≠ 1)
  | _ => true
def errOf : Nat → Nat
  | 0 => 3
  | 6 => 61
  | _ => 60
def fnOf : Nat → Nat
  | 0 => 30
  | 1 => 31
  | 2 => 32
  | 3 => 34
  | 4 => 35
  | 5 => 36
  | _ => 39
abbrev pt (b : Nat) : Value := .pointer (some ⟨b, 0, none⟩)
def capsOf (B bH : Nat) : Nat → Array Value
  | 0 => #[pt B]
  | 1 => #[pt B]
  | 2 => #[pt B]
  | 3 => #[pt bH]
  | 4 => #[pt (bH + 1)]
  | 5 => #[pt (bH + 1), pt (bH + 2)]
  | _ => #[pt bH, pt (bH + 2)]
/-- the row of faults -/
def faults (B bH : Nat) : Array Value := #[.int .i64 3, .func (.func 30) #[] #[pt B], .int .i64 60, .func (.func 31) #[] #[pt B], .int .i64 60, .func (.func 32) #[] #[pt B], .int .i64 60, .func (.func 34) #[] #[pt bH], .int .i64 60, .func (.func 35) #[] #[pt (bH + 1)], .int .i64 60, .func (.func 36) #[] #[pt (bH + 1), pt (bH + 2)], .int .i64 61, .func (.func 39) #[] #[pt bH, pt (bH + 2)]]
theorem dec_eq (s : Bs) : decB s = if test s 0 = true then ([], [], 3) else if test s 1 = true then ([], [], 60) else if test s 2 = true then ([], [], 60) else if test s 3 = true then ([], [], 60) else if test s 4 = true then ([], [], 60) else if test s 5 = true then ([], [], 60) else if test s 6 = true then ([], [], 61) else (low (headB s), (wordsB s).take ((tailB s).length - 6), 0) := by
  unfold decB
  by_cases hz : chk 1 (headW (low (headB s)) ++ (low (tailB s)).map wordOf) = 1 <;> simp only [test, wordsB, decide_eq_true_eq, hz, ne_eq, not_true_eq_false, not_false_eq_true, decide_false, decide_true, Bool.false_eq_true, if_false]
theorem dec_fail {s : Bs} {i : Nat} (hi : i < 7) (hp : ∀ j, j < i → test s j = false) (ht : test s i = true) : decB s = ([], [], errOf i) := by
  have h7 : i = 0 ∨ i = 1 ∨ i = 2 ∨ i = 3 ∨ i = 4 ∨ i = 5 ∨ i = 6 := by omega
  rw [dec_eq]
  have p : ∀ j, j < i → ¬ test s j = true := fun j hj => by rw [hp j hj]; decide
  rcases h7 with rfl | rfl | rfl | rfl | rfl | rfl | rfl
  · rw [if_pos ht]; rfl
  · rw [if_neg (p 0 (by omega)), if_pos ht]; rfl
  · rw [if_neg (p 0 (by omega)), if_neg (p 1 (by omega)), if_pos ht]; rfl
  · rw [if_neg (p 0 (by omega)), if_neg (p 1 (by omega)), if_neg (p 2 (by omega)), if_pos ht]; rfl
  · rw [if_neg (p 0 (by omega)), if_neg (p 1 (by omega)), if_neg (p 2 (by omega)), if_neg (p 3 (by omega)), if_pos ht]; rfl
  · rw [if_neg (p 0 (by omega)), if_neg (p 1 (by omega)), if_neg (p 2 (by omega)), if_neg (p 3 (by omega)), if_neg (p 4 (by omega)), if_pos ht]; rfl
  · rw [if_neg (p 0 (by omega)), if_neg (p 1 (by omega)), if_neg (p 2 (by omega)), if_neg (p 3 (by omega)), if_neg (p 4 (by omega)), if_neg (p 5 (by omega)), if_pos ht]; rfl
theorem dec_ok {s : Bs} (hp : ∀ j, j < 7 → test s j = false) : decB s = (low (headB s), (wordsB s).take ((tailB s).length - 6), 0) := by
  have p : ∀ j, j < 7 → ¬ test s j = true := fun j hj => by rw [hp j hj]; decide
  rw [dec_eq, if_neg (p 0 (by omega)), if_neg (p 1 (by omega)), if_neg (p 2 (by omega)), if_neg (p 3 (by omega)), if_neg (p 4 (by omega)), if_neg (p 5 (by omega)), if_neg (p 6 (by omega))]
/-- what stays when a fault is looked for -/
def Fr (bH : Nat) (W W' : World) : Prop := W.heap.size ≤ W'.heap.size ∧ ∀ k, k < W.heap.size → k ≠ bH → k ≠ bH + 2 → W'.heap[k]? = W.heap[k]?
theorem Fr.of_below {bH : Nat} {W W' : World} (h : Below W.heap.size W W') : Fr bH W W' := ⟨h.size, fun k hk _ _ => h.block k hk⟩
theorem Fr.trans {bH : Nat} {W W1 W2 : World} (h : Fr bH W W1) (k : Fr bH W1 W2) : Fr bH W W2 :=
  ⟨Nat.le_trans h.1 k.1, fun i hi h1 h2 => (k.2 i (Nat.lt_of_lt_of_le hi h.1) h1 h2).trans (h.2 i hi h1 h2)⟩
theorem Fr.set0 {bH : Nat} (W : World) (v : Value) : Fr bH W (W.setCell ⟨bH, 0, none⟩ v) := ⟨by simp [World.setCell], fun k _ h1 _ => Below.heap_setCell _ _ _ _ h1⟩
theorem Fr.set2 {bH : Nat} (W : World) (v : Value) : Fr bH W (W.setCell ⟨bH + 2, 0, none⟩ v) := ⟨by simp [World.setCell], fun k _ _ h2 => Below.heap_setCell _ _ _ _ h2⟩
/-- what lies there ahead of the fault of number i -/
structure Dc (w : World) (B bH : Nat) (s : Bs) (i : Nat) (W : World) : Prop where
  lB : w.heap.size ≤ B
  lt : B < bH
  sC : W.heap[B]? = some (.cells #[St s] 9 (0, 0))
  hC : W.heap[bH]? = some (.cells #[St (if i ≤ 6 then headB s else low (headB s))] 9 (0, 0))
  tC : W.heap[bH + 1]? = some (.cells #[St (tailB s)] 9 (0, 0))
  wN : i ≤ 5 → W.heap[bH + 2]? = some (.cells #[.slice none 0 0] 22 (0, 0))
  wC : 6 ≤ i → ∃ a c, W.heap[bH + 2]? = some (.cells #[.slice a (wordsB s).length c] 22 (0, 0)) ∧ W.ownsRow (bH + 4) 5 1 (.slice a (wordsB s).length c) (wordsB s).length (bcs (wordsB s))
  fC : W.heap[bH + 3]? = some (.cells (faults B bH) 51 (0, 0))
  pass : ∀ j, j < i → test s j = false
  bel : Below w.heap.size w W
  mix : Mx W
theorem Dc.sc {w : World} {B bH : Nat} {s : Bs} {i : Nat} {W : World} (h : Dc w B bH s i W) : W.cell? ⟨B, 0, none⟩ = some (St s) := by rw [cell_of_heap h.sC]; rfl
theorem Dc.tc {w : World} {B bH : Nat} {s : Bs} {i : Nat} {W : World} (h : Dc w B bH s i W) : W.cell? ⟨bH + 1, 0, none⟩ = some (St (tailB s)) := by rw [cell_of_heap h.tC]; rfl
theorem Dc.hc {w : World} {B bH : Nat} {s : Bs} {i : Nat} {W : World} (h : Dc w B bH s i W) (hi : i ≤ 6) : W.cell? ⟨bH, 0, none⟩ = some (St (headB s)) := by
  have := h.hC
  rw [if_pos hi] at this
  rw [cell_of_heap this]
  rfl
/-- a fault that only looks -/
theorem Dc.next {w : World} {B bH : Nat} {s : Bs} {i : Nat} {W : World} (h : Dc w B bH s i W) (hi : i + 1 ≤ 5) (ht : test s i = false) : Dc w B bH s (i + 1) W :=
  ⟨h.lB, h.lt, h.sC, by have := h.hC; rw [if_pos (by omega)] at this; rw [if_pos (by omega)]; exact this, h.tC, fun _ => h.wN (by omega), fun h6 => by omega, h.fC, fun j hj => by
    by_cases e : j = i
    · rw [e]; exact ht
    · exact h.pass j (by omega), h.bel, h.mix⟩
theorem tail_len (s : Bs) : (tailB s).length ≤ s.length := by
  unfold tailB
  rw [List.length_reverse]
  have := (List.takeWhile_sublist (fun c : UInt8 => c != 49) (l := s.reverse)).length_le
  simpa using this
theorem head_le (s : Bs) : (headB s).length ≤ s.length := by unfold headB; simp; omega
/-- what a fault's closure does -/
def FaultOk (w : World) (B bH : Nat) (s : Bs) (i : Nat) (W : World) : Prop :=
  Calls Tryd.prog (fnOf i) (capsOf B bH i) W fun e W' => e = .returned (.bool (test s i)) ∧ Fr bH W W' ∧ Below w.heap.size w W' ∧ (test s i = false → Dc w B bH s (i + 1) W')
set_option maxHeartbeats 1000000 in
theorem fault0 {w : World} {B bH : Nat} {s : Bs} {W : World} (h : Dc w B bH s 0 W) : FaultOk w B bH s 0 W := by
  have hc := h.sc
  have hs := st_size s
  have HD := hid h
  have HN := hid (fun ht => h.next (by omega) ht)
  show Calls Tryd.prog 30 #[pt B] W _
  have HT : Hid (test s 0 = decide ((32768 : Int) < (s.length : Int))) := hid (by simp [test]; omega)
  obtain ⟨b, hb⟩ : ∃ b, b = test s 0 := ⟨_, rfl⟩
  have HB := hid hb
  rw [← hb] at HT HN ⊢
  clear h hb
  generalize s.length = n at *
  go_enter Tryd.func30, Tryd.ntmps30
  go_wp2_with fail
  go_ret
  exact ⟨by rw [HT.out]; rfl, Fr.of_below (Below.refl _ _), HD.out.bel, fun ht => HN.out ht⟩
set_option maxHeartbeats 1000000 in
theorem fault1 {w : World} {B bH : Nat} {s : Bs} {W : World} (h : Dc w B bH s 1 W) (hm : s.length ≤ 140737488355328) : FaultOk w B bH s 1 W := by
  have hc := h.sc
  have HD := hid h
  have HN := hid (fun ht => h.next (by omega) ht)
  show Calls Tryd.prog 31 #[pt B] W _
  have HC := hid (has_out s W hm)
  have HT : Hid (test s 1 = s.any outB) := hid rfl
  rw [← HT.out] at HC
  generalize test s 1 = b at *
  clear h
  go_enter Tryd.func31, Tryd.ntmps31
  go_wp2_with fail
  refine HC.out.mono ?_
  rintro e w1 ⟨rfl, rfl⟩
  go_wp2_with fail
  go_ret
  exact ⟨rfl, Fr.of_below (Below.refl _ _), HD.out.bel, fun ht => HN.out ht⟩
set_option maxHeartbeats 1000000 in
theorem fault2 {w : World} {B bH : Nat} {s : Bs} {W : World} (h : Dc w B bH s 2 W) (hm : s.length ≤ 140737488355328) : FaultOk w B bH s 2 W := by
  have hc := h.sc
  have HD := hid h
  have HN := hid (fun ht => h.next (by omega) ht)
  show Calls Tryd.prog 32 #[pt B] W _
  have HC := hid (has_sml s W hm)
  have HC2 := hid (has_cap s W hm)
  have HT : Hid (test s 2 = (s.any smlB && s.any capB)) := hid rfl
  generalize s.any smlB = b1 at *
  generalize s.any capB = b2 at *
  generalize test s 2 = b at *
  clear h
  go_enter Tryd.func32, Tryd.ntmps32
  go_wp2_with fail
  refine HC.out.mono ?_
  rintro e w1 ⟨rfl, hw1⟩
  subst hw1
  cases b1 with
  | false =>
    go_wp2_with fail
    go_ret
    exact ⟨by rw [HT.out]; rfl, Fr.of_below (Below.refl _ _), HD.out.bel, fun ht => HN.out ht⟩
  | true =>
    go_wp2_with fail
    refine HC2.out.mono ?_
    rintro e w1 ⟨rfl, hw1⟩
    subst hw1
    go_wp2_with fail
    go_ret
    exact ⟨by rw [HT.out]; rfl, Fr.of_below (Below.refl _ _), HD.out.bel, fun ht => HN.out ht⟩
set_option maxHeartbeats 1000000 in
theorem fault3 {w : World} {B bH : Nat} {s : Bs} {W : World} (h : Dc w B bH s 3 W) : FaultOk w B bH s 3 W := by
  have hc := h.hc (by omega)
  have HD := hid h
  have HN := hid (fun ht => h.next (by omega) ht)
  show Calls Tryd.prog 34 #[pt bH] W _
  have HC := hid (fit_any (headB s) W)
  have HT : Hid (test s 3 = !fitB (headB s)) := hid rfl
  generalize fitB (headB s) = b1 at *
  generalize test s 3 = b at *
  clear h
  go_enter Tryd.func34, Tryd.ntmps34
  go_wp2_with fail
  refine HC.out.mono ?_
  rintro e w1 ⟨rfl, rfl⟩
  go_wp2_with fail
  go_ret
  exact ⟨by rw [HT.out]; rfl, Fr.of_below (Below.refl _ _), HD.out.bel, fun ht => HN.out ht⟩
set_option maxHeartbeats 1000000 in
theorem fault4 {w : World} {B bH : Nat} {s : Bs} {W : World} (h : Dc w B bH s 4 W) : FaultOk w B bH s 4 W := by
  have hc := h.tc
  have hs := st_size (tailB s)
  have HD := hid h
  have HN := hid (fun ht => h.next (by omega) ht)
  show Calls Tryd.prog 35 #[pt (bH + 1)] W _
  have HT : Hid (test s 4 = decide (((tailB s).length : Int) < 6)) := hid (by simp [test]; omega)
  generalize test s 4 = b at *
  clear h
  generalize (tailB s).length = n at *
  go_enter Tryd.func35, Tryd.ntmps35
  go_wp2_with fail
  go_ret
  exact ⟨by rw [HT.out]; rfl, Fr.of_below (Below.refl _ _), HD.out.bel, fun ht => HN.out ht⟩
end Go.Proofs.YtelfogdcijmenaaDoor
