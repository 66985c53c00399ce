/- What the whole text's reading, Deep, Right, Size and parts do. -/
import Derived.Test.YtmdiggbbgcjcnaaDoorTermAll
namespace Go.Proofs.YtmdiggbbgcjcnaaDoor
open Go.RowKit

set_option maxHeartbeats 1000000 in
theorem whole_big {b : Nat} {s : ByteArray} {w : World} (c0 : w.cell? ⟨b, 0, none⟩ = some (.string s)) (hs : 16384 < s.size) :
    Calls Tryd.prog 38 #[rp b] w fun en w' => en = .returned (.int .i64 0) ∧ w' = w := by
  have hs' : (16384 : Int) < (s.size : Int) := by omega
  go_enter Tryd.func38, Tryd.ntmps38
  go_wp2_with fail
  go_ret
  exact ⟨rfl, rfl⟩

theorem rest_zero (s : ByteArray) : rest s 0 = s.data.toList := rfl

theorem deep_some {s : ByteArray} {d : Nat} (hs : s.size ≤ 16384) (h : Tm.rd 64 s.data.toList = some (d, [])) : Tm.deep s.data.toList = d := by
  unfold Tm.deep
  rw [if_pos (by rw [← Lib.size_eq]; exact hs), h]
theorem deep_rest {s : ByteArray} {d : Nat} {r : Bs} (h : Tm.rd 64 s.data.toList = some (d, r)) (hr : r ≠ []) : Tm.deep s.data.toList = 0 := by
  unfold Tm.deep
  split
  · rw [h]
    cases r with
    | nil => exact absurd rfl hr
    | cons a b => rfl
  · rfl
theorem deep_none {s : ByteArray} (h : Tm.rd 64 s.data.toList = none) : Tm.deep s.data.toList = 0 := by
  unfold Tm.deep
  split
  · rw [h]
  · rfl

set_option maxHeartbeats 1000000 in
theorem whole_any {w0 : World} {B b : Nat} {s : ByteArray} {kp : Bool} {w : World} (h : RS w0 B b s 0 kp 0 0 ⟨#[]⟩ [] w) (hB : kp = true → B ≤ b + 1) :
    Calls Tryd.prog 38 #[rp b] w fun en w' => en = .returned (.int .i64 (Tm.deep s.data.toList)) ∧ Bad w0 B b s 0 kp w' ∧
      (Tm.deep s.data.toList ≠ 0 → RS w0 B b s 0 kp s.size (upd kp 0 (setN s.data.toList 0)) (upd kp ⟨#[]⟩ (setX s.data.toList ⟨#[]⟩)) (upd kp [] (Tm.kidsOf 63 s.data.toList)) w') := by
  obtain ⟨c0, c1, c2, c3, hf⟩ := h.cells
  have hsz := h.sz
  have hs' : ¬ (16384 : Int) < (s.size : Int) := by omega
  have HR := hid h
  have HB0 := hid hB
  have hw : wt kp (0 + 1) = kp := by cases kp <;> rfl
  have HW := hid hw
  clear h hB hw
  go_enter Tryd.func38, Tryd.ntmps38
  go_wp2_with fail
  refine (termG_all 63 (by omega) HR.out (by omega) (fun e => HB0.out (by rw [HW.out] at e; exact e))).mono ?_
  rintro e w1 hE
  have HE := hid hE
  clear hE
  cases hr : Tm.rd 64 s.data.toList with
  | none =>
    have H1 := hid hr
    clear hr
    obtain ⟨rfl, hb⟩ := HE.out.none H1.out
    obtain ⟨a', n', tx', ks', hb⟩ := hb
    obtain ⟨g0, g1, g2, g3, gf⟩ := hb.cells
    have hle := hb.le
    have HB := hid hb
    clear hb
    by_cases hlt : a' < s.size
    · go_wp2_with fail
      go_quiet (fail)
      go_wp2_with fail
      go_ret
      rw [deep_none H1.out]
      exact ⟨rfl, (HB.out.drewN _).bad, fun e => absurd rfl e⟩
    · go_wp2_with fail
      go_quiet (fail)
      go_wp2_with fail
      go_ret
      rw [deep_none H1.out]
      exact ⟨rfl, (HB.out.drewN _).bad, fun e => absurd rfl e⟩
  | some x =>
    obtain ⟨d, r⟩ := x
    have H1 := hid hr
    clear hr
    obtain ⟨rfl, hb⟩ := HE.out.some H1.out
    obtain ⟨g0, g1, g2, g3, gf⟩ := hb.cells
    have hle := hb.le
    have HB := hid hb
    clear hb
    by_cases hr : r = []
    · subst hr
      have g1' : w1.cell? ⟨b, 1, none⟩ = some (.int .i64 (s.size : Int)) := g1
      clear g1
      go_wp2_with fail
      go_quiet (fail)
      go_wp2_with fail
      go_ret
      rw [deep_some hsz H1.out]
      have := HB.out
      rw [HW.out] at this
      exact ⟨rfl, (HB.out.drewN _).bad, fun _ => by simpa using this.drewN _⟩
    · have hlr : 0 < r.length := List.length_pos_iff.2 hr
      have hrl : r.length ≤ s.size := by
        have := (Tm.rd_len H1.out).1
        rw [← Lib.size_eq] at this
        omega
      have hlt : s.size - r.length < s.size := by omega
      generalize hj : s.size - r.length = j at *
      have HRr := hid hr
      clear hr
      clear hj
      go_wp2_with fail
      go_quiet (fail)
      go_wp2_with fail
      go_ret
      rw [deep_rest H1.out HRr.out]
      exact ⟨rfl, (HB.out.drewN _).bad, fun e => absurd rfl e⟩

/-- a new reader -/
theorem RS_new (w : World) (s : ByteArray) (kp : Bool) (hs : s.size ≤ 16384) :
    RS (w.alloc (.cells (rcells s 0 0 kp 0 0 ⟨#[]⟩ (.slice none 0 0)) 74)) w.heap.size w.heap.size s 0 kp 0 0 ⟨#[]⟩ [] (w.alloc (.cells (rcells s 0 0 kp 0 0 ⟨#[]⟩ (.slice none 0 0)) 74)) :=
  ⟨Nat.zero_le _, Frx.refl _ _ _, by simp, by simp, hs, Nat.le_refl _, by omega, .slice none 0 0, heap_alloc_new w _, World.ownsRow_nil _ _ _ _⟩

theorem Bad.below {w : World} {o : Obj} {s : ByteArray} {lv : Nat} {kp : Bool} {w' : World} (h : Bad (w.alloc o) w.heap.size w.heap.size s lv kp w') : Below w.heap.size w w' := by
  obtain ⟨a, n, tx, ks, h⟩ := h
  exact ((Below.refl _ w).alloc (Nat.le_refl _) o).trans (h.fr.below (Nat.le_refl _))

set_option maxHeartbeats 1000000 in
theorem deep_any (s : ByteArray) (w : World) :
    Calls Tryd.prog 31 #[.string s] w fun en w' => en = .returned (.int .i64 (Tm.deep s.data.toList)) ∧ Below w.heap.size w w' := by
  by_cases hs : s.size ≤ 16384
  · have HS := hid hs
    clear hs
    go_enter Tryd.func31, Tryd.ntmps31
    go_wp2_with fail
    refine (whole_any (RS_new w s false HS.out) (fun e => by cases e)).mono ?_
    rintro e w1 ⟨rfl, hb, _⟩
    have HB := hid hb
    clear hb
    go_wp2_with fail
    go_ret
    exact ⟨rfl, HB.out.below⟩
  · have HS := hid hs
    clear hs
    go_enter Tryd.func31, Tryd.ntmps31
    go_wp2_with fail
    refine (whole_big (s := s) (by simp) (by have := HS.out; omega)).mono ?_
    rintro e w1 ⟨rfl, rfl⟩
    go_wp2_with fail
    go_ret
    refine ⟨?_, (Below.refl _ w).alloc (Nat.le_refl _) _⟩
    have : Tm.deep s.data.toList = 0 := by unfold Tm.deep; rw [if_neg (by rw [← Lib.size_eq]; exact HS.out)]
    rw [this]
    rfl

set_option maxHeartbeats 1000000 in
theorem right_any (s : ByteArray) (w : World) :
    Calls Tryd.prog 21 #[.string s] w fun en w' => en = .returned (.bool (Tm.deep s.data.toList != 0)) ∧ Below w.heap.size w w' := by
  go_enter Tryd.func21, Tryd.ntmps21
  go_wp2_with fail
  refine (deep_any s _).mono ?_
  rintro e w1 ⟨rfl, hb⟩
  have HB := hid hb
  clear hb
  go_wp2_with fail
  go_ret
  refine ⟨?_, HB.out⟩
  have e : decide (0 < Tm.deep s.data.toList) = (Tm.deep s.data.toList != 0) := by rw [Bool.eq_iff_iff]; simp; omega
  simp [e]

theorem RS_at (w : World) (b : Nat) (hb : b = w.heap.size) (s : ByteArray) (kp : Bool) (hs : s.size ≤ 16384) :
    RS (w.alloc (.cells (rcells s 0 0 kp 0 0 ⟨#[]⟩ (.slice none 0 0)) 74)) b b s 0 kp 0 0 ⟨#[]⟩ [] (w.alloc (.cells (rcells s 0 0 kp 0 0 ⟨#[]⟩ (.slice none 0 0)) 74)) := by
  subst hb; exact RS_new w s kp hs

theorem ownsRow_base {w : World} {base base' : Nat} {e : TypeId} {size : Nat} {v : Value} {n : Nat} {xs : List Value} (h : w.ownsRow base e size v n xs) (hb : base' ≤ base) : w.ownsRow base' e size v n xs := by
  obtain ⟨h1, h2⟩ := h
  refine ⟨h1, ?_⟩
  rcases h2 with h2 | ⟨g, cap, cur, e1, e2, e3⟩
  · exact Or.inl h2
  · exact Or.inr ⟨g, cap, cur, e1, by omega, e3⟩

theorem Bad.fr {w0 : World} {B b : Nat} {s : ByteArray} {lv : Nat} {kp : Bool} {w : World} (h : Bad w0 B b s lv kp w) : Frx B b w0 w := by
  obtain ⟨a, n, tx, ks, h⟩ := h; exact h.fr

theorem heap_alloc_alloc (w : World) (o o' : Obj) : ((w.alloc o).alloc o').heap[w.heap.size]? = some o := by
  rw [Below.heap_alloc _ _ _ (by simp)]
  exact heap_alloc_new w o

end Go.Proofs.YtmdiggbbgcjcnaaDoor
