/- LockKnown: each of those operations brings what it has to. -/
import Derived.Test.YtdllpklecdmghaaGreatDoorKnF
namespace Go.Proofs.YtdllpklecdmghaaGreatDoor
open Go.RowKit
open Lk (Lt)
def kqDs : List Nat := (List.range 89).map kqD
structure Kx (a0 : Act) (w0 : World) (lb wb g9 c9 : Nat) (a3 : Option Addr) (c3 : Nat) : Prop where
  s1 : gt a0 1 = .pointer (some ⟨lb, 0, none⟩)
  s2 : gt a0 2 = .slice (some ⟨g9, 0, none⟩) 9 c9
  s4 : gt a0 4 = .pointer (some ⟨wb, 0, none⟩)
  b1 : w0.heap[lb]? = some (.cells #[.int .u8 3, St [], .int .i64 7, .slice none 0 0] 25 (0, 0))
  b4 : w0.heap[wb]? = some (.cells #[.int .u8 5, St [], .int .i64 0, .slice a3 8 c3] 25 (0, 0))
  k4 : Kd (fun _ => True) w0 1 (.slice a3 8 c3) (List.replicate 8 aft7)
  k9 : ∀ k, k ≤ 9 → ∀ c, Kd (fun _ => True) w0 1 (.slice (some ⟨g9, 0, none⟩) k c) (List.replicate k aft7)
  c9 : 9 ≤ c9
theorem Kx.slot {a0 a : Act} (h : Off kqDs a0 a) {k : Nat} (hk : k ∉ kqDs) : gt a k = gt a0 k := by
  have := h.same k hk
  unfold gt
  simp [this]
abbrev KqS (Q : Exit → Act → World → Prop) (a0 a : Act) (w0 w : World) (lb wb g9 c9 : Nat) (a3 : Option Addr) (c3 i : Nat) (o : Oper) : Prop :=
  Kx a0 w0 lb wb g9 c9 a3 c3 → Off kqDs a0 a → Below w0.heap.size w0 w → (∀ e ∈ o.after, Region.binds .any e = true → (kqF g9 c9 e.on).ok (gt a (kqD e.on)) w) → wpOp Tryz.prog kqs Q i (fun a' w' => ∃ v, a' = a.put (some (kqD i)) v ∧ Below w.heap.size w w' ∧ (kqF g9 c9 i).ok v w') a w
section
variable {Q : Exit → Act → World → Prop} {a0 a : Act} {w0 w : World} {lb wb g9 c9 : Nat} {a3 : Option Addr} {c3 : Nat}
set_option maxHeartbeats 1000000
theorem hq0 : KqS Q a0 a w0 w lb wb g9 c9 a3 c3 0 kq0 := fun hx ho hb hd => by
  exact op_ok (i := 0) (o := kq0) rfl rfl (eq0 a w) ⟨_, rfl, Below.refl _ _, LkV.leaf w 0 [] 0 (by decide) (by decide) (by decide)⟩
theorem hq1 : KqS Q a0 a w0 w lb wb g9 c9 a3 c3 1 kq1 := fun hx ho hb hd => by
  exact op_ok (i := 1) (o := kq1) rfl rfl (eq1 a w) ⟨_, rfl, Below.refl _ _, LkV.leaf w 7 [] 0 (by decide) (by decide) (by decide)⟩
theorem hq2 : KqS Q a0 a w0 w lb wb g9 c9 a3 c3 2 kq2 := fun hx ho hb hd => by
  refine op_call (i := 2) (o := kq2) (R := fun v w' => v = .agg (lcs (.mk 1 [80, 110, 49, 59] (0) []) (.slice none 0 0)) ∧ Below w.heap.size w w') rfl rfl (eq2 a w) ((mk_sig [80, 110, 49, 59] w (by decide)).mono (fun e w' ⟨h1, h2⟩ => ⟨_, h1, rfl, h2⟩)) ?_
  rintro v w' ⟨rfl, h2⟩
  exact ⟨_, rfl, h2, LkV.leaf w' 1 [80, 110, 49, 59] (0) (by decide) (by decide) (by decide)⟩
theorem hq3 : KqS Q a0 a w0 w lb wb g9 c9 a3 c3 3 kq3 := fun hx ho hb hd => by
  refine op_call (i := 3) (o := kq3) (R := fun v w' => v = .agg (lcs (.mk 1 [110, 49, 59] (0) []) (.slice none 0 0)) ∧ Below w.heap.size w w') rfl rfl (eq3 a w) ((mk_sig [110, 49, 59] w (by decide)).mono (fun e w' ⟨h1, h2⟩ => ⟨_, h1, rfl, h2⟩)) ?_
  rintro v w' ⟨rfl, h2⟩
  exact ⟨_, rfl, h2, LkV.leaf w' 1 [110, 49, 59] (0) (by decide) (by decide) (by decide)⟩
theorem hq4 : KqS Q a0 a w0 w lb wb g9 c9 a3 c3 4 kq4 := fun hx ho hb hd => by
  refine op_call (i := 4) (o := kq4) (R := fun v w' => v = .agg (lcs (.mk 1 [] (0) []) (.slice none 0 0)) ∧ Below w.heap.size w w') rfl rfl (eq4 a w) ((mk_sig [] w (by decide)).mono (fun e w' ⟨h1, h2⟩ => ⟨_, h1, rfl, h2⟩)) ?_
  rintro v w' ⟨rfl, h2⟩
  exact ⟨_, rfl, h2, LkV.leaf w' 1 [] (0) (by decide) (by decide) (by decide)⟩
theorem hq5 : KqS Q a0 a w0 w lb wb g9 c9 a3 c3 5 kq5 := fun hx ho hb hd => by
  refine op_call (i := 5) (o := kq5) (R := fun v w' => v = .agg (lcs (.mk 1 [87, 80, 110, 49, 59, 80, 110, 50, 59] (0) []) (.slice none 0 0)) ∧ Below w.heap.size w w') rfl rfl (eq5 a w) ((mk_sig [87, 80, 110, 49, 59, 80, 110, 50, 59] w (by decide)).mono (fun e w' ⟨h1, h2⟩ => ⟨_, h1, rfl, h2⟩)) ?_
  rintro v w' ⟨rfl, h2⟩
  exact ⟨_, rfl, h2, LkV.leaf w' 1 [87, 80, 110, 49, 59, 80, 110, 50, 59] (0) (by decide) (by decide) (by decide)⟩
theorem hq6 : KqS Q a0 a w0 w lb wb g9 c9 a3 c3 6 kq6 := fun hx ho hb hd => by
  refine op_call (i := 6) (o := kq6) (R := fun v w' => v = .agg (lcs (.mk 1 [76, 80, 110, 49, 59, 116, 48, 58] (0) []) (.slice none 0 0)) ∧ Below w.heap.size w w') rfl rfl (eq6 a w) ((mk_sig [76, 80, 110, 49, 59, 116, 48, 58] w (by decide)).mono (fun e w' ⟨h1, h2⟩ => ⟨_, h1, rfl, h2⟩)) ?_
  rintro v w' ⟨rfl, h2⟩
  exact ⟨_, rfl, h2, LkV.leaf w' 1 [76, 80, 110, 49, 59, 116, 48, 58] (0) (by decide) (by decide) (by decide)⟩
theorem hq7 : KqS Q a0 a w0 w lb wb g9 c9 a3 c3 7 kq7 := fun hx ho hb hd => by
  refine op_call (i := 7) (o := kq7) (R := fun v w' => v = .agg (lcs (.mk 1 [72, 110, 49, 59] (0) []) (.slice none 0 0)) ∧ Below w.heap.size w w') rfl rfl (eq7 a w) ((mk_sig [72, 110, 49, 59] w (by decide)).mono (fun e w' ⟨h1, h2⟩ => ⟨_, h1, rfl, h2⟩)) ?_
  rintro v w' ⟨rfl, h2⟩
  exact ⟨_, rfl, h2, LkV.leaf w' 1 [72, 110, 49, 59] (0) (by decide) (by decide) (by decide)⟩
theorem hq8 : KqS Q a0 a w0 w lb wb g9 c9 a3 c3 8 kq8 := fun hx ho hb hd => by
  refine op_call (i := 8) (o := kq8) (R := fun v w' => v = .agg (lcs (.mk 2 [72, 110, 49, 59] (0) []) (.slice none 0 0)) ∧ Below w.heap.size w w') rfl rfl (eq8 a w) ((mk_pre [72, 110, 49, 59] w (by decide)).mono (fun e w' ⟨h1, h2⟩ => ⟨_, h1, rfl, h2⟩)) ?_
  rintro v w' ⟨rfl, h2⟩
  exact ⟨_, rfl, h2, LkV.leaf w' 2 [72, 110, 49, 59] (0) (by decide) (by decide) (by decide)⟩
theorem hq9 : KqS Q a0 a w0 w lb wb g9 c9 a3 c3 9 kq9 := fun hx ho hb hd => by
  refine op_call (i := 9) (o := kq9) (R := fun v w' => v = .agg (lcs (.mk 2 [80, 110, 49, 59] (0) []) (.slice none 0 0)) ∧ Below w.heap.size w w') rfl rfl (eq9 a w) ((mk_pre [80, 110, 49, 59] w (by decide)).mono (fun e w' ⟨h1, h2⟩ => ⟨_, h1, rfl, h2⟩)) ?_
  rintro v w' ⟨rfl, h2⟩
  exact ⟨_, rfl, h2, LkV.leaf w' 2 [80, 110, 49, 59] (0) (by decide) (by decide) (by decide)⟩
theorem hq10 : KqS Q a0 a w0 w lb wb g9 c9 a3 c3 10 kq10 := fun hx ho hb hd => by
  refine op_call (i := 10) (o := kq10) (R := fun v w' => v = .agg (lcs (.mk 2 [] (0) []) (.slice none 0 0)) ∧ Below w.heap.size w w') rfl rfl (eq10 a w) ((mk_pre [] w (by decide)).mono (fun e w' ⟨h1, h2⟩ => ⟨_, h1, rfl, h2⟩)) ?_
  rintro v w' ⟨rfl, h2⟩
  exact ⟨_, rfl, h2, LkV.leaf w' 2 [] (0) (by decide) (by decide) (by decide)⟩
theorem hq11 : KqS Q a0 a w0 w lb wb g9 c9 a3 c3 11 kq11 := fun hx ho hb hd => by
  exact op_ok (i := 11) (o := kq11) rfl rfl (eq11 a w ((Kx.slot ho (by decide)).trans hx.s1) ((hb.block _ (lt_of_heap hx.b1)).trans hx.b1)) ⟨_, rfl, Below.refl _ _, LkV.leaf w 3 [] 7 (by decide) (by decide) (by decide)⟩
theorem hq12 : KqS Q a0 a w0 w lb wb g9 c9 a3 c3 12 kq12 := fun hx ho hb hd => by
  refine op_call (i := 12) (o := kq12) (R := fun v w' => v = .agg (lcs (.mk 3 [] (-1) []) (.slice none 0 0)) ∧ Below w.heap.size w w') rfl rfl (eq12 a w) ((mk_after (-1) w).mono (fun e w' ⟨h1, h2⟩ => ⟨_, h1, rfl, h2⟩)) ?_
  rintro v w' ⟨rfl, h2⟩
  exact ⟨_, rfl, h2, LkV.leaf w' 3 [] (-1) (by decide) (by decide) (by decide)⟩
theorem hq13 : KqS Q a0 a w0 w lb wb g9 c9 a3 c3 13 kq13 := fun hx ho hb hd => by
  refine op_call (i := 13) (o := kq13) (R := fun v w' => v = .agg (lcs (.mk 3 [] (1073741823) []) (.slice none 0 0)) ∧ Below w.heap.size w w') rfl rfl (eq13 a w) ((mk_after (1073741823) w).mono (fun e w' ⟨h1, h2⟩ => ⟨_, h1, rfl, h2⟩)) ?_
  rintro v w' ⟨rfl, h2⟩
  exact ⟨_, rfl, h2, LkV.leaf w' 3 [] (1073741823) (by decide) (by decide) (by decide)⟩
theorem hq14 : KqS Q a0 a w0 w lb wb g9 c9 a3 c3 14 kq14 := fun hx ho hb hd => by
  refine op_call (i := 14) (o := kq14) (R := fun v w' => v = .agg (lcs (.mk 3 [] (1073741824) []) (.slice none 0 0)) ∧ Below w.heap.size w w') rfl rfl (eq14 a w) ((mk_after (1073741824) w).mono (fun e w' ⟨h1, h2⟩ => ⟨_, h1, rfl, h2⟩)) ?_
  rintro v w' ⟨rfl, h2⟩
  exact ⟨_, rfl, h2, LkV.leaf w' 3 [] (1073741824) (by decide) (by decide) (by decide)⟩
theorem hq15 : KqS Q a0 a w0 w lb wb g9 c9 a3 c3 15 kq15 := fun hx ho hb hd => by
  refine op_call (i := 15) (o := kq15) (R := fun v w' => v = .agg (lcs (.mk 4 [] (0) []) (.slice none 0 0)) ∧ Below w.heap.size w w') rfl rfl (eq15 a w) ((mk_older (0) w).mono (fun e w' ⟨h1, h2⟩ => ⟨_, h1, rfl, h2⟩)) ?_
  rintro v w' ⟨rfl, h2⟩
  exact ⟨_, rfl, h2, LkV.leaf w' 4 [] (0) (by decide) (by decide) (by decide)⟩
theorem hq16 : KqS Q a0 a w0 w lb wb g9 c9 a3 c3 16 kq16 := fun hx ho hb hd => by
  refine op_call (i := 16) (o := kq16) (R := fun v w' => v = .agg (lcs (.mk 4 [] (1073741824) []) (.slice none 0 0)) ∧ Below w.heap.size w w') rfl rfl (eq16 a w) ((mk_older (1073741824) w).mono (fun e w' ⟨h1, h2⟩ => ⟨_, h1, rfl, h2⟩)) ?_
  rintro v w' ⟨rfl, h2⟩
  exact ⟨_, rfl, h2, LkV.leaf w' 4 [] (1073741824) (by decide) (by decide) (by decide)⟩
theorem hq17 : KqS Q a0 a w0 w lb wb g9 c9 a3 c3 17 kq17 := fun hx ho hb hd => by
  have h : RowV [] (.slice none 0 0) w := ⟨0, Kd.nil _ _ _⟩
  refine op_call (i := 17) (o := kq17) (R := fun v w' => (kqF g9 c9 17).ok v w' ∧ Below w.heap.size w w') rfl rfl (eq17 a w) ((call_all h (by decide +kernel) (by decide)).mono (fun e w' ⟨u, h1, h2, h3⟩ => ⟨u, h1, h2, h3⟩)) ?_
  rintro v w' ⟨h1, h2⟩
  exact ⟨_, rfl, h2, h1⟩
theorem hq18 : KqS Q a0 a w0 w lb wb g9 c9 a3 c3 18 kq18 := fun hx ho hb hd => by
  have h : RowV [] (.slice none 0 0) w := ⟨0, Kd.nil _ _ _⟩
  refine op_call (i := 18) (o := kq18) (R := fun v w' => (kqF g9 c9 18).ok v w' ∧ Below w.heap.size w w') rfl rfl (eq18 a w) ((call_any h (by decide +kernel) (by decide)).mono (fun e w' ⟨u, h1, h2, h3⟩ => ⟨u, h1, h2, h3⟩)) ?_
  rintro v w' ⟨h1, h2⟩
  exact ⟨_, rfl, h2, h1⟩
theorem hq19 : KqS Q a0 a w0 w lb wb g9 c9 a3 c3 19 kq19 := fun hx ho hb hd => by
  exact op_ok (i := 19) (o := kq19) rfl rfl (eq19 a w ((Kx.slot ho (by decide)).trans hx.s1) ((hb.block _ (lt_of_heap hx.b1)).trans hx.b1)) ⟨_, rfl, Below.refl _ _, LkV.leaf w 3 [] 7 (by decide) (by decide) (by decide)⟩
theorem hq20 : KqS Q a0 a w0 w lb wb g9 c9 a3 c3 20 kq20 := fun hx ho hb hd => by
  have m0 : LkV aft7 (gt a 48) w := hd ⟨19, .data⟩ (by simp [kq20]) (by decide)
  obtain ⟨v0, e0⟩ : ∃ kv, gt a 48 = .agg (lcs aft7 kv) := by obtain ⟨kv, _, e, _⟩ := m0; exact ⟨kv, e⟩
  rw [e0] at m0
  have hr := ex_row a w [(aft7, v0)] 1 _ kq20 rfl rfl (by decide) (by decide) (by simp only [ev_tmp, e0, List.map_toArray, List.map_cons, List.map_nil]; rfl)
  exact op_ok (i := 20) (o := kq20) rfl rfl hr ⟨_, rfl, below_al _ _, row_new w [(aft7, v0)] 1 1 rfl (by decide) (by simp only [List.forall_mem_cons]; exact ⟨m0, fun _ h => absurd h (by simp)⟩)⟩
theorem hq21 : KqS Q a0 a w0 w lb wb g9 c9 a3 c3 21 kq21 := fun hx ho hb hd => by
  have h : RowV [aft7] (gt a 49) w := hd ⟨20, .data⟩ (by simp [kq21]) (by decide)
  refine op_call (i := 21) (o := kq21) (R := fun v w' => (kqF g9 c9 21).ok v w' ∧ Below w.heap.size w w') rfl rfl (eq21 a w rfl) ((call_all h (by decide +kernel) (by decide)).mono (fun e w' ⟨u, h1, h2, h3⟩ => ⟨u, h1, h2, h3⟩)) ?_
  rintro v w' ⟨h1, h2⟩
  exact ⟨_, rfl, h2, h1⟩
theorem hq22 : KqS Q a0 a w0 w lb wb g9 c9 a3 c3 22 kq22 := fun hx ho hb hd => by
  exact op_ok (i := 22) (o := kq22) rfl rfl (eq22 a w ((Kx.slot ho (by decide)).trans hx.s1) ((hb.block _ (lt_of_heap hx.b1)).trans hx.b1)) ⟨_, rfl, Below.refl _ _, LkV.leaf w 3 [] 7 (by decide) (by decide) (by decide)⟩
theorem hq23 : KqS Q a0 a w0 w lb wb g9 c9 a3 c3 23 kq23 := fun hx ho hb hd => by
  refine op_call (i := 23) (o := kq23) (R := fun v w' => v = .agg (lcs (.mk 4 [] (2) []) (.slice none 0 0)) ∧ Below w.heap.size w w') rfl rfl (eq23 a w) ((mk_older (2) w).mono (fun e w' ⟨h1, h2⟩ => ⟨_, h1, rfl, h2⟩)) ?_
  rintro v w' ⟨rfl, h2⟩
  exact ⟨_, rfl, h2, LkV.leaf w' 4 [] (2) (by decide) (by decide) (by decide)⟩
theorem hq24 : KqS Q a0 a w0 w lb wb g9 c9 a3 c3 24 kq24 := fun hx ho hb hd => by
  have m0 : LkV aft7 (gt a 51) w := hd ⟨22, .data⟩ (by simp [kq24]) (by decide)
  obtain ⟨v0, e0⟩ : ∃ kv, gt a 51 = .agg (lcs aft7 kv) := by obtain ⟨kv, _, e, _⟩ := m0; exact ⟨kv, e⟩
  rw [e0] at m0
  have m1 : LkV (.mk 4 [] (2) []) (gt a 52) w := hd ⟨23, .data⟩ (by simp [kq24]) (by decide)
  obtain ⟨v1, e1⟩ : ∃ kv, gt a 52 = .agg (lcs (.mk 4 [] (2) []) kv) := by obtain ⟨kv, _, e, _⟩ := m1; exact ⟨kv, e⟩
  rw [e1] at m1
  have hr := ex_row a w [(aft7, v0), ((.mk 4 [] (2) []), v1)] 2 _ kq24 rfl rfl (by decide) (by decide) (by simp only [ev_tmp, e0, ev_tmp, e1, List.map_toArray, List.map_cons, List.map_nil]; rfl)
  exact op_ok (i := 24) (o := kq24) rfl rfl hr ⟨_, rfl, below_al _ _, row_new w [(aft7, v0), ((.mk 4 [] (2) []), v1)] 2 2 rfl (by decide) (by simp only [List.forall_mem_cons]; exact ⟨m0, m1, fun _ h => absurd h (by simp)⟩)⟩
theorem hq25 : KqS Q a0 a w0 w lb wb g9 c9 a3 c3 25 kq25 := fun hx ho hb hd => by
  have h : RowV [aft7, (.mk 4 [] (2) [])] (gt a 53) w := hd ⟨24, .data⟩ (by simp [kq25]) (by decide)
  refine op_call (i := 25) (o := kq25) (R := fun v w' => (kqF g9 c9 25).ok v w' ∧ Below w.heap.size w w') rfl rfl (eq25 a w rfl) ((call_any h (by decide +kernel) (by decide)).mono (fun e w' ⟨u, h1, h2, h3⟩ => ⟨u, h1, h2, h3⟩)) ?_
  rintro v w' ⟨h1, h2⟩
  exact ⟨_, rfl, h2, h1⟩
theorem hq26 : KqS Q a0 a w0 w lb wb g9 c9 a3 c3 26 kq26 := fun hx ho hb hd => by
  exact op_ok (i := 26) (o := kq26) rfl rfl (eq26 a w ((Kx.slot ho (by decide)).trans hx.s4) ((hb.block _ (lt_of_heap hx.b4)).trans hx.b4)) ⟨_, rfl, Below.refl _ _, _, 1, rfl, lr_small _ _ _ _ (by decide) (by decide) (by decide), hx.k4.low hb⟩
theorem hq27 : KqS Q a0 a w0 w lb wb g9 c9 a3 c3 27 kq27 := fun hx ho hb hd => by
  exact op_ok (i := 27) (o := kq27) rfl rfl (eq27 a w ((Kx.slot ho (by decide)).trans hx.s2)) ⟨_, rfl, Below.refl _ _, rfl⟩
theorem hq28 : KqS Q a0 a w0 w lb wb g9 c9 a3 c3 28 kq28 := fun hx ho hb hd => by
  have e0 : gt a 56 = .slice (some ⟨g9, 0, none⟩) 9 c9 := hd ⟨27, .data⟩ (by simp [kq28]) (by decide)
  have h : RowV (List.replicate 9 aft7) (gt a 56) w := by rw [e0]; exact ⟨1, (hx.k9 9 (by decide) c9).low hb⟩
  refine op_call (i := 28) (o := kq28) (R := fun v w' => (kqF g9 c9 28).ok v w' ∧ Below w.heap.size w w') rfl rfl (eq28 a w rfl) ((call_any h (by decide +kernel) (by decide)).mono (fun e w' ⟨u, h1, h2, h3⟩ => ⟨u, h1, h2, h3⟩)) ?_
  rintro v w' ⟨h1, h2⟩
  exact ⟨_, rfl, h2, h1⟩
theorem hq29 : KqS Q a0 a w0 w lb wb g9 c9 a3 c3 29 kq29 := fun hx ho hb hd => by
  exact op_ok (i := 29) (o := kq29) rfl rfl (eq29 a w ((Kx.slot ho (by decide)).trans hx.s4) ((hb.block _ (lt_of_heap hx.b4)).trans hx.b4)) ⟨_, rfl, Below.refl _ _, _, 1, rfl, lr_small _ _ _ _ (by decide) (by decide) (by decide), hx.k4.low hb⟩
theorem hq30 : KqS Q a0 a w0 w lb wb g9 c9 a3 c3 30 kq30 := fun hx ho hb hd => by
  exact op_ok (i := 30) (o := kq30) rfl rfl (eq30 a w ((Kx.slot ho (by decide)).trans hx.s4) ((hb.block _ (lt_of_heap hx.b4)).trans hx.b4)) ⟨_, rfl, Below.refl _ _, _, 1, rfl, lr_small _ _ _ _ (by decide) (by decide) (by decide), hx.k4.low hb⟩
theorem hq31 : KqS Q a0 a w0 w lb wb g9 c9 a3 c3 31 kq31 := fun hx ho hb hd => by
  exact op_ok (i := 31) (o := kq31) rfl rfl (eq31 a w ((Kx.slot ho (by decide)).trans hx.s4) ((hb.block _ (lt_of_heap hx.b4)).trans hx.b4)) ⟨_, rfl, Below.refl _ _, _, 1, rfl, lr_small _ _ _ _ (by decide) (by decide) (by decide), hx.k4.low hb⟩
theorem hq32 : KqS Q a0 a w0 w lb wb g9 c9 a3 c3 32 kq32 := fun hx ho hb hd => by
  exact op_ok (i := 32) (o := kq32) rfl rfl (eq32 a w ((Kx.slot ho (by decide)).trans hx.s4) ((hb.block _ (lt_of_heap hx.b4)).trans hx.b4)) ⟨_, rfl, Below.refl _ _, _, 1, rfl, lr_small _ _ _ _ (by decide) (by decide) (by decide), hx.k4.low hb⟩
theorem hq33 : KqS Q a0 a w0 w lb wb g9 c9 a3 c3 33 kq33 := fun hx ho hb hd => by
  exact op_ok (i := 33) (o := kq33) rfl rfl (eq33 a w ((Kx.slot ho (by decide)).trans hx.s4) ((hb.block _ (lt_of_heap hx.b4)).trans hx.b4)) ⟨_, rfl, Below.refl _ _, _, 1, rfl, lr_small _ _ _ _ (by decide) (by decide) (by decide), hx.k4.low hb⟩
theorem hq34 : KqS Q a0 a w0 w lb wb g9 c9 a3 c3 34 kq34 := fun hx ho hb hd => by
  exact op_ok (i := 34) (o := kq34) rfl rfl (eq34 a w ((Kx.slot ho (by decide)).trans hx.s4) ((hb.block _ (lt_of_heap hx.b4)).trans hx.b4)) ⟨_, rfl, Below.refl _ _, _, 1, rfl, lr_small _ _ _ _ (by decide) (by decide) (by decide), hx.k4.low hb⟩
theorem hq35 : KqS Q a0 a w0 w lb wb g9 c9 a3 c3 35 kq35 := fun hx ho hb hd => by
  exact op_ok (i := 35) (o := kq35) rfl rfl (eq35 a w ((Kx.slot ho (by decide)).trans hx.s4) ((hb.block _ (lt_of_heap hx.b4)).trans hx.b4)) ⟨_, rfl, Below.refl _ _, _, 1, rfl, lr_small _ _ _ _ (by decide) (by decide) (by decide), hx.k4.low hb⟩
theorem hq36 : KqS Q a0 a w0 w lb wb g9 c9 a3 c3 36 kq36 := fun hx ho hb hd => by
  exact op_ok (i := 36) (o := kq36) rfl rfl (eq36 a w ((Kx.slot ho (by decide)).trans hx.s4) ((hb.block _ (lt_of_heap hx.b4)).trans hx.b4)) ⟨_, rfl, Below.refl _ _, _, 1, rfl, lr_small _ _ _ _ (by decide) (by decide) (by decide), hx.k4.low hb⟩
theorem hq37 : KqS Q a0 a w0 w lb wb g9 c9 a3 c3 37 kq37 := fun hx ho hb hd => by
  have m0 : LkV wide8 (gt a 58) w := hd ⟨29, .data⟩ (by simp [kq37]) (by decide)
  obtain ⟨v0, e0⟩ : ∃ kv, gt a 58 = .agg (lcs wide8 kv) := by obtain ⟨kv, _, e, _⟩ := m0; exact ⟨kv, e⟩
  rw [e0] at m0
  have m1 : LkV wide8 (gt a 59) w := hd ⟨30, .data⟩ (by simp [kq37]) (by decide)
  obtain ⟨v1, e1⟩ : ∃ kv, gt a 59 = .agg (lcs wide8 kv) := by obtain ⟨kv, _, e, _⟩ := m1; exact ⟨kv, e⟩
  rw [e1] at m1
  have m2 : LkV wide8 (gt a 60) w := hd ⟨31, .data⟩ (by simp [kq37]) (by decide)
  obtain ⟨v2, e2⟩ : ∃ kv, gt a 60 = .agg (lcs wide8 kv) := by obtain ⟨kv, _, e, _⟩ := m2; exact ⟨kv, e⟩
  rw [e2] at m2
  have m3 : LkV wide8 (gt a 61) w := hd ⟨32, .data⟩ (by simp [kq37]) (by decide)
  obtain ⟨v3, e3⟩ : ∃ kv, gt a 61 = .agg (lcs wide8 kv) := by obtain ⟨kv, _, e, _⟩ := m3; exact ⟨kv, e⟩
  rw [e3] at m3
  have m4 : LkV wide8 (gt a 62) w := hd ⟨33, .data⟩ (by simp [kq37]) (by decide)
  obtain ⟨v4, e4⟩ : ∃ kv, gt a 62 = .agg (lcs wide8 kv) := by obtain ⟨kv, _, e, _⟩ := m4; exact ⟨kv, e⟩
  rw [e4] at m4
  have m5 : LkV wide8 (gt a 63) w := hd ⟨34, .data⟩ (by simp [kq37]) (by decide)
  obtain ⟨v5, e5⟩ : ∃ kv, gt a 63 = .agg (lcs wide8 kv) := by obtain ⟨kv, _, e, _⟩ := m5; exact ⟨kv, e⟩
  rw [e5] at m5
  have m6 : LkV wide8 (gt a 64) w := hd ⟨35, .data⟩ (by simp [kq37]) (by decide)
  obtain ⟨v6, e6⟩ : ∃ kv, gt a 64 = .agg (lcs wide8 kv) := by obtain ⟨kv, _, e, _⟩ := m6; exact ⟨kv, e⟩
  rw [e6] at m6
  have m7 : LkV wide8 (gt a 65) w := hd ⟨36, .data⟩ (by simp [kq37]) (by decide)
  obtain ⟨v7, e7⟩ : ∃ kv, gt a 65 = .agg (lcs wide8 kv) := by obtain ⟨kv, _, e, _⟩ := m7; exact ⟨kv, e⟩
  rw [e7] at m7
  have hr := ex_row a w [(wide8, v0), (wide8, v1), (wide8, v2), (wide8, v3), (wide8, v4), (wide8, v5), (wide8, v6), (wide8, v7)] 8 _ kq37 rfl rfl (by decide) (by decide) (by simp only [ev_tmp, e0, ev_tmp, e1, ev_tmp, e2, ev_tmp, e3, ev_tmp, e4, ev_tmp, e5, ev_tmp, e6, ev_tmp, e7, List.map_toArray, List.map_cons, List.map_nil]; rfl)
  exact op_ok (i := 37) (o := kq37) rfl rfl hr ⟨_, rfl, below_al _ _, row_new w [(wide8, v0), (wide8, v1), (wide8, v2), (wide8, v3), (wide8, v4), (wide8, v5), (wide8, v6), (wide8, v7)] 8 8 rfl (by decide) (by simp only [List.forall_mem_cons]; exact ⟨m0, m1, m2, m3, m4, m5, m6, m7, fun _ h => absurd h (by simp)⟩)⟩
theorem hq38 : KqS Q a0 a w0 w lb wb g9 c9 a3 c3 38 kq38 := fun hx ho hb hd => by
  have h : RowV [wide8, wide8, wide8, wide8, wide8, wide8, wide8, wide8] (gt a 66) w := hd ⟨37, .data⟩ (by simp [kq38]) (by decide)
  refine op_call (i := 38) (o := kq38) (R := fun v w' => (kqF g9 c9 38).ok v w' ∧ Below w.heap.size w w') rfl rfl (eq38 a w rfl) ((call_all h (by decide +kernel) (by decide)).mono (fun e w' ⟨u, h1, h2, h3⟩ => ⟨u, h1, h2, h3⟩)) ?_
  rintro v w' ⟨h1, h2⟩
  exact ⟨_, rfl, h2, h1⟩
theorem hq39 : KqS Q a0 a w0 w lb wb g9 c9 a3 c3 39 kq39 := fun hx ho hb hd => by
  exact op_ok (i := 39) (o := kq39) rfl rfl (eq39 a w ((Kx.slot ho (by decide)).trans hx.s4) ((hb.block _ (lt_of_heap hx.b4)).trans hx.b4)) ⟨_, rfl, Below.refl _ _, _, 1, rfl, lr_small _ _ _ _ (by decide) (by decide) (by decide), hx.k4.low hb⟩
theorem hq40 : KqS Q a0 a w0 w lb wb g9 c9 a3 c3 40 kq40 := fun hx ho hb hd => by
  exact op_ok (i := 40) (o := kq40) rfl rfl (eq40 a w ((Kx.slot ho (by decide)).trans hx.s4) ((hb.block _ (lt_of_heap hx.b4)).trans hx.b4)) ⟨_, rfl, Below.refl _ _, _, 1, rfl, lr_small _ _ _ _ (by decide) (by decide) (by decide), hx.k4.low hb⟩
theorem hq41 : KqS Q a0 a w0 w lb wb g9 c9 a3 c3 41 kq41 := fun hx ho hb hd => by
  exact op_ok (i := 41) (o := kq41) rfl rfl (eq41 a w ((Kx.slot ho (by decide)).trans hx.s4) ((hb.block _ (lt_of_heap hx.b4)).trans hx.b4)) ⟨_, rfl, Below.refl _ _, _, 1, rfl, lr_small _ _ _ _ (by decide) (by decide) (by decide), hx.k4.low hb⟩
theorem hq42 : KqS Q a0 a w0 w lb wb g9 c9 a3 c3 42 kq42 := fun hx ho hb hd => by
  exact op_ok (i := 42) (o := kq42) rfl rfl (eq42 a w ((Kx.slot ho (by decide)).trans hx.s4) ((hb.block _ (lt_of_heap hx.b4)).trans hx.b4)) ⟨_, rfl, Below.refl _ _, _, 1, rfl, lr_small _ _ _ _ (by decide) (by decide) (by decide), hx.k4.low hb⟩
theorem hq43 : KqS Q a0 a w0 w lb wb g9 c9 a3 c3 43 kq43 := fun hx ho hb hd => by
  exact op_ok (i := 43) (o := kq43) rfl rfl (eq43 a w ((Kx.slot ho (by decide)).trans hx.s4) ((hb.block _ (lt_of_heap hx.b4)).trans hx.b4)) ⟨_, rfl, Below.refl _ _, _, 1, rfl, lr_small _ _ _ _ (by decide) (by decide) (by decide), hx.k4.low hb⟩
theorem hq44 : KqS Q a0 a w0 w lb wb g9 c9 a3 c3 44 kq44 := fun hx ho hb hd => by
  exact op_ok (i := 44) (o := kq44) rfl rfl (eq44 a w ((Kx.slot ho (by decide)).trans hx.s4) ((hb.block _ (lt_of_heap hx.b4)).trans hx.b4)) ⟨_, rfl, Below.refl _ _, _, 1, rfl, lr_small _ _ _ _ (by decide) (by decide) (by decide), hx.k4.low hb⟩
theorem hq45 : KqS Q a0 a w0 w lb wb g9 c9 a3 c3 45 kq45 := fun hx ho hb hd => by
  exact op_ok (i := 45) (o := kq45) rfl rfl (eq45 a w ((Kx.slot ho (by decide)).trans hx.s2)) ⟨_, rfl, Below.refl _ _, rfl⟩
theorem hq46 : KqS Q a0 a w0 w lb wb g9 c9 a3 c3 46 kq46 := fun hx ho hb hd => by
  exact op_ok (i := 46) (o := kq46) rfl rfl (eq46 a w (hd ⟨45, .data⟩ (by simp [kq46]) (by decide)) hx.c9) ⟨_, rfl, Below.refl _ _, rfl⟩
theorem hq47 : KqS Q a0 a w0 w lb wb g9 c9 a3 c3 47 kq47 := fun hx ho hb hd => by
  have e0 : gt a 75 = .slice (some ⟨g9, 0, none⟩) 7 c9 := hd ⟨46, .data⟩ (by simp [kq47]) (by decide)
  have h : RowV (List.replicate 7 aft7) (gt a 75) w := by rw [e0]; exact ⟨1, (hx.k9 7 (by decide) c9).low hb⟩
  refine op_call (i := 47) (o := kq47) (R := fun v w' => (kqF g9 c9 47).ok v w' ∧ Below w.heap.size w w') rfl rfl (eq47 a w rfl) ((call_all h (by decide +kernel) (by decide)).mono (fun e w' ⟨u, h1, h2, h3⟩ => ⟨u, h1, h2, h3⟩)) ?_
  rintro v w' ⟨h1, h2⟩
  exact ⟨_, rfl, h2, h1⟩
theorem hq48 : KqS Q a0 a w0 w lb wb g9 c9 a3 c3 48 kq48 := fun hx ho hb hd => by
  have m0 : LkV wide8 (gt a 68) w := hd ⟨39, .data⟩ (by simp [kq48]) (by decide)
  obtain ⟨v0, e0⟩ : ∃ kv, gt a 68 = .agg (lcs wide8 kv) := by obtain ⟨kv, _, e, _⟩ := m0; exact ⟨kv, e⟩
  rw [e0] at m0
  have m1 : LkV wide8 (gt a 69) w := hd ⟨40, .data⟩ (by simp [kq48]) (by decide)
  obtain ⟨v1, e1⟩ : ∃ kv, gt a 69 = .agg (lcs wide8 kv) := by obtain ⟨kv, _, e, _⟩ := m1; exact ⟨kv, e⟩
  rw [e1] at m1
  have m2 : LkV wide8 (gt a 70) w := hd ⟨41, .data⟩ (by simp [kq48]) (by decide)
  obtain ⟨v2, e2⟩ : ∃ kv, gt a 70 = .agg (lcs wide8 kv) := by obtain ⟨kv, _, e, _⟩ := m2; exact ⟨kv, e⟩
  rw [e2] at m2
  have m3 : LkV wide8 (gt a 71) w := hd ⟨42, .data⟩ (by simp [kq48]) (by decide)
  obtain ⟨v3, e3⟩ : ∃ kv, gt a 71 = .agg (lcs wide8 kv) := by obtain ⟨kv, _, e, _⟩ := m3; exact ⟨kv, e⟩
  rw [e3] at m3
  have m4 : LkV wide8 (gt a 72) w := hd ⟨43, .data⟩ (by simp [kq48]) (by decide)
  obtain ⟨v4, e4⟩ : ∃ kv, gt a 72 = .agg (lcs wide8 kv) := by obtain ⟨kv, _, e, _⟩ := m4; exact ⟨kv, e⟩
  rw [e4] at m4
  have m5 : LkV wide8 (gt a 73) w := hd ⟨44, .data⟩ (by simp [kq48]) (by decide)
  obtain ⟨v5, e5⟩ : ∃ kv, gt a 73 = .agg (lcs wide8 kv) := by obtain ⟨kv, _, e, _⟩ := m5; exact ⟨kv, e⟩
  rw [e5] at m5
  have m6 : LkV (.mk 5 [] 0 (List.replicate 7 aft7)) (gt a 76) w := hd ⟨47, .data⟩ (by simp [kq48]) (by decide)
  obtain ⟨v6, e6⟩ : ∃ kv, gt a 76 = .agg (lcs (.mk 5 [] 0 (List.replicate 7 aft7)) kv) := by obtain ⟨kv, _, e, _⟩ := m6; exact ⟨kv, e⟩
  rw [e6] at m6
  have hr := ex_row a w [(wide8, v0), (wide8, v1), (wide8, v2), (wide8, v3), (wide8, v4), (wide8, v5), ((.mk 5 [] 0 (List.replicate 7 aft7)), v6)] 7 _ kq48 rfl rfl (by decide) (by decide) (by simp only [ev_tmp, e0, ev_tmp, e1, ev_tmp, e2, ev_tmp, e3, ev_tmp, e4, ev_tmp, e5, ev_tmp, e6, List.map_toArray, List.map_cons, List.map_nil]; rfl)
  exact op_ok (i := 48) (o := kq48) rfl rfl hr ⟨_, rfl, below_al _ _, row_new w [(wide8, v0), (wide8, v1), (wide8, v2), (wide8, v3), (wide8, v4), (wide8, v5), ((.mk 5 [] 0 (List.replicate 7 aft7)), v6)] 7 7 rfl (by decide) (by simp only [List.forall_mem_cons]; exact ⟨m0, m1, m2, m3, m4, m5, m6, fun _ h => absurd h (by simp)⟩)⟩
theorem hq49 : KqS Q a0 a w0 w lb wb g9 c9 a3 c3 49 kq49 := fun hx ho hb hd => by
  have h : RowV [wide8, wide8, wide8, wide8, wide8, wide8, (.mk 5 [] 0 (List.replicate 7 aft7))] (gt a 77) w := hd ⟨48, .data⟩ (by simp [kq49]) (by decide)
  refine op_call (i := 49) (o := kq49) (R := fun v w' => (kqF g9 c9 49).ok v w' ∧ Below w.heap.size w w') rfl rfl (eq49 a w rfl) ((call_all h (by decide +kernel) (by decide)).mono (fun e w' ⟨u, h1, h2, h3⟩ => ⟨u, h1, h2, h3⟩)) ?_
  rintro v w' ⟨h1, h2⟩
  exact ⟨_, rfl, h2, h1⟩
theorem hq50 : KqS Q a0 a w0 w lb wb g9 c9 a3 c3 50 kq50 := fun hx ho hb hd => by
  exact op_ok (i := 50) (o := kq50) rfl rfl (eq50 a w ((Kx.slot ho (by decide)).trans hx.s4) ((hb.block _ (lt_of_heap hx.b4)).trans hx.b4)) ⟨_, rfl, Below.refl _ _, _, 1, rfl, lr_small _ _ _ _ (by decide) (by decide) (by decide), hx.k4.low hb⟩
theorem hq51 : KqS Q a0 a w0 w lb wb g9 c9 a3 c3 51 kq51 := fun hx ho hb hd => by
  exact op_ok (i := 51) (o := kq51) rfl rfl (eq51 a w ((Kx.slot ho (by decide)).trans hx.s4) ((hb.block _ (lt_of_heap hx.b4)).trans hx.b4)) ⟨_, rfl, Below.refl _ _, _, 1, rfl, lr_small _ _ _ _ (by decide) (by decide) (by decide), hx.k4.low hb⟩
theorem hq52 : KqS Q a0 a w0 w lb wb g9 c9 a3 c3 52 kq52 := fun hx ho hb hd => by
  exact op_ok (i := 52) (o := kq52) rfl rfl (eq52 a w ((Kx.slot ho (by decide)).trans hx.s4) ((hb.block _ (lt_of_heap hx.b4)).trans hx.b4)) ⟨_, rfl, Below.refl _ _, _, 1, rfl, lr_small _ _ _ _ (by decide) (by decide) (by decide), hx.k4.low hb⟩
theorem hq53 : KqS Q a0 a w0 w lb wb g9 c9 a3 c3 53 kq53 := fun hx ho hb hd => by
  exact op_ok (i := 53) (o := kq53) rfl rfl (eq53 a w ((Kx.slot ho (by decide)).trans hx.s4) ((hb.block _ (lt_of_heap hx.b4)).trans hx.b4)) ⟨_, rfl, Below.refl _ _, _, 1, rfl, lr_small _ _ _ _ (by decide) (by decide) (by decide), hx.k4.low hb⟩
theorem hq54 : KqS Q a0 a w0 w lb wb g9 c9 a3 c3 54 kq54 := fun hx ho hb hd => by
  exact op_ok (i := 54) (o := kq54) rfl rfl (eq54 a w ((Kx.slot ho (by decide)).trans hx.s4) ((hb.block _ (lt_of_heap hx.b4)).trans hx.b4)) ⟨_, rfl, Below.refl _ _, _, 1, rfl, lr_small _ _ _ _ (by decide) (by decide) (by decide), hx.k4.low hb⟩
theorem hq55 : KqS Q a0 a w0 w lb wb g9 c9 a3 c3 55 kq55 := fun hx ho hb hd => by
  exact op_ok (i := 55) (o := kq55) rfl rfl (eq55 a w ((Kx.slot ho (by decide)).trans hx.s4) ((hb.block _ (lt_of_heap hx.b4)).trans hx.b4)) ⟨_, rfl, Below.refl _ _, _, 1, rfl, lr_small _ _ _ _ (by decide) (by decide) (by decide), hx.k4.low hb⟩
theorem hq56 : KqS Q a0 a w0 w lb wb g9 c9 a3 c3 56 kq56 := fun hx ho hb hd => by
  exact op_ok (i := 56) (o := kq56) rfl rfl (eq56 a w ((Kx.slot ho (by decide)).trans hx.s4) ((hb.block _ (lt_of_heap hx.b4)).trans hx.b4)) ⟨_, rfl, Below.refl _ _, _, 1, rfl, lr_small _ _ _ _ (by decide) (by decide) (by decide), hx.k4.low hb⟩
theorem hq57 : KqS Q a0 a w0 w lb wb g9 c9 a3 c3 57 kq57 := fun hx ho hb hd => by
  have m0 : LkV wide8 (gt a 79) w := hd ⟨50, .data⟩ (by simp [kq57]) (by decide)
  obtain ⟨v0, e0⟩ : ∃ kv, gt a 79 = .agg (lcs wide8 kv) := by obtain ⟨kv, _, e, _⟩ := m0; exact ⟨kv, e⟩
  rw [e0] at m0
  have m1 : LkV wide8 (gt a 80) w := hd ⟨51, .data⟩ (by simp [kq57]) (by decide)
  obtain ⟨v1, e1⟩ : ∃ kv, gt a 80 = .agg (lcs wide8 kv) := by obtain ⟨kv, _, e, _⟩ := m1; exact ⟨kv, e⟩
  rw [e1] at m1
  have m2 : LkV wide8 (gt a 81) w := hd ⟨52, .data⟩ (by simp [kq57]) (by decide)
  obtain ⟨v2, e2⟩ : ∃ kv, gt a 81 = .agg (lcs wide8 kv) := by obtain ⟨kv, _, e, _⟩ := m2; exact ⟨kv, e⟩
  rw [e2] at m2
  have m3 : LkV wide8 (gt a 82) w := hd ⟨53, .data⟩ (by simp [kq57]) (by decide)
  obtain ⟨v3, e3⟩ : ∃ kv, gt a 82 = .agg (lcs wide8 kv) := by obtain ⟨kv, _, e, _⟩ := m3; exact ⟨kv, e⟩
  rw [e3] at m3
  have m4 : LkV wide8 (gt a 83) w := hd ⟨54, .data⟩ (by simp [kq57]) (by decide)
  obtain ⟨v4, e4⟩ : ∃ kv, gt a 83 = .agg (lcs wide8 kv) := by obtain ⟨kv, _, e, _⟩ := m4; exact ⟨kv, e⟩
  rw [e4] at m4
  have m5 : LkV wide8 (gt a 84) w := hd ⟨55, .data⟩ (by simp [kq57]) (by decide)
  obtain ⟨v5, e5⟩ : ∃ kv, gt a 84 = .agg (lcs wide8 kv) := by obtain ⟨kv, _, e, _⟩ := m5; exact ⟨kv, e⟩
  rw [e5] at m5
  have m6 : LkV wide8 (gt a 85) w := hd ⟨56, .data⟩ (by simp [kq57]) (by decide)
  obtain ⟨v6, e6⟩ : ∃ kv, gt a 85 = .agg (lcs wide8 kv) := by obtain ⟨kv, _, e, _⟩ := m6; exact ⟨kv, e⟩
  rw [e6] at m6
  have hr := ex_row a w [(wide8, v0), (wide8, v1), (wide8, v2), (wide8, v3), (wide8, v4), (wide8, v5), (wide8, v6)] 7 _ kq57 rfl rfl (by decide) (by decide) (by simp only [ev_tmp, e0, ev_tmp, e1, ev_tmp, e2, ev_tmp, e3, ev_tmp, e4, ev_tmp, e5, ev_tmp, e6, List.map_toArray, List.map_cons, List.map_nil]; rfl)
  exact op_ok (i := 57) (o := kq57) rfl rfl hr ⟨_, rfl, below_al _ _, row_new w [(wide8, v0), (wide8, v1), (wide8, v2), (wide8, v3), (wide8, v4), (wide8, v5), (wide8, v6)] 7 7 rfl (by decide) (by simp only [List.forall_mem_cons]; exact ⟨m0, m1, m2, m3, m4, m5, m6, fun _ h => absurd h (by simp)⟩)⟩
theorem hq58 : KqS Q a0 a w0 w lb wb g9 c9 a3 c3 58 kq58 := fun hx ho hb hd => by
  have h : RowV [wide8, wide8, wide8, wide8, wide8, wide8, wide8] (gt a 86) w := hd ⟨57, .data⟩ (by simp [kq58]) (by decide)
  refine op_call (i := 58) (o := kq58) (R := fun v w' => (kqF g9 c9 58).ok v w' ∧ Below w.heap.size w w') rfl rfl (eq58 a w rfl) ((call_all h (by decide +kernel) (by decide)).mono (fun e w' ⟨u, h1, h2, h3⟩ => ⟨u, h1, h2, h3⟩)) ?_
  rintro v w' ⟨h1, h2⟩
  exact ⟨_, rfl, h2, h1⟩
theorem hq59 : KqS Q a0 a w0 w lb wb g9 c9 a3 c3 59 kq59 := fun hx ho hb hd => by
  exact op_ok (i := 59) (o := kq59) rfl rfl (eq59 a w ((Kx.slot ho (by decide)).trans hx.s4) ((hb.block _ (lt_of_heap hx.b4)).trans hx.b4)) ⟨_, rfl, Below.refl _ _, _, 1, rfl, lr_small _ _ _ _ (by decide) (by decide) (by decide), hx.k4.low hb⟩
theorem hq60 : KqS Q a0 a w0 w lb wb g9 c9 a3 c3 60 kq60 := fun hx ho hb hd => by
  exact op_ok (i := 60) (o := kq60) rfl rfl (eq60 a w) ⟨_, rfl, Below.refl _ _, LkV.leaf w 0 [] 0 (by decide) (by decide) (by decide)⟩
theorem hq61 : KqS Q a0 a w0 w lb wb g9 c9 a3 c3 61 kq61 := fun hx ho hb hd => by
  have m0 : LkV wide8 (gt a 88) w := hd ⟨59, .data⟩ (by simp [kq61]) (by decide)
  obtain ⟨v0, e0⟩ : ∃ kv, gt a 88 = .agg (lcs wide8 kv) := by obtain ⟨kv, _, e, _⟩ := m0; exact ⟨kv, e⟩
  rw [e0] at m0
  have m1 : LkV (.mk 0 [] 0 []) (gt a 89) w := hd ⟨60, .data⟩ (by simp [kq61]) (by decide)
  obtain ⟨v1, e1⟩ : ∃ kv, gt a 89 = .agg (lcs (.mk 0 [] 0 []) kv) := by obtain ⟨kv, _, e, _⟩ := m1; exact ⟨kv, e⟩
  rw [e1] at m1
  have hr := ex_row a w [(wide8, v0), ((.mk 0 [] 0 []), v1)] 2 _ kq61 rfl rfl (by decide) (by decide) (by simp only [ev_tmp, e0, ev_tmp, e1, List.map_toArray, List.map_cons, List.map_nil]; rfl)
  exact op_ok (i := 61) (o := kq61) rfl rfl hr ⟨_, rfl, below_al _ _, row_new w [(wide8, v0), ((.mk 0 [] 0 []), v1)] 2 2 rfl (by decide) (by simp only [List.forall_mem_cons]; exact ⟨m0, m1, fun _ h => absurd h (by simp)⟩)⟩
theorem hq62 : KqS Q a0 a w0 w lb wb g9 c9 a3 c3 62 kq62 := fun hx ho hb hd => by
  have h : RowV [wide8, (.mk 0 [] 0 [])] (gt a 90) w := hd ⟨61, .data⟩ (by simp [kq62]) (by decide)
  refine op_call (i := 62) (o := kq62) (R := fun v w' => (kqF g9 c9 62).ok v w' ∧ Below w.heap.size w w') rfl rfl (eq62 a w rfl) ((call_all h (by decide +kernel) (by decide)).mono (fun e w' ⟨u, h1, h2, h3⟩ => ⟨u, h1, h2, h3⟩)) ?_
  rintro v w' ⟨h1, h2⟩
  exact ⟨_, rfl, h2, h1⟩
theorem hq63 : KqS Q a0 a w0 w lb wb g9 c9 a3 c3 63 kq63 := fun hx ho hb hd => by
  exact op_ok (i := 63) (o := kq63) rfl rfl (eq63 a w) ⟨_, rfl, Below.refl _ _, LkV.leaf w 3 [110, 49, 59] 1 (by decide) (by decide) (by decide)⟩
theorem hq64 : KqS Q a0 a w0 w lb wb g9 c9 a3 c3 64 kq64 := fun hx ho hb hd => by
  exact op_ok (i := 64) (o := kq64) rfl rfl (eq64 a w) ⟨_, rfl, Below.refl _ _, LkV.leaf w 1 [80, 110, 49, 59] 1 (by decide) (by decide) (by decide)⟩
theorem hq65 : KqS Q a0 a w0 w lb wb g9 c9 a3 c3 65 kq65 := fun hx ho hb hd => by
  exact op_ok (i := 65) (o := kq65) rfl rfl (eq65 a w ((Kx.slot ho (by decide)).trans hx.s1) ((hb.block _ (lt_of_heap hx.b1)).trans hx.b1)) ⟨_, rfl, Below.refl _ _, LkV.leaf w 3 [] 7 (by decide) (by decide) (by decide)⟩
theorem hq66 : KqS Q a0 a w0 w lb wb g9 c9 a3 c3 66 kq66 := fun hx ho hb hd => by
  have m0 : LkV aft7 (gt a 94) w := hd ⟨65, .data⟩ (by simp [kq66]) (by decide)
  obtain ⟨v0, e0⟩ : ∃ kv, gt a 94 = .agg (lcs aft7 kv) := by obtain ⟨kv, _, e, _⟩ := m0; exact ⟨kv, e⟩
  rw [e0] at m0
  have hr := ex_row a w [(aft7, v0)] 1 _ kq66 rfl rfl (by decide) (by decide) (by simp only [ev_tmp, e0, List.map_toArray, List.map_cons, List.map_nil]; rfl)
  exact op_ok (i := 66) (o := kq66) rfl rfl hr ⟨_, rfl, below_al _ _, row_new w [(aft7, v0)] 1 1 rfl (by decide) (by simp only [List.forall_mem_cons]; exact ⟨m0, fun _ h => absurd h (by simp)⟩)⟩
theorem hq67 : KqS Q a0 a w0 w lb wb g9 c9 a3 c3 67 kq67 := fun hx ho hb hd => by
  obtain ⟨d, h⟩ : RowV [aft7] (gt a 95) w := hd ⟨66, .data⟩ (by simp [kq67]) (by decide)
  obtain ⟨_, ao, c, e⟩ := h.shape
  rw [e] at h
  exact op_ok (i := 67) (o := kq67) rfl rfl (eq67 a w e) ⟨_, rfl, Below.refl _ _, _, d, rfl, lr_small _ _ _ _ (by decide) (by decide) (by decide), h⟩
theorem hq68 : KqS Q a0 a w0 w lb wb g9 c9 a3 c3 68 kq68 := fun hx ho hb hd => by
  exact op_ok (i := 68) (o := kq68) rfl rfl (eq68 a w ((Kx.slot ho (by decide)).trans hx.s1) ((hb.block _ (lt_of_heap hx.b1)).trans hx.b1)) ⟨_, rfl, Below.refl _ _, LkV.leaf w 3 [] 7 (by decide) (by decide) (by decide)⟩
theorem hq69 : KqS Q a0 a w0 w lb wb g9 c9 a3 c3 69 kq69 := fun hx ho hb hd => by
  have m0 : LkV aft7 (gt a 97) w := hd ⟨68, .data⟩ (by simp [kq69]) (by decide)
  obtain ⟨v0, e0⟩ : ∃ kv, gt a 97 = .agg (lcs aft7 kv) := by obtain ⟨kv, _, e, _⟩ := m0; exact ⟨kv, e⟩
  rw [e0] at m0
  have hr := ex_row a w [(aft7, v0)] 1 _ kq69 rfl rfl (by decide) (by decide) (by simp only [ev_tmp, e0, List.map_toArray, List.map_cons, List.map_nil]; rfl)
  exact op_ok (i := 69) (o := kq69) rfl rfl hr ⟨_, rfl, below_al _ _, row_new w [(aft7, v0)] 1 1 rfl (by decide) (by simp only [List.forall_mem_cons]; exact ⟨m0, fun _ h => absurd h (by simp)⟩)⟩
theorem hq70 : KqS Q a0 a w0 w lb wb g9 c9 a3 c3 70 kq70 := fun hx ho hb hd => by
  obtain ⟨d, h⟩ : RowV [aft7] (gt a 98) w := hd ⟨69, .data⟩ (by simp [kq70]) (by decide)
  obtain ⟨_, ao, c, e⟩ := h.shape
  rw [e] at h
  exact op_ok (i := 70) (o := kq70) rfl rfl (eq70 a w e) ⟨_, rfl, Below.refl _ _, _, d, rfl, lr_small _ _ _ _ (by decide) (by decide) (by decide), h⟩
theorem hq71 : KqS Q a0 a w0 w lb wb g9 c9 a3 c3 71 kq71 := fun hx ho hb hd => by
  exact op_ok (i := 71) (o := kq71) rfl rfl (eq71 a w ((Kx.slot ho (by decide)).trans hx.s1) ((hb.block _ (lt_of_heap hx.b1)).trans hx.b1)) ⟨_, rfl, Below.refl _ _, LkV.leaf w 3 [] 7 (by decide) (by decide) (by decide)⟩
theorem hq72 : KqS Q a0 a w0 w lb wb g9 c9 a3 c3 72 kq72 := fun hx ho hb hd => by
  have m0 : LkV aft7 (gt a 100) w := hd ⟨71, .data⟩ (by simp [kq72]) (by decide)
  obtain ⟨v0, e0⟩ : ∃ kv, gt a 100 = .agg (lcs aft7 kv) := by obtain ⟨kv, _, e, _⟩ := m0; exact ⟨kv, e⟩
  rw [e0] at m0
  have hr := ex_row a w [(aft7, v0)] 1 _ kq72 rfl rfl (by decide) (by decide) (by simp only [ev_tmp, e0, List.map_toArray, List.map_cons, List.map_nil]; rfl)
  exact op_ok (i := 72) (o := kq72) rfl rfl hr ⟨_, rfl, below_al _ _, row_new w [(aft7, v0)] 1 1 rfl (by decide) (by simp only [List.forall_mem_cons]; exact ⟨m0, fun _ h => absurd h (by simp)⟩)⟩
theorem hq73 : KqS Q a0 a w0 w lb wb g9 c9 a3 c3 73 kq73 := fun hx ho hb hd => by
  obtain ⟨d, h⟩ : RowV [aft7] (gt a 101) w := hd ⟨72, .data⟩ (by simp [kq73]) (by decide)
  obtain ⟨_, ao, c, e⟩ := h.shape
  rw [e] at h
  exact op_ok (i := 73) (o := kq73) rfl rfl (eq73 a w e) ⟨_, rfl, Below.refl _ _, _, d, rfl, lr_small _ _ _ _ (by decide) (by decide) (by decide), h⟩
theorem hq74 : KqS Q a0 a w0 w lb wb g9 c9 a3 c3 74 kq74 := fun hx ho hb hd => by
  exact op_ok (i := 74) (o := kq74) rfl rfl (eq74 a w ((Kx.slot ho (by decide)).trans hx.s1) ((hb.block _ (lt_of_heap hx.b1)).trans hx.b1)) ⟨_, rfl, Below.refl _ _, LkV.leaf w 3 [] 7 (by decide) (by decide) (by decide)⟩
theorem hq75 : KqS Q a0 a w0 w lb wb g9 c9 a3 c3 75 kq75 := fun hx ho hb hd => by
  have m0 : LkV aft7 (gt a 103) w := hd ⟨74, .data⟩ (by simp [kq75]) (by decide)
  obtain ⟨v0, e0⟩ : ∃ kv, gt a 103 = .agg (lcs aft7 kv) := by obtain ⟨kv, _, e, _⟩ := m0; exact ⟨kv, e⟩
  rw [e0] at m0
  have hr := ex_row a w [(aft7, v0)] 1 _ kq75 rfl rfl (by decide) (by decide) (by simp only [ev_tmp, e0, List.map_toArray, List.map_cons, List.map_nil]; rfl)
  exact op_ok (i := 75) (o := kq75) rfl rfl hr ⟨_, rfl, below_al _ _, row_new w [(aft7, v0)] 1 1 rfl (by decide) (by simp only [List.forall_mem_cons]; exact ⟨m0, fun _ h => absurd h (by simp)⟩)⟩
theorem hq76 : KqS Q a0 a w0 w lb wb g9 c9 a3 c3 76 kq76 := fun hx ho hb hd => by
  obtain ⟨d, h⟩ : RowV [aft7] (gt a 104) w := hd ⟨75, .data⟩ (by simp [kq76]) (by decide)
  obtain ⟨_, ao, c, e⟩ := h.shape
  rw [e] at h
  exact op_ok (i := 76) (o := kq76) rfl rfl (eq76 a w e) ⟨_, rfl, Below.refl _ _, _, d, rfl, lr_small _ _ _ _ (by decide) (by decide) (by decide), h⟩
theorem hq77 : KqS Q a0 a w0 w lb wb g9 c9 a3 c3 77 kq77 := fun hx ho hb hd => by
  refine op_call (i := 77) (o := kq77) (R := fun v w' => (kqF g9 c9 77).ok v w' ∧ Below w.heap.size w w') rfl rfl (eq77 a w) ((call_deep 63 (by decide) (by decide) w).mono (fun e w' ⟨u, h1, h2, h3⟩ => ⟨u, h1, h2, h3⟩)) ?_
  rintro v w' ⟨h1, h2⟩
  exact ⟨_, rfl, h2, h1⟩
theorem hq78 : KqS Q a0 a w0 w lb wb g9 c9 a3 c3 78 kq78 := fun hx ho hb hd => by
  refine op_call (i := 78) (o := kq78) (R := fun v w' => (kqF g9 c9 78).ok v w' ∧ Below w.heap.size w w') rfl rfl (eq78 a w) ((call_deep 64 (by decide) (by decide) w).mono (fun e w' ⟨u, h1, h2, h3⟩ => ⟨u, h1, h2, h3⟩)) ?_
  rintro v w' ⟨h1, h2⟩
  exact ⟨_, rfl, h2, h1⟩
theorem hq79 : KqS Q a0 a w0 w lb wb g9 c9 a3 c3 79 kq79 := fun hx ho hb hd => by
  refine op_call (i := 79) (o := kq79) (R := fun v w' => (kqF g9 c9 79).ok v w' ∧ Below w.heap.size w w') rfl rfl (eq79 a w) ((call_deep 65 (by decide) (by decide) w).mono (fun e w' ⟨u, h1, h2, h3⟩ => ⟨u, h1, h2, h3⟩)) ?_
  rintro v w' ⟨h1, h2⟩
  exact ⟨_, rfl, h2, h1⟩
theorem hq80 : KqS Q a0 a w0 w lb wb g9 c9 a3 c3 80 kq80 := fun hx ho hb hd => by
  refine op_call (i := 80) (o := kq80) (R := fun v w' => v = .agg (lcs (.mk 1 [80, 110, 49, 59] (0) []) (.slice none 0 0)) ∧ Below w.heap.size w w') rfl rfl (eq80 a w) ((mk_sig [80, 110, 49, 59] w (by decide)).mono (fun e w' ⟨h1, h2⟩ => ⟨_, h1, rfl, h2⟩)) ?_
  rintro v w' ⟨rfl, h2⟩
  exact ⟨_, rfl, h2, LkV.leaf w' 1 [80, 110, 49, 59] (0) (by decide) (by decide) (by decide)⟩
theorem hq81 : KqS Q a0 a w0 w lb wb g9 c9 a3 c3 81 kq81 := fun hx ho hb hd => by
  refine op_call (i := 81) (o := kq81) (R := fun v w' => v = .agg (lcs (.mk 2 [72, 110, 50, 59] (0) []) (.slice none 0 0)) ∧ Below w.heap.size w w') rfl rfl (eq81 a w) ((mk_pre [72, 110, 50, 59] w (by decide)).mono (fun e w' ⟨h1, h2⟩ => ⟨_, h1, rfl, h2⟩)) ?_
  rintro v w' ⟨rfl, h2⟩
  exact ⟨_, rfl, h2, LkV.leaf w' 2 [72, 110, 50, 59] (0) (by decide) (by decide) (by decide)⟩
theorem hq82 : KqS Q a0 a w0 w lb wb g9 c9 a3 c3 82 kq82 := fun hx ho hb hd => by
  refine op_call (i := 82) (o := kq82) (R := fun v w' => v = .agg (lcs (.mk 4 [] (6) []) (.slice none 0 0)) ∧ Below w.heap.size w w') rfl rfl (eq82 a w) ((mk_older (6) w).mono (fun e w' ⟨h1, h2⟩ => ⟨_, h1, rfl, h2⟩)) ?_
  rintro v w' ⟨rfl, h2⟩
  exact ⟨_, rfl, h2, LkV.leaf w' 4 [] (6) (by decide) (by decide) (by decide)⟩
theorem hq83 : KqS Q a0 a w0 w lb wb g9 c9 a3 c3 83 kq83 := fun hx ho hb hd => by
  have m0 : LkV (.mk 2 [72, 110, 50, 59] 0 []) (gt a 110) w := hd ⟨81, .data⟩ (by simp [kq83]) (by decide)
  obtain ⟨v0, e0⟩ : ∃ kv, gt a 110 = .agg (lcs (.mk 2 [72, 110, 50, 59] 0 []) kv) := by obtain ⟨kv, _, e, _⟩ := m0; exact ⟨kv, e⟩
  rw [e0] at m0
  have m1 : LkV (.mk 4 [] (6) []) (gt a 111) w := hd ⟨82, .data⟩ (by simp [kq83]) (by decide)
  obtain ⟨v1, e1⟩ : ∃ kv, gt a 111 = .agg (lcs (.mk 4 [] (6) []) kv) := by obtain ⟨kv, _, e, _⟩ := m1; exact ⟨kv, e⟩
  rw [e1] at m1
  have hr := ex_row a w [((.mk 2 [72, 110, 50, 59] 0 []), v0), ((.mk 4 [] (6) []), v1)] 2 _ kq83 rfl rfl (by decide) (by decide) (by simp only [ev_tmp, e0, ev_tmp, e1, List.map_toArray, List.map_cons, List.map_nil]; rfl)
  exact op_ok (i := 83) (o := kq83) rfl rfl hr ⟨_, rfl, below_al _ _, row_new w [((.mk 2 [72, 110, 50, 59] 0 []), v0), ((.mk 4 [] (6) []), v1)] 2 2 rfl (by decide) (by simp only [List.forall_mem_cons]; exact ⟨m0, m1, fun _ h => absurd h (by simp)⟩)⟩
theorem hq84 : KqS Q a0 a w0 w lb wb g9 c9 a3 c3 84 kq84 := fun hx ho hb hd => by
  have h : RowV [(.mk 2 [72, 110, 50, 59] 0 []), (.mk 4 [] (6) [])] (gt a 112) w := hd ⟨83, .data⟩ (by simp [kq84]) (by decide)
  refine op_call (i := 84) (o := kq84) (R := fun v w' => (kqF g9 c9 84).ok v w' ∧ Below w.heap.size w w') rfl rfl (eq84 a w rfl) ((call_all h (by decide +kernel) (by decide)).mono (fun e w' ⟨u, h1, h2, h3⟩ => ⟨u, h1, h2, h3⟩)) ?_
  rintro v w' ⟨h1, h2⟩
  exact ⟨_, rfl, h2, h1⟩
theorem hq85 : KqS Q a0 a w0 w lb wb g9 c9 a3 c3 85 kq85 := fun hx ho hb hd => by
  have m0 : LkV (.mk 1 [80, 110, 49, 59] 0 []) (gt a 109) w := hd ⟨80, .data⟩ (by simp [kq85]) (by decide)
  obtain ⟨v0, e0⟩ : ∃ kv, gt a 109 = .agg (lcs (.mk 1 [80, 110, 49, 59] 0 []) kv) := by obtain ⟨kv, _, e, _⟩ := m0; exact ⟨kv, e⟩
  rw [e0] at m0
  have m1 : LkV (.mk 5 [] 0 [(.mk 2 [72, 110, 50, 59] 0 []), (.mk 4 [] (6) [])]) (gt a 113) w := hd ⟨84, .data⟩ (by simp [kq85]) (by decide)
  obtain ⟨v1, e1⟩ : ∃ kv, gt a 113 = .agg (lcs (.mk 5 [] 0 [(.mk 2 [72, 110, 50, 59] 0 []), (.mk 4 [] (6) [])]) kv) := by obtain ⟨kv, _, e, _⟩ := m1; exact ⟨kv, e⟩
  rw [e1] at m1
  have hr := ex_row a w [((.mk 1 [80, 110, 49, 59] 0 []), v0), ((.mk 5 [] 0 [(.mk 2 [72, 110, 50, 59] 0 []), (.mk 4 [] (6) [])]), v1)] 2 _ kq85 rfl rfl (by decide) (by decide) (by simp only [ev_tmp, e0, ev_tmp, e1, List.map_toArray, List.map_cons, List.map_nil]; rfl)
  exact op_ok (i := 85) (o := kq85) rfl rfl hr ⟨_, rfl, below_al _ _, row_new w [((.mk 1 [80, 110, 49, 59] 0 []), v0), ((.mk 5 [] 0 [(.mk 2 [72, 110, 50, 59] 0 []), (.mk 4 [] (6) [])]), v1)] 2 2 rfl (by decide) (by simp only [List.forall_mem_cons]; exact ⟨m0, m1, fun _ h => absurd h (by simp)⟩)⟩
theorem hq86 : KqS Q a0 a w0 w lb wb g9 c9 a3 c3 86 kq86 := fun hx ho hb hd => by
  have h : RowV [(.mk 1 [80, 110, 49, 59] 0 []), (.mk 5 [] 0 [(.mk 2 [72, 110, 50, 59] 0 []), (.mk 4 [] (6) [])])] (gt a 114) w := hd ⟨85, .data⟩ (by simp [kq86]) (by decide)
  refine op_call (i := 86) (o := kq86) (R := fun v w' => (kqF g9 c9 86).ok v w' ∧ Below w.heap.size w w') rfl rfl (eq86 a w rfl) ((call_any h (by decide +kernel) (by decide)).mono (fun e w' ⟨u, h1, h2, h3⟩ => ⟨u, h1, h2, h3⟩)) ?_
  rintro v w' ⟨h1, h2⟩
  exact ⟨_, rfl, h2, h1⟩
theorem hq88 : KqS Q a0 a w0 w lb wb g9 c9 a3 c3 88 kq88 := fun hx ho hb hd => by
  exact op_ok (i := 88) (o := kq88) rfl rfl (eq88 a w rfl) ⟨_, rfl, Below.refl _ _, hd ⟨87, .data⟩ (by simp [kq88]) (by decide)⟩
end
end Go.Proofs.YtdllpklecdmghaaGreatDoor
