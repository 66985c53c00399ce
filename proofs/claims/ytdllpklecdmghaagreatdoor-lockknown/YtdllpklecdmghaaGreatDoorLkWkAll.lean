import Derived.Test.YtdllpklecdmghaaGreatDoorLkYAll
import Derived.Test.YtdllpklecdmghaaGreatDoorLkJAll
import Derived.Test.YtdllpklecdmghaaGreatDoorLkHAll
import Derived.Test.YtdllpklecdmghaaGreatDoorKaAll
/- works: the chapter's lock, put together, written, read, opened. -/
namespace Go.Proofs.YtdllpklecdmghaaGreatDoor
open Go.RowKit
open Lk (Lt Sp)
theorem kd_two {b : Nat → Prop} {W : World} {g d : Nat} {x y : Lt} {xv yv : Value} (h : W.heap[g]? = some (.cells #[.int .u8 (x.kind : Int), St x.term, .int .i64 x.n, xv, .int .u8 (y.kind : Int), St y.term, .int .i64 y.n, yv] 25 (0, 0))) (hb : b g) (hx : Lr x) (hy : Lr y) (kx : Kd b W d xv x.kids) (ky : Kd b W d yv y.kids) : Kd b W (d + 1) (.slice (some ⟨g, 0, none⟩) 2 2) [x, y] := by
  refine ⟨by simp, some ⟨g, 0, none⟩, 2, rfl, fun _ => ⟨g, 0, rfl, hb, fun i hi => ?_⟩⟩
  match i, hi with
  | 0, _ =>
    refine ⟨xv, fun j u hu => ?_, hx, kx⟩
    have hj : j < 4 := (Array.getElem?_eq_some_iff.1 hu).1
    rw [cell_of_heap h]
    match j, hj with
    | 0, _ => exact hu
    | 1, _ => exact hu
    | 2, _ => exact hu
    | 3, _ => exact hu
  | 1, _ =>
    refine ⟨yv, fun j u hu => ?_, hy, ky⟩
    have hj : j < 4 := (Array.getElem?_eq_some_iff.1 hu).1
    rw [cell_of_heap h]
    match j, hj with
    | 0, _ => exact hu
    | 1, _ => exact hu
    | 2, _ => exact hu
    | 3, _ => exact hu
theorem lr_small (k : Nat) (t : Bs) (n : Int) (ks : List Lt) (h1 : k < 256) (h2 : t.length ≤ 1000) (h3 : -1000000 ≤ n ∧ n ≤ 1000000) : Lr (.mk k t n ks) := ⟨h1, by show t.length ≤ _; omega, by show _ ≤ n ∧ n < _; omega⟩
theorem wk_world (w8 Wf : World) (x0 x1 x2 x3 y0 s0 s1 t0 u0 u1 : Value) (hW : Wf = ((((w8.alloc (.cells #[x0, x1, x2, x3] 25)).alloc (.cells #[y0] 22)).alloc (.cells #[s0, s1] 40)).alloc (.cells #[t0] 22)).alloc (.cells #[u0, u1] 40)) :
    Wf.heap[w8.heap.size]? = some (.cells #[x0, x1, x2, x3] 25 (0, 0)) ∧ Wf.heap[w8.heap.size + 1]? = some (.cells #[y0] 22 (0, 0)) ∧ Wf.heap[w8.heap.size + 1 + 1]? = some (.cells #[s0, s1] 40 (0, 0)) ∧ Wf.heap[w8.heap.size + 1 + 1 + 1]? = some (.cells #[t0] 22 (0, 0)) ∧ Wf.heap[w8.heap.size + 1 + 1 + 1 + 1]? = some (.cells #[u0, u1] 40 (0, 0)) ∧ Below w8.heap.size w8 Wf := by
  have e1 : (w8.alloc (.cells #[x0, x1, x2, x3] 25)).heap.size = w8.heap.size + 1 := by simp
  have h1 := heap_alloc_new w8 (.cells #[x0, x1, x2, x3] 25)
  have b1 := below_al w8 (.cells #[x0, x1, x2, x3] 25)
  generalize w8.alloc (.cells #[x0, x1, x2, x3] 25) = w1 at *
  have e2 : (w1.alloc (.cells #[y0] 22)).heap.size = w1.heap.size + 1 := by simp
  have h2 := heap_alloc_new w1 (.cells #[y0] 22)
  have b2 := below_al w1 (.cells #[y0] 22)
  generalize w1.alloc (.cells #[y0] 22) = w2 at *
  have e3 : (w2.alloc (.cells #[s0, s1] 40)).heap.size = w2.heap.size + 1 := by simp
  have h3 := heap_alloc_new w2 (.cells #[s0, s1] 40)
  have b3 := below_al w2 (.cells #[s0, s1] 40)
  generalize w2.alloc (.cells #[s0, s1] 40) = w3 at *
  have e4 : (w3.alloc (.cells #[t0] 22)).heap.size = w3.heap.size + 1 := by simp
  have h4 := heap_alloc_new w3 (.cells #[t0] 22)
  have b4 := below_al w3 (.cells #[t0] 22)
  generalize w3.alloc (.cells #[t0] 22) = w4 at *
  have h5 := heap_alloc_new w4 (.cells #[u0, u1] 40)
  have b5 := below_al w4 (.cells #[u0, u1] 40)
  rw [← hW] at h5 b5
  refine ⟨?_, ?_, ?_, ?_, ?_, b1.trans ((b2.mono (by omega)).trans ((b3.mono (by omega)).trans ((b4.mono (by omega)).trans (b5.mono (by omega)))))⟩
  · rw [b5.block _ (by omega), b4.block _ (by omega), b3.block _ (by omega), b2.block _ (by omega)]; exact h1
  · rw [b5.block _ (by omega), b4.block _ (by omega), b3.block _ (by omega), show w8.heap.size + 1 = w1.heap.size by omega]; exact h2
  · rw [b5.block _ (by omega), b4.block _ (by omega), show w8.heap.size + 1 + 1 = w2.heap.size by omega]; exact h3
  · rw [b5.block _ (by omega), show w8.heap.size + 1 + 1 + 1 = w3.heap.size by omega]; exact h4
  · rw [show w8.heap.size + 1 + 1 + 1 + 1 = w4.heap.size by omega]; exact h5
theorem texts_row1 {W : World} {g : Nat} {t : Bs} (h : W.heap[g]? = some (.cells #[St t] 22 (0, 0))) : Texts W (.slice (some ⟨g, 0, none⟩) 1 1) [t] :=
  ⟨_, _, rfl, fun _ => ⟨g, 0, rfl, lt_of_heap h, fun i hi => by
    match i, hi with
    | 0, _ => exact (cell_of_heap h 0).trans rfl⟩⟩
set_option maxRecDepth 100000 in
set_option maxHeartbeats 8000000 in
theorem works_any (w : World) (hp : Pw w) : Calls Tryz.prog 15 #[] w fun e w' => e = .returned (.bool true) ∧ Below w.heap.size w w' := by
  have H1 : Hid (∀ W, Calls Tryz.prog 24 #[St [80, 110, 49, 59]] W fun e w' => e = .returned (.agg #[.int .u8 1, St [80, 110, 49, 59], .int .i64 0, .slice none 0 0]) ∧ Below W.heap.size W w') := hid (fun W => mk_sig _ W (by decide))
  have H2 : Hid (∀ W, Calls Tryz.prog 25 #[St [72, 110, 50, 59]] W fun e w' => e = .returned (.agg #[.int .u8 2, St [72, 110, 50, 59], .int .i64 0, .slice none 0 0]) ∧ Below W.heap.size W w') := hid (fun W => mk_pre _ W (by decide))
  have H3 : Hid (∀ W, Calls Tryz.prog 26 #[.int .i64 6] W fun e w' => e = .returned (.agg #[.int .u8 4, St [], .int .i64 6, .slice none 0 0]) ∧ Below W.heap.size W w') := hid (fun W => mk_older 6 W)
  have H4 : Hid (∀ W, Calls Tryz.prog 23 #[.slice (some ⟨W.heap.size, 0, none⟩) 2 2] (W.alloc (.cells #[.int .u8 2, St [72, 110, 50, 59], .int .i64 0, .slice none 0 0, .int .u8 4, St [], .int .i64 6, .slice none 0 0] 25)) fun e w' => ∃ a c, e = .returned (.agg #[.int .u8 5, St [], .int .i64 0, .slice a 2 c]) ∧ Kd (fun _ => True) w' 1 (.slice a 2 c) chB.kids ∧ Below W.heap.size W w') := hid (fun W => (mk_all (b := fun _ => True) 1 _ [.mk 2 [72, 110, 50, 59] 0 [], .mk 4 [] 6 []] _ (kd_two (heap_alloc_new W _) trivial (lr_small _ _ _ _ (by decide) (by decide) (by decide)) (lr_small _ _ _ _ (by decide) (by decide) (by decide)) (Kd.nil _ _ _) (Kd.nil _ _ _)) ch_smalls.2 (by decide)).mono (fun e w' ⟨v', h1, h2, h3⟩ => by
    obtain ⟨_, a, c, rfl⟩ := h2.shape
    exact ⟨a, c, h1, h2.base (fun _ _ => trivial), (below_al W _).trans (h3.mono (below_al W _).size)⟩))
  have H5 : Hid (∀ W a c, Kd (fun _ => True) W 1 (.slice a 2 c) chB.kids → Calls Tryz.prog 27 #[.slice (some ⟨W.heap.size, 0, none⟩) 2 2] (W.alloc (.cells #[.int .u8 1, St [80, 110, 49, 59], .int .i64 0, .slice none 0 0, .int .u8 5, St [], .int .i64 0, .slice a 2 c] 25)) fun e w' => ∃ a c, e = .returned (.agg #[.int .u8 6, St [], .int .i64 0, .slice a 2 c]) ∧ Kd (fun _ => True) w' 2 (.slice a 2 c) chL.kids ∧ Below W.heap.size W w') := hid (fun W a c hk => (mk_any (b := fun _ => True) 2 _ [.mk 1 [80, 110, 49, 59] 0 [], chB] _ (kd_two (y := chB) (heap_alloc_new W _) trivial (lr_small _ _ _ _ (by decide) (by decide) (by decide)) (lr_small _ _ _ _ (by decide) (by decide) (by decide)) (Kd.nil _ _ _) (hk.low (below_al W _))) ch_smalls.1 (by decide)).mono (fun e w' ⟨v', h1, h2, h3⟩ => by
    obtain ⟨_, a, c, rfl⟩ := h2.shape
    exact ⟨a, c, h1, h2.base (fun _ _ => trivial), (below_al W _).trans (h3.mono (below_al W _).size)⟩))
  have HB0 := hid (Below.refl w.heap.size w)
  have HP := hid hp
  clear hp
  go_enter Tryz.func15, Tryz.ntmps15
  go_wp2_with fail
  refine (H1.out _).mono ?_
  rintro e w1 ⟨rfl, hb⟩
  have HB1 := hid (HB0.out.trans hb)
  clear hb HB0
  go_wp2_with fail
  refine (H2.out _).mono ?_
  rintro e w2 ⟨rfl, hb⟩
  have HB2 := hid (HB1.out.trans (hb.mono HB1.out.size))
  clear hb HB1
  go_wp2_with fail
  refine (H3.out _).mono ?_
  rintro e w3 ⟨rfl, hb⟩
  have HB3 := hid (HB2.out.trans (hb.mono HB2.out.size))
  clear hb HB2
  go_wp2_with fail
  refine (H4.out _).mono ?_
  rintro e w4 ⟨a4, c4, rfl, hk, hb⟩
  have HB4 := hid (HB3.out.trans (hb.mono HB3.out.size))
  have HK4 := hid hk
  clear hb hk HB3
  go_wp2_with fail
  refine (H5.out _ _ _ HK4.out).mono ?_
  rintro e w5 ⟨a5, c5, rfl, hk, hb⟩
  have HB5 := hid (HB4.out.trans (hb.mono HB4.out.size))
  have HK5 := hid hk
  clear hb hk HB4 HK4 H1 H2 H3 H4 H5
  go_wp2_with fail
  have hA := below_al w5 (.cells #[.int .u8 6, .string ⟨#[]⟩, .int .i64 0, .slice a5 2 c5] 25)
  have hAh := heap_alloc_new w5 (.cells #[.int .u8 6, .string ⟨#[]⟩, .int .i64 0, .slice a5 2 c5] 25)
  obtain ⟨A, hAe⟩ : ∃ A, A = w5.alloc (.cells #[.int .u8 6, .string ⟨#[]⟩, .int .i64 0, .slice a5 2 c5] 25) := ⟨_, rfl⟩
  rw [← hAe] at hA hAh
  have HBA := hid (HB5.out.trans (hA.mono HB5.out.size))
  have HKA := hid (HK5.out.low hA)
  have HAH := hid hAh
  have H6 : Hid (Calls Tryz.prog 8 #[.agg #[.int .u8 6, .string ⟨#[]⟩, .int .i64 0, .slice a5 2 c5]] A fun e w' => e = .returned (.tuple #[.string ⟨#[124, 50, 58, 115, 80, 110, 49, 59, 38, 50, 58, 112, 72, 110, 50, 59, 111, 54, 59]⟩, .int .i64 0]) ∧ Below A.heap.size A w') := hid (by
    have h := write_any 2 chL (.slice a5 2 c5) A HKA.out (HP.out.below HBA.out)
    rw [ch_wres] at h
    exact h)
  rw [← hAe]
  clear hA hAh HK5 HB5 hAe
  refine H6.out.mono ?_
  rintro e w7 ⟨rfl, hb⟩
  have HB7 := hid (HBA.out.trans (hb.mono HBA.out.size))
  have HK7 := hid (HKA.out.low hb)
  have HH7 := hid ((hb.block _ (lt_of_heap HAH.out)).trans HAH.out)
  clear hb H6 HBA HKA HAH
  go_wp2_with fail
  have H7 : Hid (Calls Tryz.prog 16 #[.string ⟨#[124, 50, 58, 115, 80, 110, 49, 59, 38, 50, 58, 112, 72, 110, 50, 59, 111, 54, 59]⟩] w7 fun e w' => ∃ a c, e = .returned (.tuple #[.agg #[.int .u8 6, .string ⟨#[]⟩, .int .i64 0, .slice a 2 c], .int .i64 0]) ∧ Kd (fun g => w7.heap.size ≤ g) w' 65 (.slice a 2 c) chL.kids ∧ Below w7.heap.size w7 w') := hid (by
    have h := read_all chT w7 (by decide)
    unfold rdL rdE at h
    rw [ch_rd] at h
    refine h.mono (fun e w' ⟨⟨kv, h1, h2⟩, h3⟩ => ?_)
    obtain ⟨_, a, c, rfl⟩ := h2.shape
    exact ⟨a, c, h1, h2, h3⟩)
  refine H7.out.mono ?_
  rintro e w8 ⟨a8, c8, rfl, hk8, hb⟩
  have HB8 := hid (HB7.out.trans (hb.mono HB7.out.size))
  have HK8 := hid (HK7.out.low hb)
  have HM8 := hid hk8
  have HH8 := hid ((hb.block _ (lt_of_heap HH7.out)).trans HH7.out)
  clear hb hk8 H7 HB7 HK7 HH7
  have HL8 := hid HH8.out
  obtain ⟨Wf, hWf⟩ : ∃ Wf, Wf = ((((w8.alloc (.cells #[.int .u8 6, .string ⟨#[]⟩, .int .i64 0, .slice a8 2 c8] 25)).alloc (.cells #[.string ⟨#[83, 110, 49, 59, 116, 49, 58, 120]⟩] 22)).alloc (.cells #[.slice (some ⟨w8.heap.size + 1, 0, none⟩) 1 1, .slice none 0 0] 40)).alloc (.cells #[.string ⟨#[110, 50, 59]⟩] 22)).alloc (.cells #[.slice none 0 0, .slice (some ⟨w8.heap.size + 1 + 1 + 1, 0, none⟩) 1 1] 40) := ⟨_, rfl⟩
  obtain ⟨f1, f2, f3, f4, f5, hbf⟩ := wk_world w8 Wf _ _ _ _ _ _ _ _ _ _ hWf
  have HBF := hid (HB8.out.trans (hbf.mono HB8.out.size))
  have HKF := hid (HK8.out.low hbf)
  have HMF := hid (HM8.out.low hbf)
  have HHF := hid ((hbf.block _ (lt_of_heap HH8.out)).trans HH8.out)
  have HCF : Hid (∀ W, Below Wf.heap.size Wf W → (W.cell? ⟨w5.heap.size, 0, none⟩ = some (.int .u8 6) ∧ W.cell? ⟨w5.heap.size, 1, none⟩ = some (.string ⟨#[]⟩) ∧ W.cell? ⟨w5.heap.size, 2, none⟩ = some (.int .i64 0) ∧ W.cell? ⟨w5.heap.size, 3, none⟩ = some (.slice a5 2 c5)) ∧ (W.cell? ⟨w8.heap.size, 0, none⟩ = some (.int .u8 6) ∧ W.cell? ⟨w8.heap.size, 1, none⟩ = some (.string ⟨#[]⟩) ∧ W.cell? ⟨w8.heap.size, 2, none⟩ = some (.int .i64 0) ∧ W.cell? ⟨w8.heap.size, 3, none⟩ = some (.slice a8 2 c8)) ∧ (W.cell? ⟨w8.heap.size + 1 + 1, 0, none⟩ = some (.slice (some ⟨w8.heap.size + 1, 0, none⟩) 1 1) ∧ W.cell? ⟨w8.heap.size + 1 + 1, 1, none⟩ = some (.slice none 0 0)) ∧ W.cell? ⟨w8.heap.size + 1 + 1 + 1 + 1, 0, none⟩ = some (.slice none 0 0) ∧ W.cell? ⟨w8.heap.size + 1 + 1 + 1 + 1, 1, none⟩ = some (.slice (some ⟨w8.heap.size + 1 + 1 + 1, 0, none⟩) 1 1)) := hid (fun W hW => by
    have k1 := (hW.block _ (lt_of_heap HHF.out)).trans HHF.out
    have k2 := (hW.block _ (lt_of_heap f1)).trans f1
    have k3 := (hW.block _ (lt_of_heap f3)).trans f3
    have k4 := (hW.block _ (lt_of_heap f5)).trans f5
    exact ⟨⟨(cell_of_heap k1 0).trans rfl, (cell_of_heap k1 1).trans rfl, (cell_of_heap k1 2).trans rfl, (cell_of_heap k1 3).trans rfl⟩, ⟨(cell_of_heap k2 0).trans rfl, (cell_of_heap k2 1).trans rfl, (cell_of_heap k2 2).trans rfl, (cell_of_heap k2 3).trans rfl⟩, ⟨(cell_of_heap k3 0).trans rfl, (cell_of_heap k3 1).trans rfl⟩, (cell_of_heap k4 0).trans rfl, (cell_of_heap k4 1).trans rfl⟩)
  have HO1 : Hid (∀ W, Below Wf.heap.size Wf W → Calls Tryz.prog 20 #[.agg #[.int .u8 6, .string ⟨#[]⟩, .int .i64 0, .slice a5 2 c5], .agg #[.slice (some ⟨w8.heap.size + 1, 0, none⟩) 1 1, .slice none 0 0], .string ⟨#[116, 49, 58, 120]⟩, .int .i64 0, .int .i64 0] W fun e w' => e = .returned (.bool true) ∧ Below Wf.heap.size Wf w') := hid (fun W hW => by
    have h := lopens_any 2 chL (.slice a5 2 c5) sp1 (.slice (some ⟨w8.heap.size + 1, 0, none⟩) 1 1) (.slice none 0 0) W (HKF.out.low hW) ((⟨texts_row1 f2, texts_nil Wf, by decide, by decide⟩ : Sw Wf sp1 (.slice (some ⟨w8.heap.size + 1, 0, none⟩) 1 1) (.slice none 0 0)).low hW)
    rw [ch_o1] at h
    exact h.mono (fun e w' ⟨h1, h2⟩ => ⟨h1, hW.trans (h2.mono hW.size)⟩))
  have HO2 : Hid (∀ W, Below Wf.heap.size Wf W → Calls Tryz.prog 20 #[.agg #[.int .u8 6, .string ⟨#[]⟩, .int .i64 0, .slice a5 2 c5], .agg #[.slice (some ⟨w8.heap.size + 1, 0, none⟩) 1 1, .slice none 0 0], .string ⟨#[116, 49, 58, 121]⟩, .int .i64 0, .int .i64 0] W fun e w' => e = .returned (.bool false) ∧ Below Wf.heap.size Wf w') := hid (fun W hW => by
    have h := lopens_any 2 chL (.slice a5 2 c5) sp2 (.slice (some ⟨w8.heap.size + 1, 0, none⟩) 1 1) (.slice none 0 0) W (HKF.out.low hW) ((⟨texts_row1 f2, texts_nil Wf, by decide, by decide⟩ : Sw Wf sp2 (.slice (some ⟨w8.heap.size + 1, 0, none⟩) 1 1) (.slice none 0 0)).low hW)
    rw [ch_o2] at h
    exact h.mono (fun e w' ⟨h1, h2⟩ => ⟨h1, hW.trans (h2.mono hW.size)⟩))
  have HO3 : Hid (∀ W, Below Wf.heap.size Wf W → Calls Tryz.prog 20 #[.agg #[.int .u8 6, .string ⟨#[]⟩, .int .i64 0, .slice a5 2 c5], .agg #[.slice none 0 0, .slice (some ⟨w8.heap.size + 1 + 1 + 1, 0, none⟩) 1 1], .string ⟨#[116, 49, 58, 120]⟩, .int .i64 0, .int .i64 6] W fun e w' => e = .returned (.bool true) ∧ Below Wf.heap.size Wf w') := hid (fun W hW => by
    have h := lopens_any 2 chL (.slice a5 2 c5) sp3 (.slice none 0 0) (.slice (some ⟨w8.heap.size + 1 + 1 + 1, 0, none⟩) 1 1) W (HKF.out.low hW) ((⟨texts_nil Wf, texts_row1 f4, by decide, by decide⟩ : Sw Wf sp3 (.slice none 0 0) (.slice (some ⟨w8.heap.size + 1 + 1 + 1, 0, none⟩) 1 1)).low hW)
    rw [ch_o3] at h
    exact h.mono (fun e w' ⟨h1, h2⟩ => ⟨h1, hW.trans (h2.mono hW.size)⟩))
  have HO4 : Hid (∀ W, Below Wf.heap.size Wf W → Calls Tryz.prog 20 #[.agg #[.int .u8 6, .string ⟨#[]⟩, .int .i64 0, .slice a5 2 c5], .agg #[.slice none 0 0, .slice (some ⟨w8.heap.size + 1 + 1 + 1, 0, none⟩) 1 1], .string ⟨#[116, 49, 58, 120]⟩, .int .i64 0, .int .i64 5] W fun e w' => e = .returned (.bool false) ∧ Below Wf.heap.size Wf w') := hid (fun W hW => by
    have h := lopens_any 2 chL (.slice a5 2 c5) sp4 (.slice none 0 0) (.slice (some ⟨w8.heap.size + 1 + 1 + 1, 0, none⟩) 1 1) W (HKF.out.low hW) ((⟨texts_nil Wf, texts_row1 f4, by decide, by decide⟩ : Sw Wf sp4 (.slice none 0 0) (.slice (some ⟨w8.heap.size + 1 + 1 + 1, 0, none⟩) 1 1)).low hW)
    rw [ch_o4] at h
    exact h.mono (fun e w' ⟨h1, h2⟩ => ⟨h1, hW.trans (h2.mono hW.size)⟩))
  have HSM : Hid (∀ W, Below Wf.heap.size Wf W → Calls Tryz.prog 18 #[.agg #[.int .u8 6, .string ⟨#[]⟩, .int .i64 0, .slice a5 2 c5], .agg #[.int .u8 6, .string ⟨#[]⟩, .int .i64 0, .slice a8 2 c8]] W fun e w' => e = .returned (.bool true) ∧ Below Wf.heap.size Wf w') := hid (fun W hW => by
    have h := slock_any 2 chL chL (.slice a5 2 c5) (.slice a8 2 c8) 65 W (HKF.out.low hW) (HMF.out.low hW)
    rw [ch_same] at h
    exact h.mono (fun e w' ⟨h1, h2⟩ => ⟨h1, hW.trans (h2.mono hW.size)⟩))
  have HKY : Hid (∀ W, Below Wf.heap.size Wf W → Calls Tryz.prog 13 #[.agg #[.int .u8 6, .string ⟨#[]⟩, .int .i64 0, .slice a5 2 c5]] W fun e w' => ∃ a c, e = .returned (.slice a 1 c) ∧ Below Wf.heap.size Wf w') := hid (fun W hW => by
    refine (keys_any 2 chL (.slice a5 2 c5) W (HKF.out.low hW)).mono (fun e w' ⟨v, h1, h2, h3⟩ => ?_)
    rw [ch_keys] at h2
    obtain ⟨a, c, rfl⟩ := row_shape h2
    exact ⟨a, c, h1, hW.trans (h3.mono hW.size)⟩)
  obtain ⟨⟨q0, q1, q2, q3⟩, ⟨r0, r1, r2, r3⟩, ⟨s0, s1⟩, t0, t1⟩ := HCF.out Wf (Below.refl _ _)
  clear f1 f2 f3 f4 f5 hbf HK8 HM8 HH8 HB8 HKF HMF HHF HL8 HP
  rw [hWf] at q0 q1 q2 q3 r0 r1 r2 r3
  clear s0 s1 t0 t1
  go_wp2_with fail
  rw [← hWf]
  clear q0 q1 q2 q3 r0 r1 r2 r3 hWf
  refine (HSM.out _ (Below.refl _ _)).mono ?_
  rintro e w9 ⟨rfl, hb⟩
  have HB9 := hid hb
  obtain ⟨⟨q0, q1, q2, q3⟩, ⟨r0, r1, r2, r3⟩, ⟨s0, s1⟩, t0, t1⟩ := HCF.out w9 hb
  clear hb
  go_wp2_with fail
  clear q0 q1 q2 q3 r0 r1 r2 r3 s0 s1 t0 t1
  refine (HO1.out _ HB9.out).mono ?_
  rintro e w10 ⟨rfl, hb⟩
  have HB10 := hid hb
  obtain ⟨⟨q0, q1, q2, q3⟩, ⟨r0, r1, r2, r3⟩, ⟨s0, s1⟩, t0, t1⟩ := HCF.out w10 hb
  clear hb
  go_wp2_with fail
  clear q0 q1 q2 q3 r0 r1 r2 r3 s0 s1 t0 t1
  refine (HO2.out _ HB10.out).mono ?_
  rintro e w11 ⟨rfl, hb⟩
  have HB11 := hid hb
  obtain ⟨⟨q0, q1, q2, q3⟩, ⟨r0, r1, r2, r3⟩, ⟨s0, s1⟩, t0, t1⟩ := HCF.out w11 hb
  clear hb
  go_wp2_with fail
  clear q0 q1 q2 q3 r0 r1 r2 r3 s0 s1 t0 t1
  refine (HO3.out _ HB11.out).mono ?_
  rintro e w12 ⟨rfl, hb⟩
  have HB12 := hid hb
  obtain ⟨⟨q0, q1, q2, q3⟩, ⟨r0, r1, r2, r3⟩, ⟨s0, s1⟩, t0, t1⟩ := HCF.out w12 hb
  clear hb
  go_wp2_with fail
  clear q0 q1 q2 q3 r0 r1 r2 r3 s0 s1 t0 t1
  refine (HO4.out _ HB12.out).mono ?_
  rintro e w13 ⟨rfl, hb⟩
  have HB13 := hid hb
  obtain ⟨⟨q0, q1, q2, q3⟩, ⟨r0, r1, r2, r3⟩, ⟨s0, s1⟩, t0, t1⟩ := HCF.out w13 hb
  clear hb
  go_wp2_with fail
  clear q0 q1 q2 q3 r0 r1 r2 r3 s0 s1 t0 t1
  refine (HKY.out _ HB13.out).mono ?_
  rintro e w14 ⟨ay, cy, rfl, hb⟩
  have HB14 := hid (HBF.out.trans (hb.mono HBF.out.size))
  clear hb
  go_wp2_with fail
  go_ret
  exact ⟨rfl, HB14.out⟩
end Go.Proofs.YtdllpklecdmghaaGreatDoor
/- Small calls of the laws: a number brought within bounds, whether a witness is large. -/
namespace Go.Proofs.YtdllpklecdmghaaGreatDoor
open Go.RowKit
open Lk (Lt Sp)
theorem tmod_pick {i n : Int} (hn : 0 < n) : (i.tmod n + n).tmod n = i % n := by
  have h1 := Int.emod_nonneg i (show n ≠ 0 by omega)
  have h2 := Int.emod_lt_of_pos i hn
  have h3 : i.tmod n = i % n ∨ i.tmod n + n = i % n := by
    rw [Int.tmod_eq_emod]
    split
    · left; omega
    · right
      have : (n.natAbs : Int) = n := by omega
      omega
  rcases h3 with h3 | h3
  · rw [h3, Int.tmod_eq_emod_of_nonneg (by omega), Int.add_emod_right, Int.emod_emod]
  · rw [h3, Int.tmod_eq_emod_of_nonneg h1, Int.emod_emod]
theorem tmod_lt {i n : Int} (hn : 0 < n) : -n < i.tmod n ∧ i.tmod n < n := by
  have h1 := Int.emod_nonneg i (show n ≠ 0 by omega)
  have h2 := Int.emod_lt_of_pos i hn
  rw [Int.tmod_eq_emod]
  split
  · omega
  · have : (n.natAbs : Int) = n := by omega
    omega
set_option maxHeartbeats 4000000 in
theorem pick_any (i n : Int) (w : World) (hn : 0 < n ∧ n ≤ 1000000) : Calls Tryz.prog 56 #[.int .i64 i, .int .i64 n] w fun e w' => e = .returned (.int .i64 (i % n)) ∧ w' = w := by
  have h1 := tmod_lt (i := i) hn.1
  have h2 := tmod_pick (i := i) hn.1
  have h3 := Int.emod_nonneg i (show n ≠ 0 by omega)
  have h4 := Int.emod_lt_of_pos i hn.1
  obtain ⟨r, hr⟩ : ∃ r, r = i % n := ⟨_, rfl⟩
  rw [← hr] at h2 h3 h4 ⊢
  obtain ⟨t, ht⟩ : ∃ t, t = i.tmod n := ⟨_, rfl⟩
  rw [← ht] at h1 h2
  have e0 : i.tmod n = t := ht.symm
  have e1 : IntKind.i64.wrap t = t := by rw [IntKind.wrap_i64]; omega
  have e2 : IntKind.i64.wrap (t + n) = t + n := by rw [IntKind.wrap_i64]; omega
  have e3 : IntKind.i64.wrap r = r := by rw [IntKind.wrap_i64]; omega
  have hp : ¬ n ≤ 0 := by omega
  have hz : ¬ n = 0 := by omega
  clear ht hr h1 h3 h4 hn
  go_enter Tryz.func56, Tryz.ntmps56
  go_wp2_with fail
  go_ret
  exact ⟨rfl, rfl⟩
def Sml (sg pr : List Bs) (msg : Bs) : Prop := sg.length ≤ 20 ∧ pr.length ≤ 20 ∧ msg.length ≤ 5000 ∧ (∀ x ∈ sg, x.length ≤ 5000) ∧ ∀ x ∈ pr, x.length ≤ 5000
def LgE (sg pr : List Bs) (msg : Bs) (e : Ending) : Prop := (e = .returned (.bool false) ∧ Sml sg pr msg) ∨ e = .returned (.bool true)
def sumL : List Bs → Nat
  | [] => 0
  | x :: l => x.length + sumL l
theorem sumL_take : ∀ {l : List Bs} {i : Nat} (hi : i < l.length), sumL (l.take (i + 1)) = sumL (l.take i) + l[i].length
  | x :: l, 0, _ => by simp [sumL]
  | x :: l, i + 1, hi => by
    have := sumL_take (l := l) (i := i) (by simpa using hi)
    simp [sumL, this]
    omega
theorem sumL_mem : ∀ {l : List Bs} {x : Bs}, x ∈ l → x.length ≤ sumL l
  | y :: l, x, h => by
    rcases List.mem_cons.1 h with rfl | h
    · simp [sumL]
    · have := sumL_mem h
      simp [sumL]
      omega
theorem sumL_few : ∀ {l : List Bs} {k : Nat}, (∀ x ∈ l, x.length ≤ 140737488355328) → l.length ≤ k → sumL l ≤ k * 140737488355328
  | [], k, _, _ => by simp [sumL]
  | x :: l, k, h, hk => by
    obtain ⟨k, rfl⟩ : ∃ j, k = j + 1 := ⟨k - 1, by simp at hk; omega⟩
    have h1 := sumL_few (l := l) (k := k) (fun y hy => h y (by simp [hy])) (by simpa using hk)
    have h2 := h x (by simp)
    simp [sumL]
    omega
set_option maxHeartbeats 8000000 in
theorem large_any (sg pr : List Bs) (msg : Bs) (sa pa : Option Addr) (sc pc : Nat) (w : World) (hs : Texts w (.slice sa sg.length sc) sg) (hp : Texts w (.slice pa pr.length pc) pr) (l1 : sg.length ≤ 140737488355328) (l2 : pr.length ≤ 140737488355328) (l3 : msg.length ≤ 140737488355328) (l4 : ∀ x ∈ sg, x.length ≤ 140737488355328) (l5 : ∀ x ∈ pr, x.length ≤ 140737488355328) :
    Calls Tryz.prog 19 #[.agg #[.slice sa sg.length sc, .slice pa pr.length pc], St msg] w fun e w' => LgE sg pr msg e ∧ Below w.heap.size w w' := by
  obtain ⟨_, _, hv, hc⟩ := hs
  cases hv
  obtain ⟨_, _, hv, hd⟩ := hp
  cases hv
  obtain ⟨n1, hn1⟩ : ∃ n, n = sg.length := ⟨_, rfl⟩
  obtain ⟨n2, hn2⟩ : ∃ n, n = pr.length := ⟨_, rfl⟩
  rw [← hn1] at l1 ⊢
  rw [← hn2] at l2 ⊢
  obtain ⟨wB, hwB⟩ : ∃ wB, wB = w.alloc (.cells #[.slice sa n1 sc, .slice pa n2 pc] 40) := ⟨_, rfl⟩
  have c0 : wB.cell? ⟨w.heap.size, 0, none⟩ = some (.slice sa n1 sc) := by rw [hwB]; exact (cell_of_heap (heap_alloc_new w _) 0).trans rfl
  have c1 : wB.cell? ⟨w.heap.size, 1, none⟩ = some (.slice pa n2 pc) := by rw [hwB]; exact (cell_of_heap (heap_alloc_new w _) 1).trans rfl
  have HB := hid (show Below w.heap.size w wB from hwB ▸ below_al w _)
  have HN1 := hid hn1
  have HN2 := hid hn2
  have L1 := hid l1
  have L2 := hid l2
  have L3 := hid l3
  have L4 := hid l4
  have L5 := hid l5
  have HC := hid hc
  have HD := hid hd
  clear hn1 hn2 l1 l2 l3 l4 l5 hc hd
  go_enter Tryz.func19, Tryz.ntmps19
  go_wp2_with fail
  rw [← hwB]
  clear hwB
  go_loopg [5, 6] n1 (fun gg v5 v6 wr => ∃ (i : Nat) (z : Int), gg = n1 - i ∧ i ≤ n1 ∧ v5 = .int .i64 z ∧ v6 = .int .i64 (i : Int) ∧ wr = wB ∧ (n1 ≤ 20 → z = ((msg.length + sumL (sg.take i) : Nat) : Int)))
  case atStart => exact ⟨0, (msg.length : Int), rfl, Nat.zero_le _, rfl, rfl, rfl, fun _ => by simp [sumL]⟩
  case round =>
    obtain ⟨i, z, rfl, hi, rfl, rfl, rfl, hz⟩ := hrel
    have HZ := hid hz
    clear hz
    by_cases him : i < n1
    · have hik : i < sg.length := by have := HN1.out; omega
      obtain ⟨g, o, hg, hgl, hcs⟩ := HC.out (fun e => by rw [e] at hik; simp at hik)
      subst hg
      obtain ⟨x, hx⟩ : ∃ x, x = sg[i] := ⟨_, rfl⟩
      have e0 : wr.cell? ⟨g, o + i, none⟩ = some (St x) := by rw [hx]; exact cell_later HB.out (hcs i hik)
      have hiw : IntKind.i64.wrap ((i : Int) + 1) = ((i + 1 : Nat) : Int) := by rw [IntKind.wrap_i64]; have := L1.out; omega
      have hi0 : (0 : Int) ≤ (i : Int) := Int.natCast_nonneg _
      have hi1 : (i : Int) < (n1 : Int) := by omega
      have HI := hid him
      have HX : Hid (n1 ≤ 20 → IntKind.i64.wrap (z + (x.length : Int)) = ((msg.length + sumL (sg.take (i + 1)) : Nat) : Int)) := hid (fun h20 => by
        have h1 := HZ.out h20
        have h2 := sumL_take hik
        rw [← hx] at h2
        have h3 : sumL (sg.take (i + 1)) ≤ 20 * 140737488355328 := sumL_few (fun y hy => L4.out y (List.mem_of_mem_take hy)) (by rw [List.length_take]; have := HN1.out; omega)
        have h4 := L3.out
        rw [h2] at h3 ⊢
        rw [h1, IntKind.wrap_i64]
        omega)
      clear him hi hik hx hcs hgl HZ
      generalize hzz : IntKind.i64.wrap (z + (x.length : Int)) = z2 at *
      go_wp2_with fail
      go_roundg (n1 - (i + 1))
      case measure => have := HI.out; omega
      case rel => exact ⟨i + 1, _, rfl, HI.out, rfl, rfl, rfl, HX.out⟩
    · have hie : i = n1 := by omega
      subst hie
      have hin : ¬ (i : Int) < (i : Int) := by omega
      have HS : Hid (i ≤ 20 → z = ((msg.length + sumL sg : Nat) : Int)) := hid (fun h20 => by have h1 := HZ.out h20; rw [HN1.out, List.take_length] at h1; exact h1)
      clear hi him HZ
      go_wp2_with fail
      go_loopg [5, 7] n2 (fun gg v5 v7 wr2 => ∃ (j : Nat) (y : Int), gg = n2 - j ∧ j ≤ n2 ∧ v5 = .int .i64 y ∧ v7 = .int .i64 (j : Int) ∧ wr2 = wr ∧ (i ≤ 20 → n2 ≤ 20 → y = ((msg.length + sumL sg + sumL (pr.take j) : Nat) : Int)))
      case atStart => exact ⟨0, z, rfl, Nat.zero_le _, rfl, rfl, rfl, fun h _ => by rw [HS.out h]; simp [sumL]⟩
      case round =>
        obtain ⟨j, y, rfl, hj, rfl, rfl, hwe, hy⟩ := hrel
        have HY := hid hy
        clear hy
        subst hwe
        by_cases hjm : j < n2
        · have hjk : j < pr.length := by have := HN2.out; omega
          obtain ⟨g, o, hg, hgl, hcs⟩ := HD.out (fun e => by rw [e] at hjk; simp at hjk)
          subst hg
          obtain ⟨x, hx⟩ : ∃ x, x = pr[j] := ⟨_, rfl⟩
          have e0 : wr.cell? ⟨g, o + j, none⟩ = some (St x) := by rw [hx]; exact cell_later HB.out (hcs j hjk)
          have hiw : IntKind.i64.wrap ((j : Int) + 1) = ((j + 1 : Nat) : Int) := by rw [IntKind.wrap_i64]; have := L2.out; omega
          have hi0 : (0 : Int) ≤ (j : Int) := Int.natCast_nonneg _
          have hi1 : (j : Int) < (n2 : Int) := by omega
          have HJ := hid hjm
          have HX : Hid (i ≤ 20 → n2 ≤ 20 → IntKind.i64.wrap (y + (x.length : Int)) = ((msg.length + sumL sg + sumL (pr.take (j + 1)) : Nat) : Int)) := hid (fun h20 h21 => by
            have h1 := HY.out h20 h21
            have h2 := sumL_take hjk
            rw [← hx] at h2
            have h3 : sumL (pr.take (j + 1)) ≤ 20 * 140737488355328 := sumL_few (fun y hy => L5.out y (List.mem_of_mem_take hy)) (by rw [List.length_take]; have := HN2.out; omega)
            have h5 : sumL sg ≤ 20 * 140737488355328 := sumL_few L4.out (by have := HN1.out; omega)
            have h4 := L3.out
            rw [h2] at h3 ⊢
            rw [h1, IntKind.wrap_i64]
            omega)
          clear hjm hj hjk hx hcs hgl HY
          generalize hzz : IntKind.i64.wrap (y + (x.length : Int)) = y2 at *
          go_wp2_with fail
          go_roundg (n2 - (j + 1))
          case measure => have := HJ.out; omega
          case rel => exact ⟨j + 1, _, rfl, HJ.out, rfl, rfl, rfl, HX.out⟩
        · have hje : j = n2 := by omega
          subst hje
          have hjn : ¬ (j : Int) < (j : Int) := by omega
          have HE : Hid (i ≤ 20 → j ≤ 20 → y = ((msg.length + sumL sg + sumL pr : Nat) : Int)) := hid (fun h20 h21 => by have h1 := HY.out h20 h21; rw [HN2.out, List.take_length] at h1; exact h1)
          clear hj hjm HY HS
          by_cases b1 : i ≤ 20
          · have d1 : ¬ (20 : Int) < (i : Int) := by omega
            by_cases b2 : j ≤ 20
            · have d2 : ¬ (20 : Int) < (j : Int) := by omega
              have HF : Hid (decide ((5000 : Int) < y) = false → Sml sg pr msg) := hid (fun hf => by
                have h1 := HE.out b1 b2
                have h2 := of_decide_eq_false hf
                refine ⟨by have := HN1.out; omega, by have := HN2.out; omega, by omega, fun x hx => ?_, fun x hx => ?_⟩
                · have := sumL_mem hx; omega
                · have := sumL_mem hx; omega)
              clear b1 b2 HE
              go_wp2_with fail
              go_ret
              refine ⟨?_, HB.out⟩
              cases hc5 : decide ((5000 : Int) < y) with
              | false => exact .inl ⟨rfl, HF.out hc5⟩
              | true => exact .inr rfl
            · have d2 : (20 : Int) < (j : Int) := by omega
              clear b1 b2 HE
              go_wp2_with fail
              go_ret
              exact ⟨.inr rfl, HB.out⟩
          · have d1 : (20 : Int) < (i : Int) := by omega
            clear b1 HE
            go_wp2_with fail
            go_ret
            exact ⟨.inr rfl, HB.out⟩
end Go.Proofs.YtdllpklecdmghaaGreatDoor
