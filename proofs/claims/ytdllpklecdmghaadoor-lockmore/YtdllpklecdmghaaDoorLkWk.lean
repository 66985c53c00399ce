/- works: the chapter's lock, put together, written, read, opened. -/
import Derived.Test.YtdllpklecdmghaaDoorLkYAll
import Derived.Test.YtdllpklecdmghaaDoorLkNm
import Derived.Test.YtdllpklecdmghaaDoorLkHAll
namespace Go.Proofs.YtdllpklecdmghaaDoor
open Go.RowKit
open Lk (Lt Sp)

/-- two locks that lie one behind the other -/
theorem kd_two {b : Nat → Prop} {W : World} {g d : Nat} {x y : Lt} {xv yv : Value} (h : W.heap[g]? = some (.cells #[.int .u8 (x.kind : Int), St x.term, .int .i64 x.n, xv, .int .u8 (y.kind : Int), St y.term, .int .i64 y.n, yv] 26 (0, 0))) (hb : b g) (hx : Lr x) (hy : Lr y) (kx : Kd b W d xv x.kids) (ky : Kd b W d yv y.kids) : Kd b W (d + 1) (.slice (some ⟨g, 0, none⟩) 2 2) [x, y] := by
  refine ⟨by simp, some ⟨g, 0, none⟩, 2, rfl, fun _ => ⟨g, 0, rfl, hb, fun i hi => ?_⟩⟩
  match i, hi with
  | 0, _ =>
    refine ⟨xv, fun j u hu => ?_, hx, kx⟩
    have hj : j < 4 := (Array.getElem?_eq_some_iff.1 hu).1
    rw [cell_of_heap h]
    match j, hj with
    | 0, _ => exact hu
    | 1, _ => exact hu
    | 2, _ => exact hu
    | 3, _ => exact hu
  | 1, _ =>
    refine ⟨yv, fun j u hu => ?_, hy, ky⟩
    have hj : j < 4 := (Array.getElem?_eq_some_iff.1 hu).1
    rw [cell_of_heap h]
    match j, hj with
    | 0, _ => exact hu
    | 1, _ => exact hu
    | 2, _ => exact hu
    | 3, _ => exact hu
theorem lr_small (k : Nat) (t : Bs) (n : Int) (ks : List Lt) (h1 : k < 256) (h2 : t.length ≤ 1000) (h3 : -1000000 ≤ n ∧ n ≤ 1000000) : Lr (.mk k t n ks) := ⟨h1, by show t.length ≤ _; omega, by show _ ≤ n ∧ n < _; omega⟩
/-- the world in which the chapter's lock is asked -/
theorem wk_world (w8 Wf : World) (x0 x1 x2 x3 y0 s0 s1 t0 u0 u1 : Value) (hW : Wf = ((((w8.alloc (.cells #[x0, x1, x2, x3] 26)).alloc (.cells #[y0] 22)).alloc (.cells #[s0, s1] 43)).alloc (.cells #[t0] 22)).alloc (.cells #[u0, u1] 43)) :
    Wf.heap[w8.heap.size]? = some (.cells #[x0, x1, x2, x3] 26 (0, 0)) ∧ Wf.heap[w8.heap.size + 1]? = some (.cells #[y0] 22 (0, 0)) ∧ Wf.heap[w8.heap.size + 1 + 1]? = some (.cells #[s0, s1] 43 (0, 0)) ∧ Wf.heap[w8.heap.size + 1 + 1 + 1]? = some (.cells #[t0] 22 (0, 0)) ∧ Wf.heap[w8.heap.size + 1 + 1 + 1 + 1]? = some (.cells #[u0, u1] 43 (0, 0)) ∧ Below w8.heap.size w8 Wf := by
  have e1 : (w8.alloc (.cells #[x0, x1, x2, x3] 26)).heap.size = w8.heap.size + 1 := by simp
  have h1 := heap_alloc_new w8 (.cells #[x0, x1, x2, x3] 26)
  have b1 := below_al w8 (.cells #[x0, x1, x2, x3] 26)
  generalize w8.alloc (.cells #[x0, x1, x2, x3] 26) = w1 at *
  have e2 : (w1.alloc (.cells #[y0] 22)).heap.size = w1.heap.size + 1 := by simp
  have h2 := heap_alloc_new w1 (.cells #[y0] 22)
  have b2 := below_al w1 (.cells #[y0] 22)
  generalize w1.alloc (.cells #[y0] 22) = w2 at *
  have e3 : (w2.alloc (.cells #[s0, s1] 43)).heap.size = w2.heap.size + 1 := by simp
  have h3 := heap_alloc_new w2 (.cells #[s0, s1] 43)
  have b3 := below_al w2 (.cells #[s0, s1] 43)
  generalize w2.alloc (.cells #[s0, s1] 43) = w3 at *
  have e4 : (w3.alloc (.cells #[t0] 22)).heap.size = w3.heap.size + 1 := by simp
  have h4 := heap_alloc_new w3 (.cells #[t0] 22)
  have b4 := below_al w3 (.cells #[t0] 22)
  generalize w3.alloc (.cells #[t0] 22) = w4 at *
  have h5 := heap_alloc_new w4 (.cells #[u0, u1] 43)
  have b5 := below_al w4 (.cells #[u0, u1] 43)
  rw [← hW] at h5 b5
  refine ⟨?_, ?_, ?_, ?_, ?_, b1.trans ((b2.mono (by omega)).trans ((b3.mono (by omega)).trans ((b4.mono (by omega)).trans (b5.mono (by omega)))))⟩
  · rw [b5.block _ (by omega), b4.block _ (by omega), b3.block _ (by omega), b2.block _ (by omega)]; exact h1
  · rw [b5.block _ (by omega), b4.block _ (by omega), b3.block _ (by omega), show w8.heap.size + 1 = w1.heap.size by omega]; exact h2
  · rw [b5.block _ (by omega), b4.block _ (by omega), show w8.heap.size + 1 + 1 = w2.heap.size by omega]; exact h3
  · rw [b5.block _ (by omega), show w8.heap.size + 1 + 1 + 1 = w3.heap.size by omega]; exact h4
  · rw [show w8.heap.size + 1 + 1 + 1 + 1 = w4.heap.size by omega]; exact h5
theorem texts_row1 {W : World} {g : Nat} {t : Bs} (h : W.heap[g]? = some (.cells #[St t] 22 (0, 0))) : Texts W (.slice (some ⟨g, 0, none⟩) 1 1) [t] :=
  ⟨_, _, rfl, fun _ => ⟨g, 0, rfl, lt_of_heap h, fun i hi => by
    match i, hi with
    | 0, _ => exact (cell_of_heap h 0).trans rfl⟩⟩
set_option maxRecDepth 100000 in
set_option maxHeartbeats 8000000 in
theorem works_any (w : World) (hp : Pw w) : Calls Tryd.prog 21 #[] w fun e w' => e = .returned (.bool true) ∧ Below w.heap.size w w' := by
  have H1 : Hid (∀ W, Calls Tryd.prog 11 #[St [80, 110, 49, 59]] W fun e w' => e = .returned (.agg #[.int .u8 1, St [80, 110, 49, 59], .int .i64 0, .slice none 0 0]) ∧ Below W.heap.size W w') := hid (fun W => mk_sig _ W (by decide))
  have H2 : Hid (∀ W, Calls Tryd.prog 13 #[St [72, 110, 50, 59]] W fun e w' => e = .returned (.agg #[.int .u8 2, St [72, 110, 50, 59], .int .i64 0, .slice none 0 0]) ∧ Below W.heap.size W w') := hid (fun W => mk_pre _ W (by decide))
  have H3 : Hid (∀ W, Calls Tryd.prog 17 #[.int .i64 6] W fun e w' => e = .returned (.agg #[.int .u8 4, St [], .int .i64 6, .slice none 0 0]) ∧ Below W.heap.size W w') := hid (fun W => mk_older 6 W)
  have H4 : Hid (∀ W, Calls Tryd.prog 8 #[.slice (some ⟨W.heap.size, 0, none⟩) 2 2] (W.alloc (.cells #[.int .u8 2, St [72, 110, 50, 59], .int .i64 0, .slice none 0 0, .int .u8 4, St [], .int .i64 6, .slice none 0 0] 26)) fun e w' => ∃ a c, e = .returned (.agg #[.int .u8 5, St [], .int .i64 0, .slice a 2 c]) ∧ Kd (fun _ => True) w' 1 (.slice a 2 c) chB.kids ∧ Below W.heap.size W w') := hid (fun W => (mk_all (b := fun _ => True) 1 _ [.mk 2 [72, 110, 50, 59] 0 [], .mk 4 [] 6 []] _ (kd_two (heap_alloc_new W _) trivial (lr_small _ _ _ _ (by decide) (by decide) (by decide)) (lr_small _ _ _ _ (by decide) (by decide) (by decide)) (Kd.nil _ _ _) (Kd.nil _ _ _)) ch_smalls.2 (by decide)).mono (fun e w' ⟨v', h1, h2, h3⟩ => by
    obtain ⟨_, a, c, rfl⟩ := h2.shape
    exact ⟨a, c, h1, h2.base (fun _ _ => trivial), (below_al W _).trans (h3.mono (below_al W _).size)⟩))
  have H5 : Hid (∀ W a c, Kd (fun _ => True) W 1 (.slice a 2 c) chB.kids → Calls Tryd.prog 9 #[.slice (some ⟨W.heap.size, 0, none⟩) 2 2] (W.alloc (.cells #[.int .u8 1, St [80, 110, 49, 59], .int .i64 0, .slice none 0 0, .int .u8 5, St [], .int .i64 0, .slice a 2 c] 26)) fun e w' => ∃ a c, e = .returned (.agg #[.int .u8 6, St [], .int .i64 0, .slice a 2 c]) ∧ Kd (fun _ => True) w' 2 (.slice a 2 c) chL.kids ∧ Below W.heap.size W w') := hid (fun W a c hk => (mk_any (b := fun _ => True) 2 _ [.mk 1 [80, 110, 49, 59] 0 [], chB] _ (kd_two (y := chB) (heap_alloc_new W _) trivial (lr_small _ _ _ _ (by decide) (by decide) (by decide)) (lr_small _ _ _ _ (by decide) (by decide) (by decide)) (Kd.nil _ _ _) (hk.low (below_al W _))) ch_smalls.1 (by decide)).mono (fun e w' ⟨v', h1, h2, h3⟩ => by
    obtain ⟨_, a, c, rfl⟩ := h2.shape
    exact ⟨a, c, h1, h2.base (fun _ _ => trivial), (below_al W _).trans (h3.mono (below_al W _).size)⟩))
  have HB0 := hid (Below.refl w.heap.size w)
  have HP := hid hp
  clear hp
  go_enter Tryd.func21, Tryd.ntmps21
  go_wp2_with fail
  refine (H1.out _).mono ?_
  rintro e w1 ⟨rfl, hb⟩
  have HB1 := hid (HB0.out.trans hb)
  clear hb HB0
  go_wp2_with fail
  refine (H2.out _).mono ?_
  rintro e w2 ⟨rfl, hb⟩
  have HB2 := hid (HB1.out.trans (hb.mono HB1.out.size))
  clear hb HB1
  go_wp2_with fail
  refine (H3.out _).mono ?_
  rintro e w3 ⟨rfl, hb⟩
  have HB3 := hid (HB2.out.trans (hb.mono HB2.out.size))
  clear hb HB2
  go_wp2_with fail
  refine (H4.out _).mono ?_
  rintro e w4 ⟨a4, c4, rfl, hk, hb⟩
  have HB4 := hid (HB3.out.trans (hb.mono HB3.out.size))
  have HK4 := hid hk
  clear hb hk HB3
  go_wp2_with fail
  refine (H5.out _ _ _ HK4.out).mono ?_
  rintro e w5 ⟨a5, c5, rfl, hk, hb⟩
  have HB5 := hid (HB4.out.trans (hb.mono HB4.out.size))
  have HK5 := hid hk
  clear hb hk HB4 HK4 H1 H2 H3 H4 H5
  go_wp2_with fail
  have hA := below_al w5 (.cells #[.int .u8 6, .string ⟨#[]⟩, .int .i64 0, .slice a5 2 c5] 26)
  have hAh := heap_alloc_new w5 (.cells #[.int .u8 6, .string ⟨#[]⟩, .int .i64 0, .slice a5 2 c5] 26)
  obtain ⟨A, hAe⟩ : ∃ A, A = w5.alloc (.cells #[.int .u8 6, .string ⟨#[]⟩, .int .i64 0, .slice a5 2 c5] 26) := ⟨_, rfl⟩
  rw [← hAe] at hA hAh
  have HBA := hid (HB5.out.trans (hA.mono HB5.out.size))
  have HKA := hid (HK5.out.low hA)
  have HAH := hid hAh
  have H6 : Hid (Calls Tryd.prog 22 #[.agg #[.int .u8 6, .string ⟨#[]⟩, .int .i64 0, .slice a5 2 c5]] A fun e w' => e = .returned (.tuple #[.string ⟨#[124, 50, 58, 115, 80, 110, 49, 59, 38, 50, 58, 112, 72, 110, 50, 59, 111, 54, 59]⟩, .int .i64 0]) ∧ Below A.heap.size A w') := hid (by
    have h := write_any 2 chL (.slice a5 2 c5) A HKA.out (HP.out.below HBA.out)
    rw [ch_wres] at h
    exact h)
  rw [← hAe]
  clear hA hAh HK5 HB5 hAe
  refine H6.out.mono ?_
  rintro e w7 ⟨rfl, hb⟩
  have HB7 := hid (HBA.out.trans (hb.mono HBA.out.size))
  have HK7 := hid (HKA.out.low hb)
  have HH7 := hid ((hb.block _ (lt_of_heap HAH.out)).trans HAH.out)
  clear hb H6 HBA HKA HAH
  go_wp2_with fail
  have H7 : Hid (Calls Tryd.prog 23 #[.string ⟨#[124, 50, 58, 115, 80, 110, 49, 59, 38, 50, 58, 112, 72, 110, 50, 59, 111, 54, 59]⟩] w7 fun e w' => ∃ a c, e = .returned (.tuple #[.agg #[.int .u8 6, .string ⟨#[]⟩, .int .i64 0, .slice a 2 c], .int .i64 0]) ∧ Kd (fun g => w7.heap.size ≤ g) w' 65 (.slice a 2 c) chL.kids ∧ Below w7.heap.size w7 w') := hid (by
    have h := read_all chT w7 (by decide)
    unfold rdL rdE at h
    rw [ch_rd] at h
    refine h.mono (fun e w' ⟨⟨kv, h1, h2⟩, h3⟩ => ?_)
    obtain ⟨_, a, c, rfl⟩ := h2.shape
    exact ⟨a, c, h1, h2, h3⟩)
  refine H7.out.mono ?_
  rintro e w8 ⟨a8, c8, rfl, hk8, hb⟩
  have HB8 := hid (HB7.out.trans (hb.mono HB7.out.size))
  have HK8 := hid (HK7.out.low hb)
  have HM8 := hid hk8
  have HH8 := hid ((hb.block _ (lt_of_heap HH7.out)).trans HH7.out)
  clear hb hk8 H7 HB7 HK7 HH7
  have HL8 := hid HH8.out
  obtain ⟨Wf, hWf⟩ : ∃ Wf, Wf = ((((w8.alloc (.cells #[.int .u8 6, .string ⟨#[]⟩, .int .i64 0, .slice a8 2 c8] 26)).alloc (.cells #[.string ⟨#[83, 110, 49, 59, 116, 49, 58, 120]⟩] 22)).alloc (.cells #[.slice (some ⟨w8.heap.size + 1, 0, none⟩) 1 1, .slice none 0 0] 43)).alloc (.cells #[.string ⟨#[110, 50, 59]⟩] 22)).alloc (.cells #[.slice none 0 0, .slice (some ⟨w8.heap.size + 1 + 1 + 1, 0, none⟩) 1 1] 43) := ⟨_, rfl⟩
  obtain ⟨f1, f2, f3, f4, f5, hbf⟩ := wk_world w8 Wf _ _ _ _ _ _ _ _ _ _ hWf
  have HBF := hid (HB8.out.trans (hbf.mono HB8.out.size))
  have HKF := hid (HK8.out.low hbf)
  have HMF := hid (HM8.out.low hbf)
  have HHF := hid ((hbf.block _ (lt_of_heap HH8.out)).trans HH8.out)
  have HCF : Hid (∀ W, Below Wf.heap.size Wf W → (W.cell? ⟨w5.heap.size, 0, none⟩ = some (.int .u8 6) ∧ W.cell? ⟨w5.heap.size, 1, none⟩ = some (.string ⟨#[]⟩) ∧ W.cell? ⟨w5.heap.size, 2, none⟩ = some (.int .i64 0) ∧ W.cell? ⟨w5.heap.size, 3, none⟩ = some (.slice a5 2 c5)) ∧ (W.cell? ⟨w8.heap.size, 0, none⟩ = some (.int .u8 6) ∧ W.cell? ⟨w8.heap.size, 1, none⟩ = some (.string ⟨#[]⟩) ∧ W.cell? ⟨w8.heap.size, 2, none⟩ = some (.int .i64 0) ∧ W.cell? ⟨w8.heap.size, 3, none⟩ = some (.slice a8 2 c8)) ∧ (W.cell? ⟨w8.heap.size + 1 + 1, 0, none⟩ = some (.slice (some ⟨w8.heap.size + 1, 0, none⟩) 1 1) ∧ W.cell? ⟨w8.heap.size + 1 + 1, 1, none⟩ = some (.slice none 0 0)) ∧ W.cell? ⟨w8.heap.size + 1 + 1 + 1 + 1, 0, none⟩ = some (.slice none 0 0) ∧ W.cell? ⟨w8.heap.size + 1 + 1 + 1 + 1, 1, none⟩ = some (.slice (some ⟨w8.heap.size + 1 + 1 + 1, 0, none⟩) 1 1)) := hid (fun W hW => by
    have k1 := (hW.block _ (lt_of_heap HHF.out)).trans HHF.out
    have k2 := (hW.block _ (lt_of_heap f1)).trans f1
    have k3 := (hW.block _ (lt_of_heap f3)).trans f3
    have k4 := (hW.block _ (lt_of_heap f5)).trans f5
    exact ⟨⟨(cell_of_heap k1 0).trans rfl, (cell_of_heap k1 1).trans rfl, (cell_of_heap k1 2).trans rfl, (cell_of_heap k1 3).trans rfl⟩, ⟨(cell_of_heap k2 0).trans rfl, (cell_of_heap k2 1).trans rfl, (cell_of_heap k2 2).trans rfl, (cell_of_heap k2 3).trans rfl⟩, ⟨(cell_of_heap k3 0).trans rfl, (cell_of_heap k3 1).trans rfl⟩, (cell_of_heap k4 0).trans rfl, (cell_of_heap k4 1).trans rfl⟩)
  have HO1 : Hid (∀ W, Below Wf.heap.size Wf W → Calls Tryd.prog 27 #[.agg #[.int .u8 6, .string ⟨#[]⟩, .int .i64 0, .slice a5 2 c5], .agg #[.slice (some ⟨w8.heap.size + 1, 0, none⟩) 1 1, .slice none 0 0], .string ⟨#[116, 49, 58, 120]⟩, .int .i64 0, .int .i64 0] W fun e w' => e = .returned (.bool true) ∧ Below Wf.heap.size Wf w') := hid (fun W hW => by
    have h := lopens_any 2 chL (.slice a5 2 c5) sp1 (.slice (some ⟨w8.heap.size + 1, 0, none⟩) 1 1) (.slice none 0 0) W (HKF.out.low hW) ((⟨texts_row1 f2, texts_nil Wf, by decide, by decide⟩ : Sw Wf sp1 (.slice (some ⟨w8.heap.size + 1, 0, none⟩) 1 1) (.slice none 0 0)).low hW)
    rw [ch_o1] at h
    exact h.mono (fun e w' ⟨h1, h2⟩ => ⟨h1, hW.trans (h2.mono hW.size)⟩))
  have HO2 : Hid (∀ W, Below Wf.heap.size Wf W → Calls Tryd.prog 27 #[.agg #[.int .u8 6, .string ⟨#[]⟩, .int .i64 0, .slice a5 2 c5], .agg #[.slice (some ⟨w8.heap.size + 1, 0, none⟩) 1 1, .slice none 0 0], .string ⟨#[116, 49, 58, 121]⟩, .int .i64 0, .int .i64 0] W fun e w' => e = .returned (.bool false) ∧ Below Wf.heap.size Wf w') := hid (fun W hW => by
    have h := lopens_any 2 chL (.slice a5 2 c5) sp2 (.slice (some ⟨w8.heap.size + 1, 0, none⟩) 1 1) (.slice none 0 0) W (HKF.out.low hW) ((⟨texts_row1 f2, texts_nil Wf, by decide, by decide⟩ : Sw Wf sp2 (.slice (some ⟨w8.heap.size + 1, 0, none⟩) 1 1) (.slice none 0 0)).low hW)
    rw [ch_o2] at h
    exact h.mono (fun e w' ⟨h1, h2⟩ => ⟨h1, hW.trans (h2.mono hW.size)⟩))
  have HO3 : Hid (∀ W, Below Wf.heap.size Wf W → Calls Tryd.prog 27 #[.agg #[.int .u8 6, .string ⟨#[]⟩, .int .i64 0, .slice a5 2 c5], .agg #[.slice none 0 0, .slice (some ⟨w8.heap.size + 1 + 1 + 1, 0, none⟩) 1 1], .string ⟨#[116, 49, 58, 120]⟩, .int .i64 0, .int .i64 6] W fun e w' => e = .returned (.bool true) ∧ Below Wf.heap.size Wf w') := hid (fun W hW => by
    have h := lopens_any 2 chL (.slice a5 2 c5) sp3 (.slice none 0 0) (.slice (some ⟨w8.heap.size + 1 + 1 + 1, 0, none⟩) 1 1) W (HKF.out.low hW) ((⟨texts_nil Wf, texts_row1 f4, by decide, by decide⟩ : Sw Wf sp3 (.slice none 0 0) (.slice (some ⟨w8.heap.size + 1 + 1 + 1, 0, none⟩) 1 1)).low hW)
    rw [ch_o3] at h
    exact h.mono (fun e w' ⟨h1, h2⟩ => ⟨h1, hW.trans (h2.mono hW.size)⟩))
  have HO4 : Hid (∀ W, Below Wf.heap.size Wf W → Calls Tryd.prog 27 #[.agg #[.int .u8 6, .string ⟨#[]⟩, .int .i64 0, .slice a5 2 c5], .agg #[.slice none 0 0, .slice (some ⟨w8.heap.size + 1 + 1 + 1, 0, none⟩) 1 1], .string ⟨#[116, 49, 58, 120]⟩, .int .i64 0, .int .i64 5] W fun e w' => e = .returned (.bool false) ∧ Below Wf.heap.size Wf w') := hid (fun W hW => by
    have h := lopens_any 2 chL (.slice a5 2 c5) sp4 (.slice none 0 0) (.slice (some ⟨w8.heap.size + 1 + 1 + 1, 0, none⟩) 1 1) W (HKF.out.low hW) ((⟨texts_nil Wf, texts_row1 f4, by decide, by decide⟩ : Sw Wf sp4 (.slice none 0 0) (.slice (some ⟨w8.heap.size + 1 + 1 + 1, 0, none⟩) 1 1)).low hW)
    rw [ch_o4] at h
    exact h.mono (fun e w' ⟨h1, h2⟩ => ⟨h1, hW.trans (h2.mono hW.size)⟩))
  have HSM : Hid (∀ W, Below Wf.heap.size Wf W → Calls Tryd.prog 10 #[.agg #[.int .u8 6, .string ⟨#[]⟩, .int .i64 0, .slice a5 2 c5], .agg #[.int .u8 6, .string ⟨#[]⟩, .int .i64 0, .slice a8 2 c8]] W fun e w' => e = .returned (.bool true) ∧ Below Wf.heap.size Wf w') := hid (fun W hW => by
    have h := slock_any 2 chL chL (.slice a5 2 c5) (.slice a8 2 c8) 65 W (HKF.out.low hW) (HMF.out.low hW)
    rw [ch_same] at h
    exact h.mono (fun e w' ⟨h1, h2⟩ => ⟨h1, hW.trans (h2.mono hW.size)⟩))
  have HKY : Hid (∀ W, Below Wf.heap.size Wf W → Calls Tryd.prog 30 #[.agg #[.int .u8 6, .string ⟨#[]⟩, .int .i64 0, .slice a5 2 c5]] W fun e w' => ∃ a c, e = .returned (.slice a 1 c) ∧ Below Wf.heap.size Wf w') := hid (fun W hW => by
    refine (keys_any 2 chL (.slice a5 2 c5) W (HKF.out.low hW)).mono (fun e w' ⟨v, h1, h2, h3⟩ => ?_)
    rw [ch_keys] at h2
    obtain ⟨a, c, rfl⟩ := row_shape h2
    exact ⟨a, c, h1, hW.trans (h3.mono hW.size)⟩)
  obtain ⟨⟨q0, q1, q2, q3⟩, ⟨r0, r1, r2, r3⟩, ⟨s0, s1⟩, t0, t1⟩ := HCF.out Wf (Below.refl _ _)
  clear f1 f2 f3 f4 f5 hbf HK8 HM8 HH8 HB8 HKF HMF HHF HL8 HP
  rw [hWf] at q0 q1 q2 q3 r0 r1 r2 r3
  clear s0 s1 t0 t1
  go_wp2_with fail
  rw [← hWf]
  clear q0 q1 q2 q3 r0 r1 r2 r3 hWf
  refine (HSM.out _ (Below.refl _ _)).mono ?_
  rintro e w9 ⟨rfl, hb⟩
  have HB9 := hid hb
  obtain ⟨⟨q0, q1, q2, q3⟩, ⟨r0, r1, r2, r3⟩, ⟨s0, s1⟩, t0, t1⟩ := HCF.out w9 hb
  clear hb
  go_wp2_with fail
  clear q0 q1 q2 q3 r0 r1 r2 r3 s0 s1 t0 t1
  refine (HO1.out _ HB9.out).mono ?_
  rintro e w10 ⟨rfl, hb⟩
  have HB10 := hid hb
  obtain ⟨⟨q0, q1, q2, q3⟩, ⟨r0, r1, r2, r3⟩, ⟨s0, s1⟩, t0, t1⟩ := HCF.out w10 hb
  clear hb
  go_wp2_with fail
  clear q0 q1 q2 q3 r0 r1 r2 r3 s0 s1 t0 t1
  refine (HO2.out _ HB10.out).mono ?_
  rintro e w11 ⟨rfl, hb⟩
  have HB11 := hid hb
  obtain ⟨⟨q0, q1, q2, q3⟩, ⟨r0, r1, r2, r3⟩, ⟨s0, s1⟩, t0, t1⟩ := HCF.out w11 hb
  clear hb
  go_wp2_with fail
  clear q0 q1 q2 q3 r0 r1 r2 r3 s0 s1 t0 t1
  refine (HO3.out _ HB11.out).mono ?_
  rintro e w12 ⟨rfl, hb⟩
  have HB12 := hid hb
  obtain ⟨⟨q0, q1, q2, q3⟩, ⟨r0, r1, r2, r3⟩, ⟨s0, s1⟩, t0, t1⟩ := HCF.out w12 hb
  clear hb
  go_wp2_with fail
  clear q0 q1 q2 q3 r0 r1 r2 r3 s0 s1 t0 t1
  refine (HO4.out _ HB12.out).mono ?_
  rintro e w13 ⟨rfl, hb⟩
  have HB13 := hid hb
  obtain ⟨⟨q0, q1, q2, q3⟩, ⟨r0, r1, r2, r3⟩, ⟨s0, s1⟩, t0, t1⟩ := HCF.out w13 hb
  clear hb
  go_wp2_with fail
  clear q0 q1 q2 q3 r0 r1 r2 r3 s0 s1 t0 t1
  refine (HKY.out _ HB13.out).mono ?_
  rintro e w14 ⟨ay, cy, rfl, hb⟩
  have HB14 := hid (HBF.out.trans (hb.mono HBF.out.size))
  clear hb
  go_wp2_with fail
  go_ret
  exact ⟨rfl, HB14.out⟩
end Go.Proofs.YtdllpklecdmghaaDoor
