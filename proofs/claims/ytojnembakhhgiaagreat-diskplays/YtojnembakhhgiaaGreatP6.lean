/- One call of a row, on a disk and on the document's: Len, Fail, On. -/
import Derived.Test.YtojnembakhhgiaaGreatPbAll
namespace Go.Proofs.YtojnembakhhgiaaGreat
open Go.RowKit

set_option maxRecDepth 100000 in
set_option maxHeartbeats 8000000 in
theorem plays6 {J K : Nat → Prop} {w : World} {d q : Nat} {s t : Ds} (h : Pr J K w d q s t) (hs : Sm 1 s) (ht : Sm 1 t) (x : Ox) (hx : Oxr x) (hk : x.kind % 11 = 6) : Calls Tryz.prog 10 #[.pointer (some ⟨d, 0, none⟩), .pointer (some ⟨q, 0, none⟩), .agg (xcs x)] w (PlE J K w d q s t s t) := by
  obtain ⟨kd, nm, to, pg, lg, fl, kp⟩ := x
  obtain ⟨hkd, hnm, hto, hpg, hlg, hkp⟩ := hx
  simp only at hk hkd hnm hto hpg hlg hkp ⊢
  unfold xcs
  obtain ⟨w0, hw0⟩ : ∃ w0, w0 = w.alloc (.cells #[.int .u8 (kd : Int), St nm, St to, .int .i64 pg, .int .u16 (lg : Int), .int .u8 (fl.toNat : Int), .int .u64 (kp : Int)] 31) := ⟨_, rfl⟩
  obtain ⟨bx, hbx⟩ : ∃ bx, bx = w.heap.size := ⟨_, rfl⟩
  have hB0 : Below w.heap.size w w0 := hw0 ▸ (Below.refl _ _).alloc (Nat.le_refl _) _
  have hb0 : w0.heap[bx]? = some (.cells #[.int .u8 (kd : Int), St nm, St to, .int .i64 pg, .int .u16 (lg : Int), .int .u8 (fl.toNat : Int), .int .u64 (kp : Int)] 31 (0, 0)) := by rw [hw0, hbx]; exact heap_alloc_new w _
  have h0 := h.grow hB0
  obtain ⟨K0, hK0⟩ : ∃ K0 : Nat → Prop, K0 = fun g => K g ∨ (w.heap.size ≤ g ∧ g < w0.heap.size) := ⟨_, rfl⟩
  rw [← hK0] at h0
  have hKx : K0 bx := by rw [hK0]; exact .inr ⟨by omega, lt_of_block hb0⟩
  have HFR : Hid (∀ W s' t', Pr J K0 W d q s' t' → Kj J K0 w0 W → Pr J K W d q s' t' ∧ Kj J K w W) := hid (fun W s' t' h1 h2 => ⟨h1.less (fun g hg => by rw [hK0]; exact .inl hg), (below_kj hB0 (fun g hg => h.lt hg) (fun g hg => h.jt hg)).trans (h2.less (fun g hg => by rw [hK0]; exact .inl hg))⟩)
  have HBX : Hid (∀ W, Kj J K0 w0 W → W.heap[bx]? = some (.cells #[.int .u8 (kd : Int), St nm, St to, .int .i64 pg, .int .u16 (lg : Int), .int .u8 (fl.toNat : Int), .int .u64 (kp : Int)] 31 (0, 0))) := hid (fun W h2 => (h2.blk bx hKx).trans hb0)
  have hrem : (kd : Int) % 11 = 6 := by omega
  have HS := hid hs
  have HT := hid ht
  have H0 := hid h0
  obtain ⟨fl, hfl⟩ : ∃ f : Int, f = (fl.toNat : Int) := ⟨_, rfl⟩
  rw [← hfl] at hb0 hw0 HBX ⊢
  have HB0 := hid hb0
  have HD := hid (pd_len h0 nm hnm)
  have HM := hid (pm_len h0 nm)
  have H1 : Hid (∀ w', Below w0.heap.size w0 w' → Pr J K0 w' d q s t ∧ Kj J K0 w0 w') := hid (fun w' hb => ⟨h0.low hb, below_kj hb (fun g hg => h0.lt hg) (fun g hg => h0.jt hg)⟩)
  have HE : Hid (s = t → ∀ b, b = ((((lenD s nm).1 : Int) == ((lenD t nm).1 : Int)) && (((lenD s nm).2 : Int) == ((lenD t nm).2 : Int))) → b = true) := hid (fun e b hb => by rw [hb, e]; simp)
  generalize ((lenD s nm).1 : Int) = a1 at *
  generalize ((lenD s nm).2 : Int) = a2 at *
  generalize ((lenD t nm).1 : Int) = b1 at *
  generalize ((lenD t nm).2 : Int) = b2 at *
  clear h h0 hs ht hB0 hb0 hK0 hfl hKx hnm hto hpg hlg hkp hk
  go_enter Tryz.func10, Tryz.ntmps10
  go_wp2_with fail
  rw [← hw0]
  refine HD.out.mono ?_
  rintro e w1 ⟨rfl, hw⟩
  subst hw
  have c1 : w1.cell? ⟨w.heap.size, 1, none⟩ = some (St nm) := by rw [← hbx]; exact (cell_of_heap HB0.out 1).trans rfl
  clear hw0
  go_wp2_with fail
  refine HM.out.mono ?_
  rintro e w2 ⟨rfl, hb2⟩
  have HB2 := hid hb2
  clear hb2 c1
  by_cases h12 : a1 = b1
  · have h12' : (a1 == b1) = true := by simpa using h12
    go_wp2_with fail
    go_ret
    exact PlE.mk (b := a2 == b2) rfl (fun e => HE.out e _ (by rw [h12']; rfl)) (HFR.out _ _ _ (H1.out _ HB2.out).1 (H1.out _ HB2.out).2)
  · have h12' : (a1 == b1) = false := by simpa using h12
    go_wp2_with fail
    go_ret
    exact PlE.mk (b := false) rfl (fun e => HE.out e _ (by rw [h12']; rfl)) (HFR.out _ _ _ (H1.out _ HB2.out).1 (H1.out _ HB2.out).2)
set_option maxRecDepth 100000 in
set_option maxHeartbeats 8000000 in
theorem plays7 {J K : Nat → Prop} {w : World} {d q : Nat} {s t : Ds} (h : Pr J K w d q s t) (hs : Sm 1 s) (ht : Sm 1 t) (x : Ox) (hx : Oxr x) (hk : x.kind % 11 = 7) : Calls Tryz.prog 10 #[.pointer (some ⟨d, 0, none⟩), .pointer (some ⟨q, 0, none⟩), .agg (xcs x)] w (PlE J K w d q s t (failD s x.page x.keep) (failD t x.page x.keep)) := by
  obtain ⟨kd, nm, to, pg, lg, fl, kp⟩ := x
  obtain ⟨hkd, hnm, hto, hpg, hlg, hkp⟩ := hx
  simp only at hk hkd hnm hto hpg hlg hkp ⊢
  unfold xcs
  obtain ⟨w0, hw0⟩ : ∃ w0, w0 = w.alloc (.cells #[.int .u8 (kd : Int), St nm, St to, .int .i64 pg, .int .u16 (lg : Int), .int .u8 (fl.toNat : Int), .int .u64 (kp : Int)] 31) := ⟨_, rfl⟩
  obtain ⟨bx, hbx⟩ : ∃ bx, bx = w.heap.size := ⟨_, rfl⟩
  have hB0 : Below w.heap.size w w0 := hw0 ▸ (Below.refl _ _).alloc (Nat.le_refl _) _
  have hb0 : w0.heap[bx]? = some (.cells #[.int .u8 (kd : Int), St nm, St to, .int .i64 pg, .int .u16 (lg : Int), .int .u8 (fl.toNat : Int), .int .u64 (kp : Int)] 31 (0, 0)) := by rw [hw0, hbx]; exact heap_alloc_new w _
  have h0 := h.grow hB0
  obtain ⟨K0, hK0⟩ : ∃ K0 : Nat → Prop, K0 = fun g => K g ∨ (w.heap.size ≤ g ∧ g < w0.heap.size) := ⟨_, rfl⟩
  rw [← hK0] at h0
  have hKx : K0 bx := by rw [hK0]; exact .inr ⟨by omega, lt_of_block hb0⟩
  have HFR : Hid (∀ W s' t', Pr J K0 W d q s' t' → Kj J K0 w0 W → Pr J K W d q s' t' ∧ Kj J K w W) := hid (fun W s' t' h1 h2 => ⟨h1.less (fun g hg => by rw [hK0]; exact .inl hg), (below_kj hB0 (fun g hg => h.lt hg) (fun g hg => h.jt hg)).trans (h2.less (fun g hg => by rw [hK0]; exact .inl hg))⟩)
  have HBX : Hid (∀ W, Kj J K0 w0 W → W.heap[bx]? = some (.cells #[.int .u8 (kd : Int), St nm, St to, .int .i64 pg, .int .u16 (lg : Int), .int .u8 (fl.toNat : Int), .int .u64 (kp : Int)] 31 (0, 0))) := hid (fun W h2 => (h2.blk bx hKx).trans hb0)
  have hrem : (kd : Int) % 11 = 7 := by omega
  have HS := hid hs
  have HT := hid ht
  have H0 := hid h0
  obtain ⟨fl, hfl⟩ : ∃ f : Int, f = (fl.toNat : Int) := ⟨_, rfl⟩
  rw [← hfl] at hb0 hw0 HBX ⊢
  have HB0 := hid hb0
  have HD := hid (pd_fail h0 pg hpg.2 kp hkp)
  have HM : Hid (∀ w1, Pr J K0 w1 d q (failD s pg kp) t → Calls Tryz.prog 35 #[.pointer (some ⟨q, 0, none⟩), .int .i64 pg, .int .u64 (kp : Int)] w1 fun e w' => e = .returned (.tuple #[]) ∧ Pr J K0 w' d q (failD s pg kp) (failD t pg kp) ∧ Kj J K0 w1 w') := hid (fun w1 h1 => pm_fail h1 pg hpg.2 kp hkp)
  generalize failD s pg kp = s' at *
  generalize failD t pg kp = t' at *
  clear h h0 hs ht hB0 hb0 hK0 hfl hKx hnm hto hpg hlg hkp hk
  go_enter Tryz.func10, Tryz.ntmps10
  go_wp2_with fail
  rw [← hw0]
  refine HD.out.mono ?_
  rintro e w1 ⟨rfl, h1, k1⟩
  have c3 : w1.cell? ⟨w.heap.size, 3, none⟩ = some (.int .i64 pg) := by rw [← hbx]; exact (cell_of_heap (HBX.out w1 k1) 3).trans rfl
  have c6 : w1.cell? ⟨w.heap.size, 6, none⟩ = some (.int .u64 (kp : Int)) := by rw [← hbx]; exact (cell_of_heap (HBX.out w1 k1) 6).trans rfl
  have HM := hid (HM.out w1 h1)
  have K1 := hid k1
  clear hw0 h1 k1
  go_wp2_with fail
  refine HM.out.mono ?_
  rintro e w2 ⟨rfl, h2, k2⟩
  have H2 := hid h2
  have K2 := hid k2
  clear h2 k2 c3 c6
  go_wp2_with fail
  go_ret
  exact PlE.mk (b := true) rfl (fun _ => rfl) (HFR.out _ _ _ H2.out (K1.out.trans K2.out))
set_option maxRecDepth 100000 in
set_option maxHeartbeats 8000000 in
theorem plays8 {J K : Nat → Prop} {w : World} {d q : Nat} {s t : Ds} (h : Pr J K w d q s t) (hs : Sm 1 s) (ht : Sm 1 t) (x : Ox) (hx : Oxr x) (hk : x.kind % 11 = 8) : Calls Tryz.prog 10 #[.pointer (some ⟨d, 0, none⟩), .pointer (some ⟨q, 0, none⟩), .agg (xcs x)] w (PlE J K w d q s t (onD s) (onD t)) := by
  obtain ⟨kd, nm, to, pg, lg, fl, kp⟩ := x
  obtain ⟨hkd, hnm, hto, hpg, hlg, hkp⟩ := hx
  simp only at hk hkd hnm hto hpg hlg hkp ⊢
  unfold xcs
  obtain ⟨w0, hw0⟩ : ∃ w0, w0 = w.alloc (.cells #[.int .u8 (kd : Int), St nm, St to, .int .i64 pg, .int .u16 (lg : Int), .int .u8 (fl.toNat : Int), .int .u64 (kp : Int)] 31) := ⟨_, rfl⟩
  obtain ⟨bx, hbx⟩ : ∃ bx, bx = w.heap.size := ⟨_, rfl⟩
  have hB0 : Below w.heap.size w w0 := hw0 ▸ (Below.refl _ _).alloc (Nat.le_refl _) _
  have hb0 : w0.heap[bx]? = some (.cells #[.int .u8 (kd : Int), St nm, St to, .int .i64 pg, .int .u16 (lg : Int), .int .u8 (fl.toNat : Int), .int .u64 (kp : Int)] 31 (0, 0)) := by rw [hw0, hbx]; exact heap_alloc_new w _
  have h0 := h.grow hB0
  obtain ⟨K0, hK0⟩ : ∃ K0 : Nat → Prop, K0 = fun g => K g ∨ (w.heap.size ≤ g ∧ g < w0.heap.size) := ⟨_, rfl⟩
  rw [← hK0] at h0
  have hKx : K0 bx := by rw [hK0]; exact .inr ⟨by omega, lt_of_block hb0⟩
  have HFR : Hid (∀ W s' t', Pr J K0 W d q s' t' → Kj J K0 w0 W → Pr J K W d q s' t' ∧ Kj J K w W) := hid (fun W s' t' h1 h2 => ⟨h1.less (fun g hg => by rw [hK0]; exact .inl hg), (below_kj hB0 (fun g hg => h.lt hg) (fun g hg => h.jt hg)).trans (h2.less (fun g hg => by rw [hK0]; exact .inl hg))⟩)
  have HBX : Hid (∀ W, Kj J K0 w0 W → W.heap[bx]? = some (.cells #[.int .u8 (kd : Int), St nm, St to, .int .i64 pg, .int .u16 (lg : Int), .int .u8 (fl.toNat : Int), .int .u64 (kp : Int)] 31 (0, 0))) := hid (fun W h2 => (h2.blk bx hKx).trans hb0)
  have hrem : (kd : Int) % 11 = 8 := by omega
  have HS := hid hs
  have HT := hid ht
  have H0 := hid h0
  obtain ⟨fl, hfl⟩ : ∃ f : Int, f = (fl.toNat : Int) := ⟨_, rfl⟩
  rw [← hfl] at hb0 hw0 HBX ⊢
  have HB0 := hid hb0
  have HD := hid (pd_on h0)
  have HM : Hid (∀ w1, Pr J K0 w1 d q (onD s) t → Calls Tryz.prog 36 #[.pointer (some ⟨q, 0, none⟩)] w1 fun e w' => e = .returned (.tuple #[]) ∧ Pr J K0 w' d q (onD s) (onD t) ∧ Kj J K0 w1 w') := hid (fun w1 h1 => pm_on h1)
  generalize onD s = s' at *
  generalize onD t = t' at *
  clear h h0 hs ht hB0 hb0 hK0 hfl hKx hnm hto hpg hlg hkp hk
  go_enter Tryz.func10, Tryz.ntmps10
  go_wp2_with fail
  rw [← hw0]
  refine HD.out.mono ?_
  rintro e w1 ⟨rfl, h1, k1⟩
  have HM := hid (HM.out w1 h1)
  have K1 := hid k1
  clear hw0 h1 k1
  go_wp2_with fail
  refine HM.out.mono ?_
  rintro e w2 ⟨rfl, h2, k2⟩
  have H2 := hid h2
  have K2 := hid k2
  clear h2 k2
  go_wp2_with fail
  go_ret
  exact PlE.mk (b := true) rfl (fun _ => rfl) (HFR.out _ _ _ H2.out (K1.out.trans K2.out))
set_option maxRecDepth 100000 in
set_option maxHeartbeats 8000000 in
theorem plays9 {J K : Nat → Prop} {w : World} {d q : Nat} {s t : Ds} (h : Pr J K w d q s t) (hs : Sm 1 s) (ht : Sm 1 t) (x : Ox) (hx : Oxr x) (hk : x.kind % 11 = 9) : Calls Tryz.prog 10 #[.pointer (some ⟨d, 0, none⟩), .pointer (some ⟨q, 0, none⟩), .agg (xcs x)] w (PlE J K w d q s t s t) := by
  obtain ⟨kd, nm, to, pg, lg, fl, kp⟩ := x
  obtain ⟨hkd, hnm, hto, hpg, hlg, hkp⟩ := hx
  simp only at hk hkd hnm hto hpg hlg hkp ⊢
  unfold xcs
  obtain ⟨w0, hw0⟩ : ∃ w0, w0 = w.alloc (.cells #[.int .u8 (kd : Int), St nm, St to, .int .i64 pg, .int .u16 (lg : Int), .int .u8 (fl.toNat : Int), .int .u64 (kp : Int)] 31) := ⟨_, rfl⟩
  obtain ⟨bx, hbx⟩ : ∃ bx, bx = w.heap.size := ⟨_, rfl⟩
  have hB0 : Below w.heap.size w w0 := hw0 ▸ (Below.refl _ _).alloc (Nat.le_refl _) _
  have hb0 : w0.heap[bx]? = some (.cells #[.int .u8 (kd : Int), St nm, St to, .int .i64 pg, .int .u16 (lg : Int), .int .u8 (fl.toNat : Int), .int .u64 (kp : Int)] 31 (0, 0)) := by rw [hw0, hbx]; exact heap_alloc_new w _
  have h0 := h.grow hB0
  obtain ⟨K0, hK0⟩ : ∃ K0 : Nat → Prop, K0 = fun g => K g ∨ (w.heap.size ≤ g ∧ g < w0.heap.size) := ⟨_, rfl⟩
  rw [← hK0] at h0
  have hKx : K0 bx := by rw [hK0]; exact .inr ⟨by omega, lt_of_block hb0⟩
  have HFR : Hid (∀ W s' t', Pr J K0 W d q s' t' → Kj J K0 w0 W → Pr J K W d q s' t' ∧ Kj J K w W) := hid (fun W s' t' h1 h2 => ⟨h1.less (fun g hg => by rw [hK0]; exact .inl hg), (below_kj hB0 (fun g hg => h.lt hg) (fun g hg => h.jt hg)).trans (h2.less (fun g hg => by rw [hK0]; exact .inl hg))⟩)
  have HBX : Hid (∀ W, Kj J K0 w0 W → W.heap[bx]? = some (.cells #[.int .u8 (kd : Int), St nm, St to, .int .i64 pg, .int .u16 (lg : Int), .int .u8 (fl.toNat : Int), .int .u64 (kp : Int)] 31 (0, 0))) := hid (fun W h2 => (h2.blk bx hKx).trans hb0)
  have hrem : (kd : Int) % 11 = 9 := by omega
  have HS := hid hs
  have HT := hid ht
  have H0 := hid h0
  obtain ⟨fl, hfl⟩ : ∃ f : Int, f = (fl.toNat : Int) := ⟨_, rfl⟩
  rw [← hfl] at hb0 hw0 HBX ⊢
  have HB0 := hid hb0
  clear h h0 hs ht hB0 hb0 hK0 hfl hKx hnm hto hpg hlg hkp hk
  go_enter Tryz.func10, Tryz.ntmps10
  go_wp2_with fail
  rw [← hw0]
  go_ret
  exact PlE.mk (b := true) rfl (fun _ => rfl) (HFR.out _ _ _ H0.out (Kj.refl _ _ _))
set_option maxRecDepth 100000 in
set_option maxHeartbeats 8000000 in
theorem plays10 {J K : Nat → Prop} {w : World} {d q : Nat} {s t : Ds} (h : Pr J K w d q s t) (hs : Sm 1 s) (ht : Sm 1 t) (x : Ox) (hx : Oxr x) (hk : x.kind % 11 = 10) : Calls Tryz.prog 10 #[.pointer (some ⟨d, 0, none⟩), .pointer (some ⟨q, 0, none⟩), .agg (xcs x)] w (PlE J K w d q s t s t) := by
  obtain ⟨kd, nm, to, pg, lg, fl, kp⟩ := x
  obtain ⟨hkd, hnm, hto, hpg, hlg, hkp⟩ := hx
  simp only at hk hkd hnm hto hpg hlg hkp ⊢
  unfold xcs
  obtain ⟨w0, hw0⟩ : ∃ w0, w0 = w.alloc (.cells #[.int .u8 (kd : Int), St nm, St to, .int .i64 pg, .int .u16 (lg : Int), .int .u8 (fl.toNat : Int), .int .u64 (kp : Int)] 31) := ⟨_, rfl⟩
  obtain ⟨bx, hbx⟩ : ∃ bx, bx = w.heap.size := ⟨_, rfl⟩
  have hB0 : Below w.heap.size w w0 := hw0 ▸ (Below.refl _ _).alloc (Nat.le_refl _) _
  have hb0 : w0.heap[bx]? = some (.cells #[.int .u8 (kd : Int), St nm, St to, .int .i64 pg, .int .u16 (lg : Int), .int .u8 (fl.toNat : Int), .int .u64 (kp : Int)] 31 (0, 0)) := by rw [hw0, hbx]; exact heap_alloc_new w _
  have h0 := h.grow hB0
  obtain ⟨K0, hK0⟩ : ∃ K0 : Nat → Prop, K0 = fun g => K g ∨ (w.heap.size ≤ g ∧ g < w0.heap.size) := ⟨_, rfl⟩
  rw [← hK0] at h0
  have hKx : K0 bx := by rw [hK0]; exact .inr ⟨by omega, lt_of_block hb0⟩
  have HFR : Hid (∀ W s' t', Pr J K0 W d q s' t' → Kj J K0 w0 W → Pr J K W d q s' t' ∧ Kj J K w W) := hid (fun W s' t' h1 h2 => ⟨h1.less (fun g hg => by rw [hK0]; exact .inl hg), (below_kj hB0 (fun g hg => h.lt hg) (fun g hg => h.jt hg)).trans (h2.less (fun g hg => by rw [hK0]; exact .inl hg))⟩)
  have HBX : Hid (∀ W, Kj J K0 w0 W → W.heap[bx]? = some (.cells #[.int .u8 (kd : Int), St nm, St to, .int .i64 pg, .int .u16 (lg : Int), .int .u8 (fl.toNat : Int), .int .u64 (kp : Int)] 31 (0, 0))) := hid (fun W h2 => (h2.blk bx hKx).trans hb0)
  have hrem : (kd : Int) % 11 = 10 := by omega
  have HS := hid hs
  have HT := hid ht
  have H0 := hid h0
  obtain ⟨fl, hfl⟩ : ∃ f : Int, f = (fl.toNat : Int) := ⟨_, rfl⟩
  rw [← hfl] at hb0 hw0 HBX ⊢
  have HB0 := hid hb0
  clear h h0 hs ht hB0 hb0 hK0 hfl hKx hnm hto hpg hlg hkp hk
  go_enter Tryz.func10, Tryz.ntmps10
  go_wp2_with fail
  rw [← hw0]
  go_ret
  exact PlE.mk (b := true) rfl (fun _ => rfl) (HFR.out _ _ _ H0.out (Kj.refl _ _ _))
end Go.Proofs.YtojnembakhhgiaaGreat
