/- The short call that stands in each statement. -/
import Derived.Test.YtkeppcpplkdkaaaDoorRHex
import Derived.Stop.BytesEq
import Derived.Lib.SlBytesConst
namespace Go.Proofs.YtkeppcpplkdkaaaDoor
open Go.RowKit

/-- the digits of abc -/
def habc : Bs := [98, 97, 55, 56, 49, 54, 98, 102, 56, 102, 48, 49, 99, 102, 101, 97, 52, 49, 52, 49, 52, 48, 100, 101, 53, 100, 97, 101, 50, 50, 50, 51, 98, 48, 48, 51, 54, 49, 97, 51, 57, 54, 49, 55, 55, 97, 57, 99, 98, 52, 49, 48, 102, 102, 54, 49, 102, 50, 48, 48, 49, 53, 97, 100]
theorem hex_abc : hx (outs (sumS [97, 98, 99])) = habc := by decide +kernel

/-- a new row of bytes -/
theorem sz_new (w : World) (c : Bs) (n : Nat) (hn : n = c.length) (fr : Nat × Nat) : Sz (w.alloc (.cells (bys c).toArray 5 fr)) (some ⟨w.heap.size, 0, none⟩) n c := by
  refine ⟨by omega, fun _ => ⟨w.heap.size, 0, rfl, by simp, fun i hi => ?_⟩⟩
  rw [World.cell?_alloc_mark, Nat.zero_add, List.getElem?_toArray]
  exact bys_get hi
/-- a constant text as bytes -/
theorem conv_const (w : World) (C : Array Value) (n c : Nat) : (convert 22 22 (.slice (some ⟨w.heap.size, 0, none⟩) n c)).run Tryd.prog (w.alloc (.cells C 5)) = .ok (.slice (some ⟨w.heap.size, 0, none⟩) n c) (w.alloc (.cells C 5 (C.size, C.size + 1))) :=
  Lib.run_convert_bytes_const w 22 5 C n c Tryd.underlying22 Tryd.underlying5
theorem u8s_cell (l : List Int) (h : ∀ x ∈ l, 0 ≤ x ∧ x < 256) : u8s l = (l.map (fun x => UInt8.ofNat x.toNat)).map Extern.Stop.cell := by
  rw [List.map_map]
  apply List.map_congr_left
  intro x hx
  have := h x hx
  simp only [Function.comp, Extern.Stop.cell]
  congr 1
  simp
  omega
/-- two sums that are one -/
theorem sum_eq (S : S8) (W : World) : (Op.equalIn 10000 23 (vsum S) (vsum S)).run Tryd.prog W = .ok true W := by
  have hsz : ∀ w, (sizeOf 5).run Tryd.prog w = .ok 1 w := fun w => by
    obtain ⟨i, hi, hz⟩ := Option.map_eq_some_iff.1 Tryd.size5
    simp [sizeOf, typeInfo, hi, hz]
  unfold vsum
  rw [u8s_cell _ (outs_rng S)]
  have h := run_equalIn_bytes (P := Tryd.prog) W 9998 23 5 32 Tryd.underlying23 Tryd.underlying5 hsz ((outs S).map (fun x => UInt8.ofNat x.toNat)) ((outs S).map (fun x => UInt8.ofNat x.toNat)) rfl rfl
  rw [beq_self_eq_true] at h
  exact h
theorem Sz.sl {w : World} {p : Nat} {a : Option Addr} {cap : Nat} {c : Bs} (h : Sz w a cap c) (hp : ∀ ad, a = some ad → ad.block ≠ p) : Sl w p a cap c := by
  refine ⟨h.cap, fun h0 => ?_⟩
  obtain ⟨cb, co, e, hat⟩ := h.som h0
  exact ⟨cb, co, e, hat, hp _ e⟩

set_option maxHeartbeats 4000000 in
set_option maxRecDepth 100000 in
theorem works_any (w : World) (hkc : KC w) : Calls Tryd.prog 11 #[] w fun en w' => en = .returned (.bool true) ∧ Below w.heap.size w w' := by
  have HKC := hid hkc
  have HP0 : Hid (w.heap.size ≠ 0) := by apply hid; have := hkc.1; omega
  clear hkc
  obtain ⟨q1, hq1⟩ : ∃ q : Bs, q = [97, 98] := ⟨_, rfl⟩
  obtain ⟨q2, hq2⟩ : ∃ q : Bs, q = [99] := ⟨_, rfl⟩
  obtain ⟨q3, hq3⟩ : ∃ q : Bs, q = [97, 98, 99] := ⟨_, rfl⟩
  have HQ12 : Hid (q1 ++ q2 = q3) := by apply hid; rw [hq1, hq2, hq3]; rfl
  have HX : Hid (hx (outs (sumS q3)) = habc) := by apply hid; rw [hq3]; exact hex_abc
  have HQ1 := hid hq1
  have HQ2 := hid hq2
  have HQ3 := hid hq3
  clear hq1 hq2 hq3
  go_enter Tryd.func11, Tryd.ntmps11
  go_wp2_with fail
  refine (new_any _).mono ?_
  rintro e w1 ⟨rfl, hw⟩
  have HS := hid (stt_new w)
  rw [← hw] at HS
  have HB1 : Hid (Below w.heap.size w w1) := by apply hid; rw [hw]; exact below_alloc_self' w _
  clear hw
  obtain ⟨w2, hw2⟩ : ∃ w2, w2 = w1.alloc (.cells #[.int .u8 97, .int .u8 98] 5 (2, 3)) := ⟨_, rfl⟩
  have hcv : (convert 22 22 (.slice (some ⟨w1.heap.size, 0, none⟩) 2 2)).run Tryd.prog (w1.alloc (.cells #[.int .u8 97, .int .u8 98] 5)) = .ok (.slice (some ⟨w1.heap.size, 0, none⟩) 2 2) w2 := by rw [hw2]; exact conv_const w1 _ 2 2
  have HB2 : Hid (Below w.heap.size w w2) := by apply hid; rw [hw2]; exact HB1.out.alloc HB1.out.size _
  have HS2 : Hid (Stt w2 w.heap.size [] s0s (noughts 64)) := by apply hid; rw [hw2]; exact HS.out.below (below_alloc_self' w1 _)
  have HZ2 : Hid (Sl w2 w.heap.size (some ⟨w1.heap.size, 0, none⟩) 2 q1) := by
    apply hid
    have h := sz_new w1 q1 2 (by rw [HQ1.out]; rfl) (2, 3)
    rw [show (bys q1).toArray = #[.int .u8 97, .int .u8 98] by rw [HQ1.out]; rfl, ← hw2] at h
    exact h.sl (fun ad e => by cases e; have := HS.out.lt; show w1.heap.size ≠ _; omega)
  clear hw2
  go_wp2_with fail
  have HC : Hid (Calls Tryd.prog 14 #[.pointer (some ⟨w.heap.size, 0, none⟩), .slice (some ⟨w1.heap.size, 0, none⟩) 2 2] w2 fun en w' => en = .returned (.tuple #[]) ∧ (∃ s' t', Stt w' w.heap.size q1 s' t') ∧ Below w.heap.size w w') := by
    apply hid
    have h := write_any w2 w.heap.size [] s0s (noughts 64) (some ⟨w1.heap.size, 0, none⟩) 2 q1 HS2.out HZ2.out (by rw [HQ1.out]; decide) (HKC.out.below HB2.out) HP0.out
    rw [show q1.length = 2 by rw [HQ1.out]; rfl] at h
    refine h.mono ?_
    rintro e w' ⟨rfl, h1, h2⟩
    exact ⟨rfl, h1, h2.to_below HB2.out (Nat.le_refl _)⟩
  refine HC.out.mono ?_
  rintro e w3 ⟨rfl, ⟨s3, t3, h1⟩, h2⟩
  have HS3 := hid h1
  have HB3 := hid h2
  clear h1 h2 HC HS2 HZ2 HB2 hcv HS HB1
  obtain ⟨w4, hw4⟩ : ∃ w4, w4 = w3.alloc (.cells #[.int .u8 99] 5 (1, 2)) := ⟨_, rfl⟩
  have hcv : (convert 22 22 (.slice (some ⟨w3.heap.size, 0, none⟩) 1 1)).run Tryd.prog (w3.alloc (.cells #[.int .u8 99] 5)) = .ok (.slice (some ⟨w3.heap.size, 0, none⟩) 1 1) w4 := by rw [hw4]; exact conv_const w3 _ 1 1
  have HB4 : Hid (Below w.heap.size w w4) := by apply hid; rw [hw4]; exact HB3.out.alloc HB3.out.size _
  have HS4 : Hid (Stt w4 w.heap.size q1 s3 t3) := by apply hid; rw [hw4]; exact HS3.out.below (below_alloc_self' w3 _)
  have HZ4 : Hid (Sl w4 w.heap.size (some ⟨w3.heap.size, 0, none⟩) 1 q2) := by
    apply hid
    have h := sz_new w3 q2 1 (by rw [HQ2.out]; rfl) (1, 2)
    rw [show (bys q2).toArray = #[.int .u8 99] by rw [HQ2.out]; rfl, ← hw4] at h
    exact h.sl (fun ad e => by cases e; have := HS3.out.lt; show w3.heap.size ≠ _; omega)
  clear hw4
  go_wp2_with fail
  have HC : Hid (Calls Tryd.prog 14 #[.pointer (some ⟨w.heap.size, 0, none⟩), .slice (some ⟨w3.heap.size, 0, none⟩) 1 1] w4 fun en w' => en = .returned (.tuple #[]) ∧ (∃ s' t', Stt w' w.heap.size q3 s' t') ∧ Below w.heap.size w w') := by
    apply hid
    have h := write_any w4 w.heap.size q1 s3 t3 (some ⟨w3.heap.size, 0, none⟩) 1 q2 HS4.out HZ4.out (by rw [HQ1.out, HQ2.out]; decide) (HKC.out.below HB4.out) HP0.out
    rw [show q2.length = 1 by rw [HQ2.out]; rfl, HQ12.out] at h
    refine h.mono ?_
    rintro e w' ⟨rfl, h1, h2⟩
    exact ⟨rfl, h1, h2.to_below HB4.out (Nat.le_refl _)⟩
  refine HC.out.mono ?_
  rintro e w5 ⟨rfl, ⟨s5, t5, h1⟩, h2⟩
  have HS5 := hid h1
  have HB5 := hid h2
  clear h1 h2 HC HS4 HZ4 HB4 hcv HS3 HB3
  have HL3 : Hid (q3.length = 3) := by apply hid; rw [HQ3.out]; rfl
  have HSE : Hid (∀ W, (Op.equalIn 10000 23 (vsum (sumS q3)) (vsum (sumS q3))).run Tryd.prog W = .ok true W) := hid (sum_eq _)
  have HCS : Hid (Calls Tryd.prog 13 #[.pointer (some ⟨w.heap.size, 0, none⟩)] w5 fun en w' => en = .returned (vsum (sumS q3)) ∧ Below w5.heap.size w5 w') := hid (ssum_any w5 _ q3 s5 t5 HS5.out (by rw [HL3.out]; decide) (HKC.out.below HB5.out))
  have HCM : Hid (∀ W : World, KC W → ∀ a, Sz W a 3 q3 → Calls Tryd.prog 7 #[.slice a 3 3] W fun en w' => en = .returned (vsum (sumS q3)) ∧ Below W.heap.size W w') := by
    apply hid; intro W hk a hs; have h := sum_any W a 3 q3 hs (by rw [HL3.out]; decide) hk; rw [HL3.out] at h; exact h
  have HCH : Hid (∀ W : World, KC W → ∀ a, Sz W a 3 q3 → Calls Tryd.prog 9 #[.slice a 3 3] W fun en w' => en = .returned (.string ⟨habc.toArray⟩) ∧ Below W.heap.size W w') := by
    apply hid; intro W hk a hs; have h := hex_any W a 3 q3 hs (by rw [HL3.out]; decide) hk; rw [HL3.out, HX.out] at h; exact h
  have HSZ : Hid (∀ W : World, Sz (W.alloc (.cells #[.int .u8 97, .int .u8 98, .int .u8 99] 5 (3, 4))) (some ⟨W.heap.size, 0, none⟩) 3 q3) := by
    apply hid; intro W
    have h := sz_new W q3 3 HL3.out.symm (3, 4)
    rw [show (bys q3).toArray = #[.int .u8 97, .int .u8 98, .int .u8 99] by rw [HQ3.out]; rfl] at h
    exact h
  unfold vsum at HSE HCS HCM
  generalize (u8s (outs (sumS q3))).toArray = OO at HSE HCS HCM
  have hse := HSE.out
  go_wp2_with fail
  refine HCS.out.mono ?_
  rintro e w6 ⟨rfl, hb6⟩
  have HB6 := hid (HB5.out.trans (hb6.mono HB5.out.size))
  clear hb6 HCS HS5
  obtain ⟨w7, hw7⟩ : ∃ w7, w7 = w6.alloc (.cells #[.int .u8 97, .int .u8 98, .int .u8 99] 5 (3, 4)) := ⟨_, rfl⟩
  have hcv : (convert 22 22 (.slice (some ⟨w6.heap.size, 0, none⟩) 3 3)).run Tryd.prog (w6.alloc (.cells #[.int .u8 97, .int .u8 98, .int .u8 99] 5)) = .ok (.slice (some ⟨w6.heap.size, 0, none⟩) 3 3) w7 := by rw [hw7]; exact conv_const w6 _ 3 3
  have HB7 : Hid (Below w.heap.size w w7) := by apply hid; rw [hw7]; exact HB6.out.alloc HB6.out.size _
  have HZ7 : Hid (Sz w7 (some ⟨w6.heap.size, 0, none⟩) 3 q3) := by apply hid; rw [hw7]; exact HSZ.out w6
  clear hw7
  go_wp2_with fail
  refine (HCM.out w7 (HKC.out.below HB7.out) _ HZ7.out).mono ?_
  rintro e w8 ⟨rfl, hb8⟩
  have HB8 := hid (HB7.out.trans (hb8.mono HB7.out.size))
  clear hb8 hcv HZ7 HB7 HB6
  obtain ⟨w9, hw9⟩ : ∃ w9, w9 = w8.alloc (.cells #[.int .u8 97, .int .u8 98, .int .u8 99] 5 (3, 4)) := ⟨_, rfl⟩
  have hcv : (convert 22 22 (.slice (some ⟨w8.heap.size, 0, none⟩) 3 3)).run Tryd.prog (w8.alloc (.cells #[.int .u8 97, .int .u8 98, .int .u8 99] 5)) = .ok (.slice (some ⟨w8.heap.size, 0, none⟩) 3 3) w9 := by rw [hw9]; exact conv_const w8 _ 3 3
  have HB9 : Hid (Below w.heap.size w w9) := by apply hid; rw [hw9]; exact HB8.out.alloc HB8.out.size _
  have HZ9 : Hid (Sz w9 (some ⟨w8.heap.size, 0, none⟩) 3 q3) := by apply hid; rw [hw9]; exact HSZ.out w8
  clear hw9
  go_wp2_with fail
  refine (HCH.out w9 (HKC.out.below HB9.out) _ HZ9.out).mono ?_
  rintro e w10 ⟨rfl, hb10⟩
  have HB10 := hid (HB9.out.trans (hb10.mono HB9.out.size))
  clear hb10 hcv HZ9 HB9 HB8
  go_wp2_with fail
  go_ret
  refine ⟨?_, HB10.out⟩
  exact congrArg (fun b => Ending.returned (.bool b)) (show (habc == _) = true by decide +kernel)
end Go.Proofs.YtkeppcpplkdkaaaDoor
