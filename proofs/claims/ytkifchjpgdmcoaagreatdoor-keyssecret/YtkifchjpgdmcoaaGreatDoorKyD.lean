/- Keys: a channel's six secrets. -/
import Derived.Test.YtkifchjpgdmcoaaGreatDoorKyC
import Derived.Deep.LoopGhost
namespace Go.Proofs.YtkifchjpgdmcoaaGreatDoor
open Go.RowKit
def lb : Nat → Bs
 | 0 => [102, 117, 110, 100]
 | 1 => [114, 101, 118]
 | 2 => [112, 97, 121]
 | 3 => [108, 97, 116, 101, 114]
 | 4 => [104, 116, 108, 99]
 | _ => [115, 101, 101, 100]
def Lb (w : World) : Prop := ∀ j, j < 6 → w.cell? ⟨0, j, none⟩ = some (St (lb j))
theorem Lb.lt {w : World} (h : Lb w) : 0 < w.heap.size := by
 have := h 0 (by decide)
 rcases Nat.eq_zero_or_pos w.heap.size with h0 | h0
 · exfalso
   have h1 : w.heap[0]? = none := Array.getElem?_eq_none (by omega)
   simp [World.cell?, h1] at this
 · exact h0
theorem Lb.below {w w' : World} (h : Lb w) (hb : Below w.heap.size w w') : Lb w' := fun j hj => (hb.cell (p := ⟨0, j, none⟩) h.lt).trans (h j hj)
def S6z : S6 := ⟨[], [], [], [], [], []⟩
def ckid (b : Bs) (j : Nat) : Bs × Nat := kidRes b (lb j) 0
def chanErr (b : Bs) (e : Nat) : Nat → Nat
 | 0 => e
 | k + 1 => firstN (chanErr b e k) (ckid b k).2
def chanRes (root : Bs) (n : Int) : S6 × Nat :=
 if chanErr (numRes root wChan n).1 (numRes root wChan n).2 6 = 0 then (⟨(ckid (numRes root wChan n).1 0).1, (ckid (numRes root wChan n).1 1).1, (ckid (numRes root wChan n).1 2).1, (ckid (numRes root wChan n).1 3).1, (ckid (numRes root wChan n).1 4).1, (ckid (numRes root wChan n).1 5).1⟩, 0)
 else (S6z, chanErr (numRes root wChan n).1 (numRes root wChan n).2 6)
def curS (b : Bs) : Nat → Array Value
 | 0 => #[St [], St [], St [], St [], St [], St []]
 | 1 => #[St (ckid b 0).1, St [], St [], St [], St [], St []]
 | 2 => #[St (ckid b 0).1, St (ckid b 1).1, St [], St [], St [], St []]
 | 3 => #[St (ckid b 0).1, St (ckid b 1).1, St (ckid b 2).1, St [], St [], St []]
 | 4 => #[St (ckid b 0).1, St (ckid b 1).1, St (ckid b 2).1, St (ckid b 3).1, St [], St []]
 | 5 => #[St (ckid b 0).1, St (ckid b 1).1, St (ckid b 2).1, St (ckid b 3).1, St (ckid b 4).1, St []]
 | _ => #[St (ckid b 0).1, St (ckid b 1).1, St (ckid b 2).1, St (ckid b 3).1, St (ckid b 4).1, St (ckid b 5).1]
structure Cn (w0 : World) (B : Nat) (b : Bs) (e : Nat) (k : Nat) (W : World) : Prop where
 hB : w0.heap.size = B + 1
 ke : Ke w0 (B + 3) (B + 2) (chanErr b e k) W
 sb : W.heap[B + 1]? = some (.cells (curS b k) 24 (0, 0))
theorem Cn.below {w0 W W' : World} {B : Nat} {b : Bs} {e k : Nat} (h : Cn w0 B b e k W) (hb : Below W.heap.size W W') : Cn w0 B b e k W' := ⟨h.hB, h.ke.below hb, (hb.block _ (heap_lt h.sb)).trans h.sb⟩
theorem Cn.next {w0 W W' : World} {B : Nat} {b : Bs} {e k : Nat} (h : Cn w0 B b e k W) (hk : Ke w0 (B + 3) (B + 2) (firstN (chanErr b e k) (ckid b k).2) W') (hf : Frx W.heap.size (B + 2) W W') (hj : k < 6) : Cn w0 B b e (k + 1) (W'.setCell ⟨B + 1, k, none⟩ (St (ckid b k).1)) := by
 have h1 : W'.heap[B + 1]? = some (.cells (curS b k) 24 (0, 0)) := (hf.block _ (heap_lt h.sb) (by omega)).trans h.sb
 refine ⟨h.hB, hk.frx (g := B + 1) (by have := h.hB; omega) (by omega) (by omega) ((Frx.refl _ _ _).setCell k _), ?_⟩
 rw [heap_setCell_same h1]
 have : (curS b k).setIfInBounds k (St (ckid b k).1) = curS b (k + 1) := by
   match k, hj with
   | 0, _ => rfl
   | 1, _ => rfl
   | 2, _ => rfl
   | 3, _ => rfl
   | 4, _ => rfl
   | 5, _ => rfl
 rw [this]
set_option maxRecDepth 100000 in
theorem ix0 (a0 a1 a2 a3 a4 a5 : Option Addr) (W : World) : (Instr.index 75 (.agg #[.pointer a0, .pointer a1, .pointer a2, .pointer a3, .pointer a4, .pointer a5]) (.int .i64 0)).run Tryz.prog W = .ok (.pointer a0) W := by rfl
set_option maxRecDepth 100000 in
theorem ix1 (a0 a1 a2 a3 a4 a5 : Option Addr) (W : World) : (Instr.index 75 (.agg #[.pointer a0, .pointer a1, .pointer a2, .pointer a3, .pointer a4, .pointer a5]) (.int .i64 1)).run Tryz.prog W = .ok (.pointer a1) W := by rfl
set_option maxRecDepth 100000 in
theorem ix2 (a0 a1 a2 a3 a4 a5 : Option Addr) (W : World) : (Instr.index 75 (.agg #[.pointer a0, .pointer a1, .pointer a2, .pointer a3, .pointer a4, .pointer a5]) (.int .i64 2)).run Tryz.prog W = .ok (.pointer a2) W := by rfl
set_option maxRecDepth 100000 in
theorem ix3 (a0 a1 a2 a3 a4 a5 : Option Addr) (W : World) : (Instr.index 75 (.agg #[.pointer a0, .pointer a1, .pointer a2, .pointer a3, .pointer a4, .pointer a5]) (.int .i64 3)).run Tryz.prog W = .ok (.pointer a3) W := by rfl
set_option maxRecDepth 100000 in
theorem ix4 (a0 a1 a2 a3 a4 a5 : Option Addr) (W : World) : (Instr.index 75 (.agg #[.pointer a0, .pointer a1, .pointer a2, .pointer a3, .pointer a4, .pointer a5]) (.int .i64 4)).run Tryz.prog W = .ok (.pointer a4) W := by rfl
set_option maxRecDepth 100000 in
theorem ix5 (a0 a1 a2 a3 a4 a5 : Option Addr) (W : World) : (Instr.index 75 (.agg #[.pointer a0, .pointer a1, .pointer a2, .pointer a3, .pointer a4, .pointer a5]) (.int .i64 5)).run Tryz.prog W = .ok (.pointer a5) W := by rfl
set_option maxHeartbeats 4000000 in
set_option maxRecDepth 100000 in
theorem channel_any (root : Bs) (n : Int) (hn : n ≤ 9223372036854775807) (w : World) (hp : Pw w) (hl : Lb w) :
   Calls Tryz.prog 21 #[St root, .int .i64 n] w fun en w' => en = .returned (.tuple #[(chanRes root n).1.v, .int .i64 ((chanRes root n).2 : Int)]) ∧ Below w.heap.size w w' := by
 have HR : Hid (∀ b e, numRes root wChan n = (b, e) → chanRes root n = if chanErr b e 6 = 0 then (⟨(ckid b 0).1, (ckid b 1).1, (ckid b 2).1, (ckid b 3).1, (ckid b 4).1, (ckid b 5).1⟩, 0) else (S6z, chanErr b e 6)) := hid (fun b e h => by unfold chanRes; rw [h])
 obtain ⟨R, hR⟩ : ∃ R, chanRes root n = R := ⟨_, rfl⟩
 rw [hR] at HR ⊢
 clear hR
 have HC : Hid (∀ W, Pw W → Calls Tryz.prog 48 #[St root, .string { data := #[99, 104, 97, 110, 110, 101, 108] }, .int .i64 n] W fun en w' => en = made (numRes root wChan n) ∧ Below W.heap.size W w') := hid (fun W h => numd_any root wChan n (by decide) hn W h)
 obtain ⟨⟨b, e⟩, hbe⟩ : ∃ r, numRes root wChan n = r := ⟨_, rfl⟩
 have HR2 := hid (HR.out b e hbe)
 rw [hbe] at HC
 clear hbe HR hn
 obtain ⟨w0, hw0⟩ : ∃ w0, w0 = w.alloc (.cells #[St [], St [], St [], St [], St [], St []] 24) := ⟨_, rfl⟩
 have hs0 : w0.heap.size = w.heap.size + 1 := by rw [hw0]; simp
 have hb0 : Below w.heap.size w w0 := by rw [hw0]; exact bel_alloc w _
 have hr0 : w0.heap[w.heap.size]? = some (.cells #[St [], St [], St [], St [], St [], St []] 24 (0, 0)) := by rw [hw0]; exact heap_alloc_new w _
 obtain ⟨wa, hwa⟩ : ∃ wa, wa = w0.alloc (.cells #[St [], St [], St [], St [], St [], St []] 24) := ⟨_, rfl⟩
 obtain ⟨wb, hwb⟩ : ∃ wb, wb = wa.alloc (.cells #[.int .i64 0] 29) := ⟨_, rfl⟩
 obtain ⟨wc, hwc⟩ : ∃ wc, wc = wb.alloc (.cells #[.pointer (some ⟨w.heap.size + 2, 0, none⟩)] 58) := ⟨_, rfl⟩
 have sa : wa.heap.size = w.heap.size + 2 := by rw [hwa]; simp [hs0]
 have sb : wb.heap.size = w.heap.size + 3 := by rw [hwb]; simp [sa]
 have la : Below w0.heap.size w0 wa := by rw [hwa]; exact bel_alloc w0 _
 have lb' : Below wa.heap.size wa wb := by rw [hwb]; exact bel_alloc wa _
 have lc : Below wb.heap.size wb wc := by rw [hwc]; exact bel_alloc wb _
 have hke : Ke w0 (w.heap.size + 3) (w.heap.size + 2) 0 wc := by
   refine ⟨la.trans ((lb'.trans (lc.mono (by omega))).mono (by omega)), by omega, by omega, by omega, ?_, ?_⟩
   · rw [hwc, show w.heap.size + 3 = wb.heap.size by omega]; exact heap_alloc_new wb _
   · rw [lc.block _ (by omega), hwb, show w.heap.size + 2 = wa.heap.size by omega]; exact heap_alloc_new wa _
 have hsb : wc.heap[w.heap.size + 1]? = some (.cells #[St [], St [], St [], St [], St [], St []] 24 (0, 0)) := by
   rw [lc.block _ (by omega), lb'.block _ (by omega), hwa, ← hs0]; exact heap_alloc_new w0 _
 have HW : Hid (wc = (((w.alloc (.cells #[St [], St [], St [], St [], St [], St []] 24)).alloc (.cells #[St [], St [], St [], St [], St [], St []] 24)).alloc (.cells #[.int .i64 0] 29)).alloc (.cells #[.pointer (some ⟨w.heap.size + 2, 0, none⟩)] 58)) := hid (by rw [hwc, hwb, hwa, hw0])
 have HKE := hid hke
 have HSB := hid hsb
 have HB := hid hb0
 have HR0 := hid hr0
 have HS := hid hs0
 have HP := hid hp
 have HL := hid hl
 have HPC : Hid (Pw wc) := hid (hp.below (hb0.trans ((la.trans ((lb'.trans (lc.mono (by omega))).mono (by omega))).mono (by omega))))
 clear hke hsb hb0 hr0 hs0 hp hl sa sb la lb' lc hwa hwb hwc hw0 wa wb
 go_enter Tryz.func21, Tryz.ntmps21
 go_wp2_with (go_at_call 25; refine (keeping_any _ _).mono ?_; rintro e w1 ⟨rfl, rfl⟩)
 have HCC := HC.out wc HPC.out
 rw [HW.out] at HCC
 refine HCC.mono ?_
 clear HCC
 rintro _ w1 ⟨rfl, hb1⟩
 rw [← HW.out] at hb1
 have HK1 := hid (HKE.out.below hb1)
 have HP1 := hid (HPC.out.below hb1)
 have HS1 := hid ((hb1.block _ (heap_lt HSB.out)).trans HSB.out)
 have HL1 := hid ((HL.out.below HB.out).below HK1.out.bel)
 clear hb1 HC HPC HKE HSB HW
 go_wp2_with (go_at_call 55; refine (keep_any HK1.out b e).mono ?_; rintro _ w2 ⟨rfl, hk2, hf2⟩; have HK2 := hid hk2; have HF2 := hid hf2; clear hk2 hf2)
 have HP0 := hid (HP.out.below HB.out)
 have HL0 := hid (HL.out.below HB.out)
 have HCN0 : Hid (Cn w0 w.heap.size b e 0 w2) := hid ⟨HS.out, HK2.out, (HF2.out.block _ (heap_lt HS1.out) (by omega)).trans HS1.out⟩
 clear HK1 HP1 HS1 HL1 HK2 HF2 HP HL HS
 go_loopg [27] 6 (fun gg v wr => ∃ i : Nat, i ≤ 6 ∧ gg = 6 - i ∧ v = .int .i64 (i : Int) ∧ Cn w0 w.heap.size b e i wr)
 case atStart => exact ⟨0, by omega, by omega, rfl, HCN0.out⟩
 case round =>
   obtain ⟨i, hi, rfl, rfl, hcn⟩ := hrel
   have HCN := hid hcn
   have HPW := HP0.out.below hcn.ke.bel
   have HLW := HL0.out.below hcn.ke.bel
   clear hcn
   by_cases hil : i < 6
   · rcases (show i = 0 ∨ i = 1 ∨ i = 2 ∨ i = 3 ∨ i = 4 ∨ i = 5 by omega) with h | h | h | h | h | h
     · obtain rfl : i = 0 := by omega
       generalize hz : ((0 : Nat) : Int) = z
       obtain rfl : (0 : Int) = z := hz
       have hix := ix0 (some ⟨w.heap.size + 1, 0, none⟩) (some ⟨w.heap.size + 1, 1, none⟩) (some ⟨w.heap.size + 1, 2, none⟩) (some ⟨w.heap.size + 1, 3, none⟩) (some ⟨w.heap.size + 1, 4, none⟩) (some ⟨w.heap.size + 1, 5, none⟩) wr
       have HK := hid (kyc_any b (lb 0) 0 (by decide) (by decide) wr HPW)
       have HKR : Hid (kidRes b (lb 0) 0 = ckid b 0) := hid rfl
       rw [HKR.out] at HK
       have hlab : wr.cell? ⟨0, 0, none⟩ = some (St (lb 0)) := HLW 0 (by decide)
       have HCR := hid (fun (W : World) (hb : Below wr.heap.size wr W) => (HCN.out.below hb).ke)
       clear HKR HPW HLW hi hil
       generalize hlk : lb 0 = L at hlab HK
       clear hlk
       obtain ⟨⟨t, m⟩, hr⟩ : ∃ r, ckid b 0 = r := ⟨_, rfl⟩
       have HR3 := hid hr
       rw [hr] at HK
       clear hr
       go_wp2_with (first | (go_at_call 49; refine HK.out.mono ?_; rintro _ w3 ⟨rfl, hb3⟩; have HB3 := hid hb3; clear hb3) | (go_at_call 55; refine (keep_any (HCR.out _ HB3.out) t m).mono ?_; rintro _ w4 ⟨rfl, hk4, hf4⟩; have HX := hid ((HCN.out.below HB3.out).next (by rw [HR3.out]; exact hk4) hf4 (by decide)); have hcell : w4.cell? ⟨w.heap.size + 1, 0, none⟩ = some (St []) := (by rw [cell_of_heap ((hf4.block _ (heap_lt (HCN.out.below HB3.out).sb) (by omega)).trans (HCN.out.below HB3.out).sb)]; rfl); have hfz : w4.frozen? ⟨w.heap.size + 1, 0, none⟩ = false := frozen_of_heap ((hf4.block _ (heap_lt (HCN.out.below HB3.out).sb) (by omega)).trans (HCN.out.below HB3.out).sb) 0; rw [HR3.out] at HX; clear hk4 hf4))
       go_roundg (6 - (0 + 1))
       case measure => omega
       case rel => exact ⟨0 + 1, by omega, rfl, rfl, HX.out⟩
     · obtain rfl : i = 1 := by omega
       generalize hz : ((1 : Nat) : Int) = z
       obtain rfl : (1 : Int) = z := hz
       have hix := ix1 (some ⟨w.heap.size + 1, 0, none⟩) (some ⟨w.heap.size + 1, 1, none⟩) (some ⟨w.heap.size + 1, 2, none⟩) (some ⟨w.heap.size + 1, 3, none⟩) (some ⟨w.heap.size + 1, 4, none⟩) (some ⟨w.heap.size + 1, 5, none⟩) wr
       have HK := hid (kyc_any b (lb 1) 0 (by decide) (by decide) wr HPW)
       have HKR : Hid (kidRes b (lb 1) 0 = ckid b 1) := hid rfl
       rw [HKR.out] at HK
       have hlab : wr.cell? ⟨0, 1, none⟩ = some (St (lb 1)) := HLW 1 (by decide)
       have HCR := hid (fun (W : World) (hb : Below wr.heap.size wr W) => (HCN.out.below hb).ke)
       clear HKR HPW HLW hi hil
       generalize hlk : lb 1 = L at hlab HK
       clear hlk
       obtain ⟨⟨t, m⟩, hr⟩ : ∃ r, ckid b 1 = r := ⟨_, rfl⟩
       have HR3 := hid hr
       rw [hr] at HK
       clear hr
       go_wp2_with (first | (go_at_call 49; refine HK.out.mono ?_; rintro _ w3 ⟨rfl, hb3⟩; have HB3 := hid hb3; clear hb3) | (go_at_call 55; refine (keep_any (HCR.out _ HB3.out) t m).mono ?_; rintro _ w4 ⟨rfl, hk4, hf4⟩; have HX := hid ((HCN.out.below HB3.out).next (by rw [HR3.out]; exact hk4) hf4 (by decide)); have hcell : w4.cell? ⟨w.heap.size + 1, 1, none⟩ = some (St []) := (by rw [cell_of_heap ((hf4.block _ (heap_lt (HCN.out.below HB3.out).sb) (by omega)).trans (HCN.out.below HB3.out).sb)]; rfl); have hfz : w4.frozen? ⟨w.heap.size + 1, 1, none⟩ = false := frozen_of_heap ((hf4.block _ (heap_lt (HCN.out.below HB3.out).sb) (by omega)).trans (HCN.out.below HB3.out).sb) 1; rw [HR3.out] at HX; clear hk4 hf4))
       go_roundg (6 - (1 + 1))
       case measure => omega
       case rel => exact ⟨1 + 1, by omega, rfl, rfl, HX.out⟩
     · obtain rfl : i = 2 := by omega
       generalize hz : ((2 : Nat) : Int) = z
       obtain rfl : (2 : Int) = z := hz
       have hix := ix2 (some ⟨w.heap.size + 1, 0, none⟩) (some ⟨w.heap.size + 1, 1, none⟩) (some ⟨w.heap.size + 1, 2, none⟩) (some ⟨w.heap.size + 1, 3, none⟩) (some ⟨w.heap.size + 1, 4, none⟩) (some ⟨w.heap.size + 1, 5, none⟩) wr
       have HK := hid (kyc_any b (lb 2) 0 (by decide) (by decide) wr HPW)
       have HKR : Hid (kidRes b (lb 2) 0 = ckid b 2) := hid rfl
       rw [HKR.out] at HK
       have hlab : wr.cell? ⟨0, 2, none⟩ = some (St (lb 2)) := HLW 2 (by decide)
       have HCR := hid (fun (W : World) (hb : Below wr.heap.size wr W) => (HCN.out.below hb).ke)
       clear HKR HPW HLW hi hil
       generalize hlk : lb 2 = L at hlab HK
       clear hlk
       obtain ⟨⟨t, m⟩, hr⟩ : ∃ r, ckid b 2 = r := ⟨_, rfl⟩
       have HR3 := hid hr
       rw [hr] at HK
       clear hr
       go_wp2_with (first | (go_at_call 49; refine HK.out.mono ?_; rintro _ w3 ⟨rfl, hb3⟩; have HB3 := hid hb3; clear hb3) | (go_at_call 55; refine (keep_any (HCR.out _ HB3.out) t m).mono ?_; rintro _ w4 ⟨rfl, hk4, hf4⟩; have HX := hid ((HCN.out.below HB3.out).next (by rw [HR3.out]; exact hk4) hf4 (by decide)); have hcell : w4.cell? ⟨w.heap.size + 1, 2, none⟩ = some (St []) := (by rw [cell_of_heap ((hf4.block _ (heap_lt (HCN.out.below HB3.out).sb) (by omega)).trans (HCN.out.below HB3.out).sb)]; rfl); have hfz : w4.frozen? ⟨w.heap.size + 1, 2, none⟩ = false := frozen_of_heap ((hf4.block _ (heap_lt (HCN.out.below HB3.out).sb) (by omega)).trans (HCN.out.below HB3.out).sb) 2; rw [HR3.out] at HX; clear hk4 hf4))
       go_roundg (6 - (2 + 1))
       case measure => omega
       case rel => exact ⟨2 + 1, by omega, rfl, rfl, HX.out⟩
     · obtain rfl : i = 3 := by omega
       generalize hz : ((3 : Nat) : Int) = z
       obtain rfl : (3 : Int) = z := hz
       have hix := ix3 (some ⟨w.heap.size + 1, 0, none⟩) (some ⟨w.heap.size + 1, 1, none⟩) (some ⟨w.heap.size + 1, 2, none⟩) (some ⟨w.heap.size + 1, 3, none⟩) (some ⟨w.heap.size + 1, 4, none⟩) (some ⟨w.heap.size + 1, 5, none⟩) wr
       have HK := hid (kyc_any b (lb 3) 0 (by decide) (by decide) wr HPW)
       have HKR : Hid (kidRes b (lb 3) 0 = ckid b 3) := hid rfl
       rw [HKR.out] at HK
       have hlab : wr.cell? ⟨0, 3, none⟩ = some (St (lb 3)) := HLW 3 (by decide)
       have HCR := hid (fun (W : World) (hb : Below wr.heap.size wr W) => (HCN.out.below hb).ke)
       clear HKR HPW HLW hi hil
       generalize hlk : lb 3 = L at hlab HK
       clear hlk
       obtain ⟨⟨t, m⟩, hr⟩ : ∃ r, ckid b 3 = r := ⟨_, rfl⟩
       have HR3 := hid hr
       rw [hr] at HK
       clear hr
       go_wp2_with (first | (go_at_call 49; refine HK.out.mono ?_; rintro _ w3 ⟨rfl, hb3⟩; have HB3 := hid hb3; clear hb3) | (go_at_call 55; refine (keep_any (HCR.out _ HB3.out) t m).mono ?_; rintro _ w4 ⟨rfl, hk4, hf4⟩; have HX := hid ((HCN.out.below HB3.out).next (by rw [HR3.out]; exact hk4) hf4 (by decide)); have hcell : w4.cell? ⟨w.heap.size + 1, 3, none⟩ = some (St []) := (by rw [cell_of_heap ((hf4.block _ (heap_lt (HCN.out.below HB3.out).sb) (by omega)).trans (HCN.out.below HB3.out).sb)]; rfl); have hfz : w4.frozen? ⟨w.heap.size + 1, 3, none⟩ = false := frozen_of_heap ((hf4.block _ (heap_lt (HCN.out.below HB3.out).sb) (by omega)).trans (HCN.out.below HB3.out).sb) 3; rw [HR3.out] at HX; clear hk4 hf4))
       go_roundg (6 - (3 + 1))
       case measure => omega
       case rel => exact ⟨3 + 1, by omega, rfl, rfl, HX.out⟩
     · obtain rfl : i = 4 := by omega
       generalize hz : ((4 : Nat) : Int) = z
       obtain rfl : (4 : Int) = z := hz
       have hix := ix4 (some ⟨w.heap.size + 1, 0, none⟩) (some ⟨w.heap.size + 1, 1, none⟩) (some ⟨w.heap.size + 1, 2, none⟩) (some ⟨w.heap.size + 1, 3, none⟩) (some ⟨w.heap.size + 1, 4, none⟩) (some ⟨w.heap.size + 1, 5, none⟩) wr
       have HK := hid (kyc_any b (lb 4) 0 (by decide) (by decide) wr HPW)
       have HKR : Hid (kidRes b (lb 4) 0 = ckid b 4) := hid rfl
       rw [HKR.out] at HK
       have hlab : wr.cell? ⟨0, 4, none⟩ = some (St (lb 4)) := HLW 4 (by decide)
       have HCR := hid (fun (W : World) (hb : Below wr.heap.size wr W) => (HCN.out.below hb).ke)
       clear HKR HPW HLW hi hil
       generalize hlk : lb 4 = L at hlab HK
       clear hlk
       obtain ⟨⟨t, m⟩, hr⟩ : ∃ r, ckid b 4 = r := ⟨_, rfl⟩
       have HR3 := hid hr
       rw [hr] at HK
       clear hr
       go_wp2_with (first | (go_at_call 49; refine HK.out.mono ?_; rintro _ w3 ⟨rfl, hb3⟩; have HB3 := hid hb3; clear hb3) | (go_at_call 55; refine (keep_any (HCR.out _ HB3.out) t m).mono ?_; rintro _ w4 ⟨rfl, hk4, hf4⟩; have HX := hid ((HCN.out.below HB3.out).next (by rw [HR3.out]; exact hk4) hf4 (by decide)); have hcell : w4.cell? ⟨w.heap.size + 1, 4, none⟩ = some (St []) := (by rw [cell_of_heap ((hf4.block _ (heap_lt (HCN.out.below HB3.out).sb) (by omega)).trans (HCN.out.below HB3.out).sb)]; rfl); have hfz : w4.frozen? ⟨w.heap.size + 1, 4, none⟩ = false := frozen_of_heap ((hf4.block _ (heap_lt (HCN.out.below HB3.out).sb) (by omega)).trans (HCN.out.below HB3.out).sb) 4; rw [HR3.out] at HX; clear hk4 hf4))
       go_roundg (6 - (4 + 1))
       case measure => omega
       case rel => exact ⟨4 + 1, by omega, rfl, rfl, HX.out⟩
     · obtain rfl : i = 5 := by omega
       generalize hz : ((5 : Nat) : Int) = z
       obtain rfl : (5 : Int) = z := hz
       have hix := ix5 (some ⟨w.heap.size + 1, 0, none⟩) (some ⟨w.heap.size + 1, 1, none⟩) (some ⟨w.heap.size + 1, 2, none⟩) (some ⟨w.heap.size + 1, 3, none⟩) (some ⟨w.heap.size + 1, 4, none⟩) (some ⟨w.heap.size + 1, 5, none⟩) wr
       have HK := hid (kyc_any b (lb 5) 0 (by decide) (by decide) wr HPW)
       have HKR : Hid (kidRes b (lb 5) 0 = ckid b 5) := hid rfl
       rw [HKR.out] at HK
       have hlab : wr.cell? ⟨0, 5, none⟩ = some (St (lb 5)) := HLW 5 (by decide)
       have HCR := hid (fun (W : World) (hb : Below wr.heap.size wr W) => (HCN.out.below hb).ke)
       clear HKR HPW HLW hi hil
       generalize hlk : lb 5 = L at hlab HK
       clear hlk
       obtain ⟨⟨t, m⟩, hr⟩ : ∃ r, ckid b 5 = r := ⟨_, rfl⟩
       have HR3 := hid hr
       rw [hr] at HK
       clear hr
       go_wp2_with (first | (go_at_call 49; refine HK.out.mono ?_; rintro _ w3 ⟨rfl, hb3⟩; have HB3 := hid hb3; clear hb3) | (go_at_call 55; refine (keep_any (HCR.out _ HB3.out) t m).mono ?_; rintro _ w4 ⟨rfl, hk4, hf4⟩; have HX := hid ((HCN.out.below HB3.out).next (by rw [HR3.out]; exact hk4) hf4 (by decide)); have hcell : w4.cell? ⟨w.heap.size + 1, 5, none⟩ = some (St []) := (by rw [cell_of_heap ((hf4.block _ (heap_lt (HCN.out.below HB3.out).sb) (by omega)).trans (HCN.out.below HB3.out).sb)]; rfl); have hfz : w4.frozen? ⟨w.heap.size + 1, 5, none⟩ = false := frozen_of_heap ((hf4.block _ (heap_lt (HCN.out.below HB3.out).sb) (by omega)).trans (HCN.out.below HB3.out).sb) 5; rw [HR3.out] at HX; clear hk4 hf4))
       go_roundg (6 - (5 + 1))
       case measure => omega
       case rel => exact ⟨5 + 1, by omega, rfl, rfl, HX.out⟩
   · obtain rfl : i = 6 := by omega
     generalize hz : ((6 : Nat) : Int) = z
     obtain rfl : (6 : Int) = z := hz
     have hke := HCN.out.ke
     generalize chanErr b e 6 = er at hke HR2
     have v1 : wr.cell? ⟨w.heap.size + 2, 0, none⟩ = some (.int .i64 (er : Int)) := hke.vcell
     have hrb : wr.heap[w.heap.size]? = some (.cells #[St [], St [], St [], St [], St [], St []] 24 (0, 0)) := (hke.bel.block _ (heap_lt HR0.out)).trans HR0.out
     have hgb := HCN.out.sb
     have cr : ∀ o, wr.cell? ⟨w.heap.size, o, none⟩ = (#[St [], St [], St [], St [], St [], St []] : Array Value)[o]? := fun o => cell_of_heap hrb o
     have c0 : wr.cell? ⟨w.heap.size, 0, none⟩ = some (St []) := cr 0
     have c1 : wr.cell? ⟨w.heap.size, 1, none⟩ = some (St []) := cr 1
     have c2 : wr.cell? ⟨w.heap.size, 2, none⟩ = some (St []) := cr 2
     have c3 : wr.cell? ⟨w.heap.size, 3, none⟩ = some (St []) := cr 3
     have c4 : wr.cell? ⟨w.heap.size, 4, none⟩ = some (St []) := cr 4
     have c5 : wr.cell? ⟨w.heap.size, 5, none⟩ = some (St []) := cr 5
     have fr : ∀ o, wr.frozen? ⟨w.heap.size, o, none⟩ = false := fun o => frozen_of_heap hrb o
     have cg : ∀ o, wr.cell? ⟨w.heap.size + 1, o, none⟩ = (curS b 6)[o]? := fun o => cell_of_heap hgb o
     have g0 : wr.cell? ⟨w.heap.size + 1, 0, none⟩ = some (St (ckid b 0).1) := cg 0
     have g1 : wr.cell? ⟨w.heap.size + 1, 1, none⟩ = some (St (ckid b 1).1) := cg 1
     have g2 : wr.cell? ⟨w.heap.size + 1, 2, none⟩ = some (St (ckid b 2).1) := cg 2
     have g3 : wr.cell? ⟨w.heap.size + 1, 3, none⟩ = some (St (ckid b 3).1) := cg 3
     have g4 : wr.cell? ⟨w.heap.size + 1, 4, none⟩ = some (St (ckid b 4).1) := cg 4
     have g5 : wr.cell? ⟨w.heap.size + 1, 5, none⟩ = some (St (ckid b 5).1) := cg 5
     have HBW := hid (HB.out.trans (hke.bel.mono HB.out.size))
     generalize (ckid b 0).1 = t0 at g0 HR2
     generalize (ckid b 1).1 = t1 at g1 HR2
     generalize (ckid b 2).1 = t2 at g2 HR2
     generalize (ckid b 3).1 = t3 at g3 HR2
     generalize (ckid b 4).1 = t4 at g4 HR2
     generalize (ckid b 5).1 = t5 at g5 HR2
     clear cr cg hrb hgb hke HB HR0 HCN HCN0 HP0 HL0 HPW HLW hi hil
     by_cases he : er = 0
     · subst he
       have HP2 : Hid (R = (⟨t0, t1, t2, t3, t4, t5⟩, 0)) := hid (by rw [HR2.out]; rfl)
       clear HR2
       go_wp2_with fail
       refine bodyPost_ret (v := .tuple #[.agg #[St t0, St t1, St t2, St t3, St t4, St t5], .int .i64 0]) (by simp [results, Tryz.results21, go_sem, c0, c1, c2, c3, c4, c5]) rfl ⟨by rw [HP2.out]; rfl, ?_⟩
       exact (((((HBW.out.setCell (by simp) _).setCell (by simp) _).setCell (by simp) _).setCell (by simp) _).setCell (by simp) _).setCell (by simp) _
     · have HP2 : Hid (R = (S6z, er)) := hid (by rw [HR2.out, if_neg he])
       have q1 : ((er : Int) == 0) = false := by simpa using he
       have q2 : ¬ (er : Int) = 0 := by omega
       clear HR2 he
       go_wp2_with fail
       go_region
       all_goals (try go_wp2_with fail)
       all_goals refine bodyPost_ret (v := .tuple #[.agg #[St [], St [], St [], St [], St [], St []], .int .i64 (er : Int)]) (by simp [results, Tryz.results21, go_sem, c0, c1, c2, c3, c4, c5]) rfl ⟨by rw [HP2.out]; rfl, ?_⟩
       all_goals exact ((((((HBW.out.setCell (by simp) _).setCell (by simp) _).setCell (by simp) _).setCell (by simp) _).setCell (by simp) _).setCell (by simp) _).drew
end Go.Proofs.YtkifchjpgdmcoaaGreatDoor
