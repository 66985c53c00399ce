/- What may be wrong with a text: its check. -/
import Derived.Test.YtelfogdcijmenaaDoorFltB
namespace Go.Proofs.YtelfogdcijmenaaDoor
open Go.RowKit

set_option maxRecDepth 100000 in
set_option maxHeartbeats 4000000 in
theorem fault6 {w : World} {B bH : Nat} {s : Bs} {W : World} (h : Dc w B bH s 6 W) : FaultOk w B bH s 6 W := by
  have hc := h.hc (by omega)
  have HD := hid h
  have h0 := h.pass 0 (by omega)
  have h1 := h.pass 1 (by omega)
  have hsl : s.length ≤ 32768 := by simpa [test] using h0
  have htl := tail_len s
  have hhl := head_le s
  have hwl := words_len s
  have HL := hid (lower_any (headB s) W (by omega) (ascii_of h1 head_mem))
  have HCL := hid (fun W' => clone_any (low (headB s)) W' (by rw [low_len]; omega))
  have HHW := hid (fun W' => hw_any (low (headB s)) W' (by rw [low_len]; omega))
  obtain ⟨n, hn⟩ : ∃ n, n = (wordsB s).length := ⟨_, rfl⟩
  obtain ⟨hl, hhl2⟩ : ∃ k, k = (headW (low (headB s))).length := ⟨_, rfl⟩
  have HHB : Hid (hl ≤ 100000) := hid (by rw [hhl2, head_len, low_len]; omega)
  rw [← hhl2] at HHW
  have HHL := hid hhl2
  have HN := hid hn
  have hn6 : n ≤ 32768 := by omega
  have HHS : Hid (bH + 4 ≤ W.heap.size) := hid (by have := lt_of_block h.fC; omega)
  obtain ⟨aw, cw, hwc, hwo⟩ := h.wC (by omega)
  rw [← hn] at hwc hwo
  have HWO := hid hwo
  have hhc := h.hC
  rw [if_pos (by omega)] at hhc
  have HHC := hid hhc
  have HWC := hid hwc
  have HLB := hid h.lB
  have HLT := hid h.lt
  show Calls Tryd.prog 39 #[pt bH, pt (bH + 2)] W _
  have HT : Hid (test s 6 = decide (chk 1 (headW (low (headB s)) ++ wordsB s) ≠ 1)) := hid rfl
  obtain ⟨b, hb⟩ : ∃ b, b = test s 6 := ⟨_, rfl⟩
  rw [← hb] at HT ⊢
  have HBB := hid hb
  obtain ⟨lh, hlh⟩ : ∃ lh, lh = low (headB s) := ⟨_, rfl⟩
  rw [← hlh] at HL HCL HHW HHL HT
  have HLH := hid hlh
  clear h h0 h1 hwl hn htl hb hhl hhl2 hwc hwo hhc hlh
  go_enter Tryd.func39, Tryd.ntmps39
  go_wp2_with fail
  refine HL.out.mono ?_
  rintro e w1 ⟨rfl, hb1⟩
  have HB1 := hid hb1
  clear hb1 hc
  go_wp2_with fail
  refine (HCL.out w1).mono ?_
  rintro e w2 ⟨rfl, hb2⟩
  have HB2 := hid (two_below HB1.out hb2)
  have hw2 : w2.heap[bH]? = some (.cells #[St (headB s)] 9 (0, 0)) := (HB2.out.block _ (by have := HHS.out; omega)).trans HHC.out
  have hcc : w2.cell? ⟨bH, 0, none⟩ = some (St (headB s)) := by rw [cell_of_heap hw2]; rfl
  have hfz : w2.frozen? ⟨bH, 0, none⟩ = false := frozen_of_heap hw2 0
  have HS3 : Hid ((w2.setCell ⟨bH, 0, none⟩ (St lh)).heap[bH]? = some (.cells #[St lh] 9 (0, 0))) := hid (by rw [heap_setCell_same hw2]; rfl)
  have HKP : Hid (∀ k, k < W.heap.size → k ≠ bH → (w2.setCell ⟨bH, 0, none⟩ (St lh)).heap[k]? = W.heap[k]?) := hid (fun k hk hkn => (Below.heap_setCell _ _ _ _ hkn).trans (HB2.out.block k hk))
  clear hb2 hw2
  go_wp2_with fail
  have HFR := hid ((Fr.of_below (bH := bH) HB2.out).trans (Fr.set0 w2 (St lh)))
  have HBW := hid (below_set (HD.out.bel.trans (HB2.out.mono HD.out.bel.size)) (by have := HLB.out; have := HLT.out; omega : w.heap.size ≤ bH) 0 (St lh))
  have HMX := hid ((HD.out.mix.below HB2.out).set (g := bH) (k := 0) (by have := HLT.out; omega) (St lh))
  have HW3 : Hid ((w2.setCell ⟨bH, 0, none⟩ (St lh)).heap[bH + 2]? = some (.cells #[.slice aw n cw] 22 (0, 0))) := hid ((HKP.out _ (by have := HHS.out; omega) (by omega)).trans HWC.out)
  have HO3 := hid (ownsRow_same (w' := w2.setCell ⟨bH, 0, none⟩ (St lh)) HWO.out (fun g hg => HKP.out g (HWO.out.lt g hg).2 (by have := (HWO.out.lt g hg).1; omega)))
  generalize w2.setCell ⟨bH, 0, none⟩ (St lh) = w3 at *
  clear HB1 HB2 HCL HL hcc hfz
  have HCE : Hid (∀ W', Below w3.heap.size w3 W' → W'.cell? ⟨bH, 0, none⟩ = some (St lh) ∧ W'.cell? ⟨bH + 2, 0, none⟩ = some (.slice aw n cw)) := hid (fun W' hb => by
    have k1 := (hb.block _ (lt_of_block HS3.out)).trans HS3.out
    have k2 := (hb.block _ (lt_of_block HW3.out)).trans HW3.out
    exact ⟨by rw [cell_of_heap k1]; rfl, by rw [cell_of_heap k2]; rfl⟩)
  have HE0 := hid (HCE.out w3 (Below.refl _ _))
  obtain ⟨al, hal⟩ : ∃ al, al = headW lh ++ wordsB s := ⟨_, rfl⟩
  rw [← hal] at HT
  have HAL := hid hal
  have HFL : Hid ([headW lh, wordsB s].flatten = al) := hid (by rw [hal]; simp)
  obtain ⟨m, hm⟩ : ∃ m, m = al.length := ⟨_, rfl⟩
  have HML := hid hm
  have HM : Hid (m ≤ 1000000) := hid (by rw [hm, hal, List.length_append, ← HHL.out, ← HN.out]; have := HHB.out; omega)
  obtain ⟨C, hC⟩ : ∃ C, C = chk 1 al := ⟨_, rfl⟩
  have HCC := hid hC
  have HC24 : Hid (∀ w4 a4 c4, Below w3.heap.size w3 w4 → w4.ownsRow w3.heap.size 5 1 (.slice a4 hl c4) hl (bcs (headW lh)) → Calls Tryd.prog 24 #[.slice (some ⟨w4.heap.size, 0, none⟩) 2 2] (w4.alloc (.cells #[.slice a4 hl c4, .slice aw n cw] 22)) fun e w' => ∃ ao cap, e = .returned (.slice ao m cap) ∧ Sl w' (.slice ao m cap) al ∧ Below w3.heap.size w3 w') := hid (fun w4 a4 c4 hb4 ho4 => by
    have hs4 := Sl.own ho4 HHL.out
    have hsw := (Sl.own HO3.out HN.out).below hb4
    have hal2 := (Below.refl w4.heap.size w4).alloc (Nat.le_refl _) (.cells #[.slice a4 hl c4, .slice aw n cw] 22)
    refine (cat_any _ _ _ (sls2 w4 _ _ _ _ hs4 hsw) (by rw [HFL.out, ← HML.out]; have := HM.out; omega) (by simp)).mono ?_
    rintro e w5 ⟨a5, c5, rfl, ho5, hb5⟩
    rw [HFL.out, ← HML.out] at ho5 ⊢
    exact ⟨a5, c5, rfl, Sl.own ho5 HML.out, two_below (two_below hb4 hal2) hb5⟩)
  have HC41 : Hid (∀ w5 a5 c5, Below w3.heap.size w3 w5 → Sl w5 (.slice a5 m c5) al → Calls Tryd.prog 41 #[.slice a5 m c5] w5 fun e w' => e = .returned (.int .u32 (C : Int)) ∧ w' = w5) := hid (fun w5 a5 c5 hb5 hs5 => by
    have := chk_any al _ w5 hs5 (by rw [← HML.out]; have := HM.out; omega) (HMX.out.below hb5)
    rw [← HCC.out] at this
    exact this)
  have HC42 : Hid (∀ W', Below w3.heap.size w3 W' → Calls Tryd.prog 42 #[St lh] W' fun e w' => ∃ a4 c4, e = .returned (.slice a4 hl c4) ∧ w'.ownsRow w3.heap.size 5 1 (.slice a4 hl c4) hl (bcs (headW lh)) ∧ Below w3.heap.size w3 w') := hid (fun W' hb => (HHW.out W').mono (by
    rintro e w4 ⟨a4, c4, rfl, ho4, hb4⟩
    exact ⟨a4, c4, rfl, own_mono ho4 hb.size, two_below hb hb4⟩))
  have HTB : Hid (b = ((C : Int) != 1)) := hid (by rw [HT.out, ← HCC.out]; by_cases h : C = 1 <;> simp [h]; omega)
  clear hal hm hC HCC HML HFL HHW HHL HT HO3 HWO
  go_region_held3 (fun wx => wx.cell? ⟨bH, 0, none⟩ = some (St lh) ∧ wx.cell? ⟨bH + 2, 0, none⟩ = some (.slice aw n cw)) (first | exact HE0.out | exact HE4.out | exact HE4b.out _ | exact HE5.out) (first | (go_at_call 42; refine (HC42.out _ (below_drewN (Below.refl _ _) 1)).mono ?_; rintro e w4 ⟨a4, c4, rfl, ho4, hb4⟩; have HB4 := hid hb4; have HO4 := hid ho4; have HE4 := hid (HCE.out w4 hb4); have HE4b := hid (fun o => HCE.out (w4.alloc o) (hb4.alloc hb4.size o)); clear ho4 hb4) | (go_at_call 24; refine (HC24.out w4 a4 c4 HB4.out HO4.out).mono ?_; rintro e w5 ⟨a5, c5, rfl, hs5, hb5⟩; have HB5 := hid hb5; have HS5 := hid hs5; have HE5 := hid (HCE.out w5 hb5); clear hs5 hb5) | (go_at_call 41; refine (HC41.out w5 a5 c5 HB5.out HS5.out).mono ?_; rintro e w6 ⟨rfl, rfl⟩))
  go_wp2_with fail
  go_ret
  refine ⟨by rw [HTB.out]; rfl, HFR.out.trans (Fr.of_below HB5.out), HBW.out.trans (HB5.out.mono HBW.out.size), fun ht => ?_⟩
  have hD := HD.out
  have hh := HHS.out
  have hlt := HLT.out
  have keep : ∀ k, k < W.heap.size → k ≠ bH → w6.heap[k]? = W.heap[k]? := fun k hk hkn => (HB5.out.block k (Nat.lt_of_lt_of_le hk HFR.out.1)).trans (HKP.out k hk hkn)
  refine ⟨hD.lB, hD.lt, (keep _ (by omega) (by omega)).trans hD.sC, ?_, (keep _ (by omega) (by omega)).trans hD.tC, fun h6 => by omega, fun _ => ?_, (keep _ (by omega) (by omega)).trans hD.fC, fun j hj => ?_, HBW.out.trans (HB5.out.mono HBW.out.size), HMX.out.below HB5.out⟩
  · rw [if_neg (by omega), ← HLH.out]
    exact (HB5.out.block _ (lt_of_block HS3.out)).trans HS3.out
  · obtain ⟨a, c, k1, k2⟩ := hD.wC (by omega)
    exact ⟨a, c, (keep _ (by omega) (by omega)).trans k1, ownsRow_same k2 (fun g hg => keep g (k2.lt g hg).2 (by have := (k2.lt g hg).1; omega))⟩
  · by_cases e : j = 6
    · rw [e, ← HBB.out]; exact ht
    · exact hD.pass j (by omega)
end Go.Proofs.YtelfogdcijmenaaDoor
