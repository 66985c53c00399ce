/- The document's word on what a message may be. -/
import Derived.Test.YtdhmmllpioppfaaGreatVUnkAll
import Derived.Test.YtdhmmllpioppfaaGreatVRAll
import Derived.Test.YtdhmmllpioppfaaGreatKTab
import Derived.Test.YtdhmmllpioppfaaGreatWMay
namespace Go.Proofs.YtdhmmllpioppfaaGreat.V
open Go.RowKit

/-- what the document's Right does -/
def RightR : Prop := ∀ (t : Bs) (W : World), Calls Tryz.prog 40 #[St t] W fun e w' => e = .returned (.bool (Tm.deep t != 0)) ∧ Below W.heap.size W w'
set_option maxRecDepth 100000 in
set_option maxHeartbeats 8000000 in
theorem rmay_any (hrt : RightR) (w : World) (nv tv mv : Value) (m : Msg) (h : Ms w nv tv mv m) (hl : MLen m) :
    Calls Tryz.prog 21 #[Mv m.k m.ch nv tv m.tx mv] w fun e w' => e = .returned (.bool (mayB m)) ∧ Below w.heap.size w w' := by
  have HRT := hid hrt
  obtain ⟨an, cn, rfl, hu1⟩ := h.ns
  clear hu1
  obtain ⟨at', ct, rfl, hu2⟩ := h.ts
  clear hu2
  obtain ⟨am, cm, rfl⟩ := h.mo.shape
  obtain ⟨wb, hwb⟩ : ∃ wb, wb = w.alloc (.cells #[.int .u16 (m.k : Int), St m.ch, .slice an m.ns.length cn, .slice at' m.ts.length ct, St m.tx, .slice am m.mo.length cm] 27) := ⟨_, rfl⟩
  have HW0 : Hid (Below w.heap.size w wb) := hid (hwb ▸ (Below.refl _ _).alloc (Nat.le_refl _) _)
  have hx : wb.heap[w.heap.size]? = some (.cells #[.int .u16 (m.k : Int), St m.ch, .slice an m.ns.length cn, .slice at' m.ts.length ct, St m.tx, .slice am m.mo.length cm] 27) := hwb ▸ heap_alloc_new _ _
  have HCE : Hid (∀ W, Below wb.heap.size wb W → W.cell? ⟨w.heap.size, 0, none⟩ = some (.int .u16 (m.k : Int)) ∧ W.cell? ⟨w.heap.size, 1, none⟩ = some (St m.ch) ∧ W.cell? ⟨w.heap.size, 2, none⟩ = some (.slice an m.ns.length cn) ∧ W.cell? ⟨w.heap.size, 3, none⟩ = some (.slice at' m.ts.length ct) ∧ W.cell? ⟨w.heap.size, 4, none⟩ = some (St m.tx) ∧ W.cell? ⟨w.heap.size, 5, none⟩ = some (.slice am m.mo.length cm)) := hid (fun W hb => by
    have hy := (hb.block _ (lt_of_block hx)).trans hx
    exact ⟨(cell_of_heap hy 0).trans rfl, (cell_of_heap hy 1).trans rfl, (cell_of_heap hy 2).trans rfl, (cell_of_heap hy 3).trans rfl, (cell_of_heap hy 4).trans rfl, (cell_of_heap hy 5).trans rfl⟩)
  have HS := hid (fun W (hb : Below wb.heap.size wb W) => rstream_any W _ m.mo (h.mo.below (two_low HW0.out hb)) hl.mo)
  have HU := hid (fun W (hb : Below wb.heap.size wb W) => runknown_none W _ m.mo (h.mo.below (two_low HW0.out hb)) hl.mo.1 (fun i h => (hl.mo.2 i h).1))
  have HTC : Hid (∀ i (h : i < m.ts.length), ∃ g o, at' = some ⟨g, o, none⟩ ∧ ∀ W, Below wb.heap.size wb W → W.cell? ⟨g, o + i, none⟩ = some (St m.ts[i])) := hid (fun i hi => by
    obtain ⟨g, o, e, hg, hc⟩ := h.ts.cells i hi
    exact ⟨g, o, e, fun W hb => by rw [← hc]; exact World.cell?_of_block ((two_low HW0.out hb).block g hg)⟩)
  have HC := hid (fun W => rcounts_any (m.k : Int) W)
  obtain ⟨R, hR⟩ : ∃ R, R = mayB m := ⟨_, rfl⟩
  rw [← hR]
  have HRR := hid hR
  have hs1 : (⟨m.ch.toArray⟩ : ByteArray).size = m.ch.length := by simp [ByteArray.size]
  have hs2 : (⟨m.tx.toArray⟩ : ByteArray).size = m.tx.length := by simp [ByteArray.size]
  obtain ⟨s1, s2, hse⟩ : ∃ s1 s2, streamR m.mo = (s1, s2) := ⟨_, _, rfl⟩
  have HSE := hid hse
  rw [hse] at HS
  obtain ⟨u, hue⟩ : ∃ u, (m.mo.any fun r => r.1 % 2 == 0) = u := ⟨_, rfl⟩
  have HUE := hid hue
  rw [hue] at HU
  obtain ⟨a, b, f, hce⟩ : ∃ a b f, cntK (m.k : Int) = (a, b, f) := ⟨_, _, _, rfl⟩
  rw [hce] at HC
  have HFT : Hid (fitB m.k m.ns.length m.ts.length = if f = true then decide ((m.ns.length : Int) = a) && decide ((m.ts.length : Int) = b) else decide ((m.k : Int) % 2 = 1) && (decide ((m.ns.length : Int) ≤ 32) && decide ((m.ts.length : Int) ≤ 32))) := hid (by
    unfold fitB
    rw [hce]
    have e0 : decide (m.k % 2 = 1) = decide ((m.k : Int) % 2 = 1) := by rw [Bool.eq_iff_iff]; simp; omega
    have e1 : decide (m.ns.length ≤ 32) = decide ((m.ns.length : Int) ≤ 32) := by rw [Bool.eq_iff_iff]; simp; omega
    have e2 : decide (m.ts.length ≤ 32) = decide ((m.ts.length : Int) ≤ 32) := by rw [Bool.eq_iff_iff]; simp; omega
    rw [e0, e1, e2])
  have htm := hl.ts
  clear h hl hR hse hue hce hx
  obtain ⟨t, ht⟩ : ∃ t, t = m.ts.length := ⟨_, rfl⟩
  have HN := hid ht
  obtain ⟨n, hn⟩ : ∃ n, n = m.ns.length := ⟨_, rfl⟩
  have HNS := hid hn
  obtain ⟨q, hq⟩ : ∃ q, q = m.mo.length := ⟨_, rfl⟩
  obtain ⟨cl, hcl⟩ : ∃ c, c = m.ch.length := ⟨_, rfl⟩
  obtain ⟨xl, hxl⟩ : ∃ c, c = m.tx.length := ⟨_, rfl⟩
  have HCL := hid hcl
  have HXL := hid hxl
  rw [← ht] at htm hwb HCE HFT ⊢
  rw [← hn] at hwb HCE HFT ⊢
  rw [← hq] at hwb HCE HS HU ⊢
  rw [← hcl] at hs1
  rw [← hxl] at hs2
  have HTM := hid htm
  clear ht hn hq hcl hxl htm
  cases f with
  | true =>
    rw [if_pos rfl] at HFT
    by_cases h1 : (n : Int) = a
    · by_cases h2 : (t : Int) = b
      · have HFI : Hid (fitB m.k m.ns.length m.ts.length = true) := hid (by rw [← HN.out, ← HNS.out, HFT.out]; simp [h1, h2])
        clear HFT
        subst h1 h2
        go_enter Tryz.func21, Tryz.ntmps21
        go_wp2_with fail
        rw [← hwb]
        refine (HC.out wb).mono ?_
        rintro e w1 ⟨rfl, hb1⟩
        have HB1 := hid hb1
        obtain ⟨c0, c1, c2, c3, c4, c5⟩ := HCE.out w1 hb1
        clear hb1
        go_wp2_with fail
        go_loopg [6] t (fun gg v6 wr => ∃ i : Nat, i ≤ t ∧ gg = t - i ∧ v6 = .int .i64 (i : Int) ∧ Below wb.heap.size wb wr ∧ (m.ts.take i).all (fun t => Tm.deep t != 0) = true)
        case atStart => exact ⟨0, by omega, by omega, rfl, HB1.out, by simp⟩
        case round =>
          obtain ⟨i, hi, rfl, rfl, hbel, hal⟩ := hrel
          have HBE := hid hbel
          have HAL := hid hal
          obtain ⟨d0, d1, d2, d3, d4, d5⟩ := HCE.out wr hbel
          clear hbel hal
          have htm := HTM.out
          by_cases hil : i < t
          · have hi1 : (i : Int) < (t : Int) := by omega
            have hik : i < m.ts.length := by rw [← HN.out]; exact hil
            obtain ⟨g, o, hao, hce⟩ := HTC.out i hik
            subst hao
            have hc1 := hce wr HBE.out
            have HRI := hid (HRT.out m.ts[i] wr)
            have HNX : Hid ((Tm.deep m.ts[i] != 0) = true → (m.ts.take (i + 1)).all (fun t => Tm.deep t != 0) = true) := hid (fun hx => by rw [List.take_succ_eq_append_getElem hik, List.all_append, HAL.out]; simpa using hx)
            have HNO : Hid ((Tm.deep m.ts[i] != 0) = false → m.ts.all (fun t => Tm.deep t != 0) = false) := hid (fun hx => by
              rw [List.all_eq_false]
              exact ⟨m.ts[i], List.getElem_mem hik, by rw [hx]; decide⟩)
            generalize (Tm.deep m.ts[i] != 0) = b at HRI HNX HNO
            generalize m.ts[i] = tm at hc1 HRI
            clear hce
            cases b with
            | false =>
              have HNN := hid (HNO.out rfl)
              go_wp2_with fail
              refine HRI.out.mono ?_
              rintro e w2 ⟨rfl, hb2⟩
              have HB2 := hid (two_low HBE.out hb2)
              clear hb2
              go_wp2_with fail
              go_ret
              have hR : R = false := by rw [HRR.out]; unfold mayB; rw [HNN.out]; simp
              exact ⟨by rw [hR]; rfl, two_low HW0.out HB2.out⟩
            | true =>
              have HNN := hid (HNX.out rfl)
              go_wp2_with fail
              refine HRI.out.mono ?_
              rintro e w2 ⟨rfl, hb2⟩
              have HB2 := hid (two_low HBE.out hb2)
              clear hb2
              go_wp2_with fail
              go_roundg (t - (i + 1))
              case measure => omega
              case rel => exact ⟨i + 1, by omega, rfl, by go_num, HB2.out, HNN.out⟩
          · have hi1 : ¬ (i : Int) < (t : Int) := by omega
            have HALL : Hid (m.ts.all (fun t => Tm.deep t != 0) = true) := hid (by
              have h9 := HAL.out
              rw [List.take_of_length_le (by rw [← HN.out]; omega)] at h9
              exact h9)
            have HSW := hid (HS.out wr HBE.out)
            have HRE : Hid (R = (decide ((cl : Int) ≤ 100) && (decide ((xl : Int) ≤ 4096) && (decide (s2 = 0) && !u)))) := hid (by
              rw [HRR.out]
              unfold mayB moreB
              rw [HFI.out, HALL.out, HSE.out, HUE.out, ← HCL.out, ← HXL.out]
              have e1 : decide (cl ≤ 100) = decide ((cl : Int) ≤ 100) := by rw [Bool.eq_iff_iff]; simp; omega
              have e2 : decide (xl ≤ 4096) = decide ((xl : Int) ≤ 4096) := by rw [Bool.eq_iff_iff]; simp; omega
              rw [e1, e2]
              simp)
            clear hil hi HAL
            by_cases h1 : (cl : Int) ≤ 100
            · by_cases h2 : (xl : Int) ≤ 4096
              · by_cases h3 : s2 = 0
                · subst h3
                  go_wp2_with fail
                  refine HSW.out.mono ?_
                  rintro e w3 ⟨ao3, cap3, rfl, _, hb3⟩
                  have HB3 := hid (two_low HBE.out hb3)
                  obtain ⟨d0, d1, d2, d3, d4, d5⟩ := HCE.out w3 HB3.out
                  have HU3 := hid (HU.out w3 HB3.out)
                  clear hb3 HSW
                  go_wp2_with fail
                  refine HU3.out.mono ?_
                  rintro e w4 ⟨rfl, hb4⟩
                  have HB4 := hid (two_low HB3.out hb4)
                  clear hb4
                  go_wp2_with fail
                  go_ret
                  have hR : R = !u := by rw [HRE.out]; simp [h1, h2]
                  exact ⟨by rw [hR]; rfl, two_low HW0.out HB4.out⟩
                · have h4 : ((s2 : Int) == 0) = false := by simpa using h3
                  have h5 : ¬ (s2 : Int) = 0 := by omega
                  go_wp2_with fail
                  refine HSW.out.mono ?_
                  rintro e w3 ⟨ao3, cap3, rfl, _, hb3⟩
                  have HB3 := hid (two_low HBE.out hb3)
                  obtain ⟨d0, d1, d2, d3, d4, d5⟩ := HCE.out w3 HB3.out
                  clear hb3 HSW
                  go_wp2_with fail
                  go_ret
                  have hR : R = false := by rw [HRE.out]; simp [h3]
                  exact ⟨by rw [hR]; rfl, two_low HW0.out HB3.out⟩
              · have hd : decide ((xl : Int) ≤ 4096) = false := by simpa using h2
                go_wp2_with fail
                refine HSW.out.mono ?_
                rintro e w3 ⟨ao3, cap3, rfl, _, hb3⟩
                have HB3 := hid (two_low HBE.out hb3)
                obtain ⟨d0, d1, d2, d3, d4, d5⟩ := HCE.out w3 HB3.out
                clear hb3 HSW
                go_wp2_with fail
                go_ret
                have hR : R = false := by rw [HRE.out, hd]; simp
                exact ⟨by rw [hR]; rfl, two_low HW0.out HB3.out⟩
            · have hd : decide ((cl : Int) ≤ 100) = false := by simpa using h1
              go_wp2_with fail
              refine HSW.out.mono ?_
              rintro e w3 ⟨ao3, cap3, rfl, _, hb3⟩
              have HB3 := hid (two_low HBE.out hb3)
              obtain ⟨d0, d1, d2, d3, d4, d5⟩ := HCE.out w3 HB3.out
              clear hb3 HSW
              go_wp2_with fail
              go_ret
              have hR : R = false := by rw [HRE.out, hd]; simp
              exact ⟨by rw [hR]; rfl, two_low HW0.out HB3.out⟩
      · have h2b : ((t : Int) == b) = false := by simpa using h2
        have HFI : Hid (fitB m.k m.ns.length m.ts.length = false) := hid (by rw [← HN.out, ← HNS.out, HFT.out]; simp [h2])
        clear HFT h2b
        subst h1
        go_enter Tryz.func21, Tryz.ntmps21
        go_wp2_with fail
        rw [← hwb]
        refine (HC.out wb).mono ?_
        rintro e w1 ⟨rfl, hb1⟩
        have HB1 := hid hb1
        obtain ⟨c0, c1, c2, c3, c4, c5⟩ := HCE.out w1 hb1
        clear hb1
        go_wp2_with fail
        go_ret
        have hR : R = false := by rw [HRR.out]; unfold mayB; rw [HFI.out]; simp
        exact ⟨by rw [hR]; rfl, two_low HW0.out HB1.out⟩
    · have h1b : ((n : Int) == a) = false := by simpa using h1
      have HFI : Hid (fitB m.k m.ns.length m.ts.length = false) := hid (by rw [← HN.out, ← HNS.out, HFT.out]; simp [h1])
      clear HFT
      go_enter Tryz.func21, Tryz.ntmps21
      go_wp2_with fail
      rw [← hwb]
      refine (HC.out wb).mono ?_
      rintro e w1 ⟨rfl, hb1⟩
      have HB1 := hid hb1
      obtain ⟨c0, c1, c2, c3, c4, c5⟩ := HCE.out w1 hb1
      clear hb1
      go_wp2_with fail
      go_ret
      have hR : R = false := by rw [HRR.out]; unfold mayB; rw [HFI.out]; simp
      exact ⟨by rw [hR]; rfl, two_low HW0.out HB1.out⟩
  | false =>
    rw [if_neg (by decide)] at HFT
    by_cases h0 : (m.k : Int) % 2 = 1
    · have h0b : ((m.k : Int) % 2 == 0) = false := by rw [h0]; rfl
      by_cases h1 : (n : Int) ≤ 32
      · have h1n : ¬ (32 : Int) < (n : Int) := by omega
        by_cases h2 : (t : Int) ≤ 32
        · have h2n : ¬ (32 : Int) < (t : Int) := by omega
          have HFI : Hid (fitB m.k m.ns.length m.ts.length = true) := hid (by rw [← HN.out, ← HNS.out, HFT.out]; simp [h0, h1, h2])
          clear HFT h1n h2n
          go_enter Tryz.func21, Tryz.ntmps21
          go_wp2_with fail
          rw [← hwb]
          refine (HC.out wb).mono ?_
          rintro e w1 ⟨rfl, hb1⟩
          have HB1 := hid hb1
          obtain ⟨c0, c1, c2, c3, c4, c5⟩ := HCE.out w1 hb1
          clear hb1
          go_wp2_with fail
          go_loopg [6] t (fun gg v6 wr => ∃ i : Nat, i ≤ t ∧ gg = t - i ∧ v6 = .int .i64 (i : Int) ∧ Below wb.heap.size wb wr ∧ (m.ts.take i).all (fun t => Tm.deep t != 0) = true)
          case atStart => exact ⟨0, by omega, by omega, rfl, HB1.out, by simp⟩
          case round =>
            obtain ⟨i, hi, rfl, rfl, hbel, hal⟩ := hrel
            have HBE := hid hbel
            have HAL := hid hal
            obtain ⟨d0, d1, d2, d3, d4, d5⟩ := HCE.out wr hbel
            clear hbel hal
            have htm := HTM.out
            by_cases hil : i < t
            · have hi1 : (i : Int) < (t : Int) := by omega
              have hik : i < m.ts.length := by rw [← HN.out]; exact hil
              obtain ⟨g, o, hao, hce⟩ := HTC.out i hik
              subst hao
              have hc1 := hce wr HBE.out
              have HRI := hid (HRT.out m.ts[i] wr)
              have HNX : Hid ((Tm.deep m.ts[i] != 0) = true → (m.ts.take (i + 1)).all (fun t => Tm.deep t != 0) = true) := hid (fun hx => by rw [List.take_succ_eq_append_getElem hik, List.all_append, HAL.out]; simpa using hx)
              have HNO : Hid ((Tm.deep m.ts[i] != 0) = false → m.ts.all (fun t => Tm.deep t != 0) = false) := hid (fun hx => by
                rw [List.all_eq_false]
                exact ⟨m.ts[i], List.getElem_mem hik, by rw [hx]; decide⟩)
              generalize (Tm.deep m.ts[i] != 0) = b at HRI HNX HNO
              generalize m.ts[i] = tm at hc1 HRI
              clear hce
              cases b with
              | false =>
                have HNN := hid (HNO.out rfl)
                go_wp2_with fail
                refine HRI.out.mono ?_
                rintro e w2 ⟨rfl, hb2⟩
                have HB2 := hid (two_low HBE.out hb2)
                clear hb2
                go_wp2_with fail
                go_ret
                have hR : R = false := by rw [HRR.out]; unfold mayB; rw [HNN.out]; simp
                exact ⟨by rw [hR]; rfl, two_low HW0.out HB2.out⟩
              | true =>
                have HNN := hid (HNX.out rfl)
                go_wp2_with fail
                refine HRI.out.mono ?_
                rintro e w2 ⟨rfl, hb2⟩
                have HB2 := hid (two_low HBE.out hb2)
                clear hb2
                go_wp2_with fail
                go_roundg (t - (i + 1))
                case measure => omega
                case rel => exact ⟨i + 1, by omega, rfl, by go_num, HB2.out, HNN.out⟩
            · have hi1 : ¬ (i : Int) < (t : Int) := by omega
              have HALL : Hid (m.ts.all (fun t => Tm.deep t != 0) = true) := hid (by
                have h9 := HAL.out
                rw [List.take_of_length_le (by rw [← HN.out]; omega)] at h9
                exact h9)
              have HSW := hid (HS.out wr HBE.out)
              have HRE : Hid (R = (decide ((cl : Int) ≤ 100) && (decide ((xl : Int) ≤ 4096) && (decide (s2 = 0) && !u)))) := hid (by
                rw [HRR.out]
                unfold mayB moreB
                rw [HFI.out, HALL.out, HSE.out, HUE.out, ← HCL.out, ← HXL.out]
                have e1 : decide (cl ≤ 100) = decide ((cl : Int) ≤ 100) := by rw [Bool.eq_iff_iff]; simp; omega
                have e2 : decide (xl ≤ 4096) = decide ((xl : Int) ≤ 4096) := by rw [Bool.eq_iff_iff]; simp; omega
                rw [e1, e2]
                simp)
              clear hil hi HAL
              by_cases h1 : (cl : Int) ≤ 100
              · by_cases h2 : (xl : Int) ≤ 4096
                · by_cases h3 : s2 = 0
                  · subst h3
                    go_wp2_with fail
                    refine HSW.out.mono ?_
                    rintro e w3 ⟨ao3, cap3, rfl, _, hb3⟩
                    have HB3 := hid (two_low HBE.out hb3)
                    obtain ⟨d0, d1, d2, d3, d4, d5⟩ := HCE.out w3 HB3.out
                    have HU3 := hid (HU.out w3 HB3.out)
                    clear hb3 HSW
                    go_wp2_with fail
                    refine HU3.out.mono ?_
                    rintro e w4 ⟨rfl, hb4⟩
                    have HB4 := hid (two_low HB3.out hb4)
                    clear hb4
                    go_wp2_with fail
                    go_ret
                    have hR : R = !u := by rw [HRE.out]; simp [h1, h2]
                    exact ⟨by rw [hR]; rfl, two_low HW0.out HB4.out⟩
                  · have h4 : ((s2 : Int) == 0) = false := by simpa using h3
                    have h5 : ¬ (s2 : Int) = 0 := by omega
                    go_wp2_with fail
                    refine HSW.out.mono ?_
                    rintro e w3 ⟨ao3, cap3, rfl, _, hb3⟩
                    have HB3 := hid (two_low HBE.out hb3)
                    obtain ⟨d0, d1, d2, d3, d4, d5⟩ := HCE.out w3 HB3.out
                    clear hb3 HSW
                    go_wp2_with fail
                    go_ret
                    have hR : R = false := by rw [HRE.out]; simp [h3]
                    exact ⟨by rw [hR]; rfl, two_low HW0.out HB3.out⟩
                · have hd : decide ((xl : Int) ≤ 4096) = false := by simpa using h2
                  go_wp2_with fail
                  refine HSW.out.mono ?_
                  rintro e w3 ⟨ao3, cap3, rfl, _, hb3⟩
                  have HB3 := hid (two_low HBE.out hb3)
                  obtain ⟨d0, d1, d2, d3, d4, d5⟩ := HCE.out w3 HB3.out
                  clear hb3 HSW
                  go_wp2_with fail
                  go_ret
                  have hR : R = false := by rw [HRE.out, hd]; simp
                  exact ⟨by rw [hR]; rfl, two_low HW0.out HB3.out⟩
              · have hd : decide ((cl : Int) ≤ 100) = false := by simpa using h1
                go_wp2_with fail
                refine HSW.out.mono ?_
                rintro e w3 ⟨ao3, cap3, rfl, _, hb3⟩
                have HB3 := hid (two_low HBE.out hb3)
                obtain ⟨d0, d1, d2, d3, d4, d5⟩ := HCE.out w3 HB3.out
                clear hb3 HSW
                go_wp2_with fail
                go_ret
                have hR : R = false := by rw [HRE.out, hd]; simp
                exact ⟨by rw [hR]; rfl, two_low HW0.out HB3.out⟩
        · have h2n : (32 : Int) < (t : Int) := by omega
          have hd : decide ((t : Int) ≤ 32) = false := by simpa using h2
          have HFI : Hid (fitB m.k m.ns.length m.ts.length = false) := hid (by rw [← HN.out, ← HNS.out, HFT.out, hd]; simp)
          clear HFT hd
          go_enter Tryz.func21, Tryz.ntmps21
          go_wp2_with fail
          rw [← hwb]
          refine (HC.out wb).mono ?_
          rintro e w1 ⟨rfl, hb1⟩
          have HB1 := hid hb1
          obtain ⟨c0, c1, c2, c3, c4, c5⟩ := HCE.out w1 hb1
          clear hb1
          go_wp2_with fail
          go_ret
          have hR : R = false := by rw [HRR.out]; unfold mayB; rw [HFI.out]; simp
          exact ⟨by rw [hR]; rfl, two_low HW0.out HB1.out⟩
      · have h1n : (32 : Int) < (n : Int) := by omega
        have hd : decide ((n : Int) ≤ 32) = false := by simpa using h1
        have HFI : Hid (fitB m.k m.ns.length m.ts.length = false) := hid (by rw [← HN.out, ← HNS.out, HFT.out, hd]; simp)
        clear HFT hd
        go_enter Tryz.func21, Tryz.ntmps21
        go_wp2_with fail
        rw [← hwb]
        refine (HC.out wb).mono ?_
        rintro e w1 ⟨rfl, hb1⟩
        have HB1 := hid hb1
        obtain ⟨c0, c1, c2, c3, c4, c5⟩ := HCE.out w1 hb1
        clear hb1
        go_wp2_with fail
        go_ret
        have hR : R = false := by rw [HRR.out]; unfold mayB; rw [HFI.out]; simp
        exact ⟨by rw [hR]; rfl, two_low HW0.out HB1.out⟩
    · have h0e : (m.k : Int) % 2 = 0 := by omega
      have HFI : Hid (fitB m.k m.ns.length m.ts.length = false) := hid (by rw [← HN.out, ← HNS.out, HFT.out]; simp [h0])
      clear HFT
      go_enter Tryz.func21, Tryz.ntmps21
      go_wp2_with fail
      rw [← hwb]
      refine (HC.out wb).mono ?_
      rintro e w1 ⟨rfl, hb1⟩
      have HB1 := hid hb1
      obtain ⟨c0, c1, c2, c3, c4, c5⟩ := HCE.out w1 hb1
      clear hb1
      go_wp2_with fail
      go_ret
      have hR : R = false := by rw [HRR.out]; unfold mayB; rw [HFI.out]; simp
      exact ⟨by rw [hR]; rfl, two_low HW0.out HB1.out⟩
end Go.Proofs.YtdhmmllpioppfaaGreat.V
