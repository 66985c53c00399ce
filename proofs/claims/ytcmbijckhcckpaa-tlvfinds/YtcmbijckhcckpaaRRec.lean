/- The document's Records. -/
import Derived.Test.YtcmbijckhcckpaaRStr
namespace Go.Proofs.Ytcmbijckhcckpaa
open Go.RowKit

theorem next_e1 {L : List Rec} {c : Bs} {t k e : Nat} (hg : getB c = (t, k, e)) (he : e ≠ 0) : nextB L c = ((0, []), [], e) := by
  unfold nextB; simp only [hg]; rw [if_pos he]
theorem next_e2 {L : List Rec} {c : Bs} {t k : Nat} (hg : getB c = (t, k, 0)) (hr : risesB L t = false) : nextB L c = ((0, []), [], 50) := by
  unfold nextB; simp only [hg]; rw [if_neg (by simp), if_pos hr]
theorem next_e3 {L : List Rec} {c : Bs} {t k : Nat} (hg : getB c = (t, k, 0)) (hr : risesB L t = true) (h64 : 64 ≤ L.length) : nextB L c = ((0, []), [], 3) := by
  unfold nextB; simp only [hg]; rw [if_neg (by simp), if_neg (by simp [hr]), if_pos h64]
theorem next_e4 {L : List Rec} {c : Bs} {t k s k2 e2 : Nat} (hg : getB c = (t, k, 0)) (hr : risesB L t = true) (h64 : ¬ 64 ≤ L.length) (hg2 : getB (c.drop k) = (s, k2, e2)) (he : e2 ≠ 0) : nextB L c = ((0, []), [], e2) := by
  unfold nextB; simp only [hg, hg2]; rw [if_neg (by simp), if_neg (by simp [hr]), if_neg h64, if_pos he]
theorem next_e5 {L : List Rec} {c : Bs} {t k s k2 : Nat} (hg : getB c = (t, k, 0)) (hr : risesB L t = true) (h64 : ¬ 64 ≤ L.length) (hg2 : getB (c.drop k) = (s, k2, 0)) (hs : ((c.drop k).drop k2).length < s) : nextB L c = ((0, []), [], 51) := by
  unfold nextB; simp only [hg, hg2]; rw [if_neg (by simp), if_neg (by simp [hr]), if_neg h64, if_neg (by simp), if_pos hs]
theorem next_e6 {L : List Rec} {c : Bs} {t k s k2 : Nat} (hg : getB c = (t, k, 0)) (hr : risesB L t = true) (h64 : ¬ 64 ≤ L.length) (hg2 : getB (c.drop k) = (s, k2, 0)) (hs : ¬ ((c.drop k).drop k2).length < s) : nextB L c = ((t, ((c.drop k).drop k2).take s), ((c.drop k).drop k2).drop s, 0) := by
  unfold nextB; simp only [hg, hg2]; rw [if_neg (by simp), if_neg (by simp [hr]), if_neg h64, if_neg (by simp), if_neg hs]

set_option maxRecDepth 100000 in
set_option maxHeartbeats 8000000 in
theorem rrecords_any (w : World) (v : Value) (b : Bs) (hb : Sl w v b) (hbm : b.length ≤ 140737488355328) :
    Calls Try.prog 18 #[v] w fun e w' => ∃ ao cap, e = recorded ao cap (recsB b) ∧ Ro w.heap.size w' (.slice ao (recsB b).1.length cap) (recsB b).1 ∧ Below w.heap.size w w' := by
  obtain ⟨ao, cap, rfl⟩ := hb.shape
  have HB := hid hb
  obtain ⟨A, hA⟩ : ∃ A, A = recsB b := ⟨_, rfl⟩
  rw [← hA]
  have HA := hid hA
  clear hb hA
  by_cases hbig : 32768 < b.length
  · have HAE : Hid (A = ([], 3)) := hid (by rw [HA.out]; unfold recsB; rw [if_pos hbig])
    have hbig' : (32768 : Int) < (b.length : Int) := by omega
    generalize b.length = m at *
    go_enter Try.func18, Try.ntmps18
    go_wp2_with fail
    go_ret2
    refine ⟨none, 0, ?_⟩
    rw [HAE.out]
    exact ⟨rfl, Ro.nil _ _, Below.refl _ _⟩
  · have HAE : Hid (A = recsGo b.length [] b) := hid (by rw [HA.out]; unfold recsB; rw [if_neg hbig])
    have hbig' : ¬ (32768 : Int) < (b.length : Int) := by omega
    obtain ⟨m, hm⟩ : ∃ m, m = b.length := ⟨_, rfl⟩
    have HM := hid hm
    rw [← hm] at hbig hbig' hbm HB ⊢
    clear hm HA
    go_enter Try.func18, Try.ntmps18
    go_wp2_with fail
    go_loopg [0, 4, 5, 6, 7, 8, 9] m (fun gg v0 v4 v5 v6 v7 v8 v9 wr => ∃ (L : List Rec) (c : Bs) (al : Option Addr) (cl : Nat) (ab : Option Addr) (cb : Nat), gg = c.length ∧ c.length ≤ m ∧ L.length ≤ 64 ∧ v0 = .slice ab c.length cb ∧ v4 = .slice al L.length cl ∧ Sl w (.slice ab c.length cb) c ∧ Ro w.heap.size wr (.slice al L.length cl) L ∧ A = recsGo c.length L c ∧ Below w.heap.size w wr)
    case atStart => exact ⟨[], b, none, 0, ao, cap, HM.out, by rw [HM.out]; exact Nat.le_refl _, by simp, by rw [← HM.out], rfl, by rw [← HM.out]; exact HB.out, Ro.nil _ _, HAE.out, Below.refl _ _⟩
    case round =>
      obtain ⟨L, c, al, cl, ab, cb, rfl, hcm, hL64, rfl, rfl, hsl, hro, hgo, hbel⟩ := hrel
      have HSL := hid hsl
      have HRO := hid hro
      have HGO := hid hgo
      have HBE := hid hbel
      clear hsl hro hgo hbel HAE HB
      by_cases hc : c = []
      · subst hc
        have HAE : Hid (A = (L, 0)) := hid (by rw [HGO.out]; rfl)
        generalize hn : L.length = n at *
        have HN := hid hn
        clear hn
        go_wp2_with fail
        go_ret2
        refine ⟨al, cl, ?_⟩
        rw [HAE.out]
        simp only [recorded, HN.out]
        exact ⟨rfl, HRO.out, HBE.out⟩
      · have hpos := List.length_pos_iff.2 hc
        have HGO2 := hid (HGO.out.trans (recs_step hc))
        have HG := hid (rget_any c wr _ (HSL.out.below HBE.out) (by omega))
        generalize hg : getB c = gg at *
        have HGE := hid hg
        obtain ⟨t, k, e⟩ := gg
        simp only [gotten] at HG
        have HRIS : Hid (L = [] ∨ ∃ (ne : L ≠ []), risesB L t = decide (((L[L.length - 1]'(by have := List.length_pos_iff.2 ne; omega)).1 : Int) < (t : Int))) := hid (by
          by_cases h : L = []
          · exact Or.inl h
          · exact Or.inr ⟨h, rises_last h t⟩)
        obtain ⟨q, hq⟩ : ∃ q, q = c.length := ⟨_, rfl⟩
        rw [← hq] at HG hpos hcm HSL ⊢
        have HQ := hid hq
        have hpos' : (0 : Int) < (q : Int) := by omega
        clear hc hq hg HGO
        by_cases he : e = 0
        · subst he
          -- does the type rise?
          obtain ⟨rb, hrb⟩ : ∃ rb, rb = risesB L t := ⟨_, rfl⟩
          have HRB := hid hrb.symm
          have HLAST : Hid (∀ W, Ro w.heap.size W (.slice al L.length cl) L → (L = [] ∧ rb = true) ∨ ∃ g o ql, L ≠ [] ∧ al = some ⟨g, o, none⟩ ∧ W.cell? ⟨g, o + (L.length - 1) * 2, none⟩ = some (.int .u64 (ql : Nat)) ∧ L.length ≤ cl ∧ rb = decide ((ql : Int) < (t : Int))) := hid (fun W hW => by
            rcases HRIS.out with h | ⟨h, h2⟩
            · refine Or.inl ⟨h, ?_⟩
              rw [hrb, h]
              rfl
            · have hp := List.length_pos_iff.2 h
              obtain ⟨g, o, e, _, _, hcc, hc2⟩ := hW.rcs.at h
              obtain ⟨_, d1, _, _⟩ := hc2 (L.length - 1) (by omega)
              exact Or.inr ⟨g, o, _, h, e, d1, hcc, hrb.trans h2⟩)
          clear hrb HRIS
          go_wp2_with fail
          refine HG.out.mono ?_
          rintro e1 w1 ⟨rfl, hb1⟩
          have HB1 := hid (HBE.out.trans (hb1.mono HBE.out.size))
          have HRO1 := hid (HRO.out.below hb1)
          have HLA := HLAST.out w1 HRO1.out
          clear hb1 HG HLAST HRO HBE
          obtain ⟨n, hn⟩ : ∃ n, n = L.length := ⟨_, rfl⟩
          rw [← hn] at HRO1 hL64 HLA ⊢
          have HN := hid hn
          clear hn
          rcases HLA with ⟨hL0, hrt⟩ | ⟨g, o, ql, hLn, hal, hcl, hccl, hrt⟩
          · have hn0 : n = 0 := by rw [HN.out, hL0]; rfl
            subst hn0
            subst hrt
            clear hL0
            have h64 : ¬ (0 : Nat) = 64 := by decide
            · have h64n : ¬ 64 ≤ L.length := by rw [← HN.out]; omega
              have h64b : (((0 : Nat) : Int) == 64) = false := by simp <;> omega
              obtain ⟨ho1, ho2, ho3, ho4⟩ := get_ok HGE.out
              obtain ⟨a1, c1, hs1, hx1⟩ := cutRun ab q cb c k ho4 HQ.out
              have hs1' := hs1 .i64
              have HX1 := hid (hx1 w HSL.out)
              have HD1 : Hid ((c.drop k).length = q - k) := hid (by rw [List.length_drop, HQ.out])
              have HG2 := hid (rget_any (c.drop k) w1 _ (HX1.out.below HB1.out) (by rw [HD1.out]; omega))
              obtain ⟨m1, hm1⟩ : ∃ m1, m1 = q - k := ⟨_, rfl⟩
              rw [← hm1] at hs1' HX1 HG2 HD1
              have hm1b : m1 ≤ q := by omega
              clear hs1 hx1 ho1 ho2 ho4 hm1
              generalize hg2 : getB (c.drop k) = g2 at *
              have HGE2 := hid hg2
              obtain ⟨sz, k2, e2⟩ := g2
              simp only [gotten] at HG2
              clear hg2
              go_wp2_with fail
              refine HG2.out.mono ?_
              rintro e2' w2 ⟨rfl, hb2⟩
              have HB2 := hid (HB1.out.trans (hb2.mono HB1.out.size))
              have HRO2 := hid (HRO1.out.below hb2)
              clear hb2 HG2 HRO1 HB1 hs1' ho3
              by_cases he2 : e2 = 0
              · subst he2
                obtain ⟨hp1, hp2, hp3, hp4⟩ := get_ok HGE2.out
                clear hp1 hp2
                have hszl := get_lt HGE2.out
                obtain ⟨a2, c2, hs2, hx2⟩ := cutRun a1 m1 c1 (c.drop k) k2 hp4 HD1.out.symm
                have hs2' := hs2 .i64
                have HX2 := hid (hx2 w HX1.out)
                have HD2 : Hid (((c.drop k).drop k2).length = m1 - k2) := hid (by rw [List.length_drop, HD1.out])
                obtain ⟨m2, hm2⟩ : ∃ m2, m2 = m1 - k2 := ⟨_, rfl⟩
                rw [← hm2] at hs2' HX2 HD2
                have hm2b : m2 ≤ q := by omega
                have hm2c : m2 < q := by omega
                have hmw : IntKind.u64.wrap (m2 : Int) = (m2 : Int) := by rw [IntKind.wrap_u64]; omega
                clear hs2 hx2 hp3 hp4 hm2
                by_cases hsh : m2 < sz
                · have hsh' : (m2 : Int) < (sz : Int) := by omega
                  have HNB := hid (next_e5 HGE.out HRB.out h64n HGE2.out (by rw [HD2.out]; exact hsh))
                  rw [HNB.out, if_pos (by decide)] at HGO2
                  go_wp2_with fail
                  go_ret2
                  refine ⟨none, 0, ?_⟩
                  rw [HGO2.out]
                  exact ⟨rfl, Ro.nil _ _, HB2.out⟩
                · have hsh' : ¬ (m2 : Int) < (sz : Int) := by omega
                  have HNB := hid (next_e6 HGE.out HRB.out h64n HGE2.out (by rw [HD2.out]; exact hsh))
                  rw [HNB.out, if_neg (by simp)] at HGO2
                  generalize (c.drop k).drop k2 = cc at *
                  simp only at HGO2
                  obtain ⟨hs3, hx3⟩ := HX2.out.takeRun sz (by rw [HD2.out]; omega) HD2.out.symm
                  obtain ⟨a4, c4, hs4, hx4⟩ := cutRun a2 m2 c2 cc sz (by rw [HD2.out]; omega) HD2.out.symm
                  have hs3' := hs3 .u64
                  have hs4' := hs4 .u64
                  have HX4 := hid (hx4 w HX2.out)
                  have HTL : Hid ((cc.take sz).length = sz) := hid (by rw [List.length_take, HD2.out]; omega)
                  have HDL : Hid ((cc.drop sz).length = m2 - sz) := hid (by rw [List.length_drop, HD2.out])
                  obtain ⟨a5, c5, w5, hrun5, hown5, hg5⟩ := append_bytes (own_none w2 w.heap.size) (hx3.below HB2.out) (by rw [HTL.out]; simp; omega) HB2.out.size
                  rw [List.nil_append] at hrun5 hown5
                  rw [HTL.out] at hrun5 hown5
                  have HB5 := hid (HB2.out.grown hg5 HB2.out.size (fun k h => by cases h))
                  have hbl5 : Below w2.heap.size w2 w5 := ⟨hg5.os, hg5.tape, hg5.output, hg5.size, fun k hk => hg5.block k hk (fun e => by cases e)⟩
                  have hro5 := HRO2.out.below hbl5
                  have hro5' : Ro w.heap.size w5 (.slice al L.length cl) L := by rw [← HN.out]; exact hro5
                  obtain ⟨a6, c6, w6, hrun6, hro6, hb6⟩ := append_rec (t := t) (body := cc.take sz) hro5' (by rw [HTL.out]; exact hown5) (one_slice _ _ _) (by rw [← HN.out]; omega) HB5.out.size
                  rw [← HN.out] at hrun6 hro6
                  have HRUN5 := hid hrun5
                  have HRUN6 := hid hrun6
                  have HRO6 := hid hro6
                  have HB6 := hid (HB5.out.trans hb6)
                  obtain ⟨m3, hm3⟩ : ∃ m3, m3 = m2 - sz := ⟨_, rfl⟩
                  rw [← hm3] at hs4' HX4 HDL
                  have HM3 := hid hm3
                  clear hs3 hs4 hx3 hx4 hrun5 hown5 hg5 hbl5 hro5 hro5' hrun6 hro6 hb6 hm3
                  go_wp2_with (first | (at_builtin; refine wpList_append_run rfl (.tmp 62) (.tmp 65) 23 rfl (.slice none 0 0) (.slice a2 sz c2) (.slice a5 sz c5) w5 rfl rfl HRUN5.out ?_) | (at_builtin; refine wpList_append_run rfl (.tmp 67) (.tmp 71) 30 rfl (.slice al 0 cl) (.slice (some ⟨w5.heap.size, 0, none⟩) 1 1) (.slice a6 (0 + 1) c6) w6 rfl rfl HRUN6.out ?_) | fail)
                  go_roundg m3
                  case measure => have := HQ.out; have := HM3.out; omega
                  case rel =>
                    refine ⟨L ++ [(t, cc.take sz)], cc.drop sz, a6, c6, a4, c4, by rw [HDL.out], by rw [HDL.out]; have := HM3.out; omega, by simp [← HN.out] <;> omega, by rw [HDL.out], by simp [← HN.out], by rw [HDL.out]; exact HX4.out, ?_, HGO2.out, HB6.out⟩
                    have h3 := HRO6.out
                    rw [HN.out] at h3
                    simpa using h3
              · have HNB := hid (next_e4 HGE.out HRB.out h64n HGE2.out he2)
                rw [HNB.out, if_pos he2] at HGO2
                have he' : ((e2 : Int) == 0) = false := by simpa using he2
                go_wp2_with fail
                go_ret2
                refine ⟨none, 0, ?_⟩
                rw [HGO2.out]
                exact ⟨rfl, Ro.nil _ _, HB2.out⟩

          · obtain ⟨n1, hn1⟩ : ∃ n1, n = n1 + 1 := ⟨n - 1, by have := List.length_pos_iff.2 hLn; have := HN.out; omega⟩
            subst hn1
            subst hal
            have hcl' : w1.cell? ⟨g, o + n1 * 2, none⟩ = some (.int .u64 (ql : Int)) := hcl
            have hn2 : (0 : Int) < ((n1 + 1 : Nat) : Int) := by omega
            clear hLn hcl
            cases rb with
            | true =>
              have hlt : ¬ (t : Int) ≤ (ql : Int) := by
                have := hrt.symm
                simp only [decide_eq_true_eq] at this
                omega
              have hlt2 : decide ((t : Int) ≤ (ql : Int)) = false := by simpa using hlt
              clear hrt
              by_cases h64 : (n1 + 1) = 64
              · have HNB := hid (next_e3 HGE.out HRB.out (by rw [← HN.out]; omega))
                rw [HNB.out, if_pos (by decide)] at HGO2
                have hn63 : n1 = 63 := by omega
                subst hn63
                go_wp2_with fail
                go_ret2
                refine ⟨none, 0, ?_⟩
                rw [HGO2.out]
                exact ⟨rfl, Ro.nil _ _, HB1.out⟩
              · have h64n : ¬ 64 ≤ L.length := by rw [← HN.out]; omega
                have h64b : ((((n1 + 1) : Nat) : Int) == 64) = false := by simp <;> omega
                obtain ⟨ho1, ho2, ho3, ho4⟩ := get_ok HGE.out
                obtain ⟨a1, c1, hs1, hx1⟩ := cutRun ab q cb c k ho4 HQ.out
                have hs1' := hs1 .i64
                have HX1 := hid (hx1 w HSL.out)
                have HD1 : Hid ((c.drop k).length = q - k) := hid (by rw [List.length_drop, HQ.out])
                have HG2 := hid (rget_any (c.drop k) w1 _ (HX1.out.below HB1.out) (by rw [HD1.out]; omega))
                obtain ⟨m1, hm1⟩ : ∃ m1, m1 = q - k := ⟨_, rfl⟩
                rw [← hm1] at hs1' HX1 HG2 HD1
                have hm1b : m1 ≤ q := by omega
                clear hs1 hx1 ho1 ho2 ho4 hm1
                generalize hg2 : getB (c.drop k) = g2 at *
                have HGE2 := hid hg2
                obtain ⟨sz, k2, e2⟩ := g2
                simp only [gotten] at HG2
                clear hg2
                go_wp2_with fail
                refine HG2.out.mono ?_
                rintro e2' w2 ⟨rfl, hb2⟩
                have HB2 := hid (HB1.out.trans (hb2.mono HB1.out.size))
                have HRO2 := hid (HRO1.out.below hb2)
                clear hb2 HG2 HRO1 HB1 hs1' ho3
                by_cases he2 : e2 = 0
                · subst he2
                  obtain ⟨hp1, hp2, hp3, hp4⟩ := get_ok HGE2.out
                  clear hp1 hp2
                  have hszl := get_lt HGE2.out
                  obtain ⟨a2, c2, hs2, hx2⟩ := cutRun a1 m1 c1 (c.drop k) k2 hp4 HD1.out.symm
                  have hs2' := hs2 .i64
                  have HX2 := hid (hx2 w HX1.out)
                  have HD2 : Hid (((c.drop k).drop k2).length = m1 - k2) := hid (by rw [List.length_drop, HD1.out])
                  obtain ⟨m2, hm2⟩ : ∃ m2, m2 = m1 - k2 := ⟨_, rfl⟩
                  rw [← hm2] at hs2' HX2 HD2
                  have hm2b : m2 ≤ q := by omega
                  have hm2c : m2 < q := by omega
                  have hmw : IntKind.u64.wrap (m2 : Int) = (m2 : Int) := by rw [IntKind.wrap_u64]; omega
                  clear hs2 hx2 hp3 hp4 hm2
                  by_cases hsh : m2 < sz
                  · have hsh' : (m2 : Int) < (sz : Int) := by omega
                    have HNB := hid (next_e5 HGE.out HRB.out h64n HGE2.out (by rw [HD2.out]; exact hsh))
                    rw [HNB.out, if_pos (by decide)] at HGO2
                    go_wp2_with fail
                    go_ret2
                    refine ⟨none, 0, ?_⟩
                    rw [HGO2.out]
                    exact ⟨rfl, Ro.nil _ _, HB2.out⟩
                  · have hsh' : ¬ (m2 : Int) < (sz : Int) := by omega
                    have HNB := hid (next_e6 HGE.out HRB.out h64n HGE2.out (by rw [HD2.out]; exact hsh))
                    rw [HNB.out, if_neg (by simp)] at HGO2
                    generalize (c.drop k).drop k2 = cc at *
                    simp only at HGO2
                    obtain ⟨hs3, hx3⟩ := HX2.out.takeRun sz (by rw [HD2.out]; omega) HD2.out.symm
                    obtain ⟨a4, c4, hs4, hx4⟩ := cutRun a2 m2 c2 cc sz (by rw [HD2.out]; omega) HD2.out.symm
                    have hs3' := hs3 .u64
                    have hs4' := hs4 .u64
                    have HX4 := hid (hx4 w HX2.out)
                    have HTL : Hid ((cc.take sz).length = sz) := hid (by rw [List.length_take, HD2.out]; omega)
                    have HDL : Hid ((cc.drop sz).length = m2 - sz) := hid (by rw [List.length_drop, HD2.out])
                    obtain ⟨a5, c5, w5, hrun5, hown5, hg5⟩ := append_bytes (own_none w2 w.heap.size) (hx3.below HB2.out) (by rw [HTL.out]; simp; omega) HB2.out.size
                    rw [List.nil_append] at hrun5 hown5
                    rw [HTL.out] at hrun5 hown5
                    have HB5 := hid (HB2.out.grown hg5 HB2.out.size (fun k h => by cases h))
                    have hbl5 : Below w2.heap.size w2 w5 := ⟨hg5.os, hg5.tape, hg5.output, hg5.size, fun k hk => hg5.block k hk (fun e => by cases e)⟩
                    have hro5 := HRO2.out.below hbl5
                    have hro5' : Ro w.heap.size w5 (.slice (some ⟨g, o, none⟩) L.length cl) L := by rw [← HN.out]; exact hro5
                    obtain ⟨a6, c6, w6, hrun6, hro6, hb6⟩ := append_rec (t := t) (body := cc.take sz) hro5' (by rw [HTL.out]; exact hown5) (one_slice _ _ _) (by rw [← HN.out]; omega) HB5.out.size
                    rw [← HN.out] at hrun6 hro6
                    have HRUN5 := hid hrun5
                    have HRUN6 := hid hrun6
                    have HRO6 := hid hro6
                    have HB6 := hid (HB5.out.trans hb6)
                    obtain ⟨m3, hm3⟩ : ∃ m3, m3 = m2 - sz := ⟨_, rfl⟩
                    rw [← hm3] at hs4' HX4 HDL
                    have HM3 := hid hm3
                    clear hs3 hs4 hx3 hx4 hrun5 hown5 hg5 hbl5 hro5 hro5' hrun6 hro6 hb6 hm3
                    go_wp2_with (first | (at_builtin; refine wpList_append_run rfl (.tmp 62) (.tmp 65) 23 rfl (.slice none 0 0) (.slice a2 sz c2) (.slice a5 sz c5) w5 rfl rfl HRUN5.out ?_) | (at_builtin; refine wpList_append_run rfl (.tmp 67) (.tmp 71) 30 rfl (.slice (some ⟨g, o, none⟩) (n1 + 1) cl) (.slice (some ⟨w5.heap.size, 0, none⟩) 1 1) (.slice a6 ((n1 + 1) + 1) c6) w6 rfl rfl HRUN6.out ?_) | fail)
                    go_roundg m3
                    case measure => have := HQ.out; have := HM3.out; omega
                    case rel =>
                      refine ⟨L ++ [(t, cc.take sz)], cc.drop sz, a6, c6, a4, c4, by rw [HDL.out], by rw [HDL.out]; have := HM3.out; omega, by simp [← HN.out] <;> omega, by rw [HDL.out], by simp [← HN.out], by rw [HDL.out]; exact HX4.out, ?_, HGO2.out, HB6.out⟩
                      have h3 := HRO6.out
                      rw [HN.out] at h3
                      simpa using h3
                · have HNB := hid (next_e4 HGE.out HRB.out h64n HGE2.out he2)
                  rw [HNB.out, if_pos he2] at HGO2
                  have he' : ((e2 : Int) == 0) = false := by simpa using he2
                  go_wp2_with fail
                  go_ret2
                  refine ⟨none, 0, ?_⟩
                  rw [HGO2.out]
                  exact ⟨rfl, Ro.nil _ _, HB2.out⟩

            | false =>
              have hlt : (t : Int) ≤ (ql : Int) := by
                have := hrt.symm
                simp only [decide_eq_false_iff_not] at this
                omega
              clear hrt
              have HNB := hid (next_e2 HGE.out HRB.out)
              rw [HNB.out, if_pos (by decide)] at HGO2
              go_wp2_with fail
              go_ret2
              refine ⟨none, 0, ?_⟩
              rw [HGO2.out]
              exact ⟨rfl, Ro.nil _ _, HB1.out⟩
        · clear HRIS
          have HNB := hid (next_e1 (L := L) HGE.out he)
          rw [HNB.out, if_pos he] at HGO2
          have he' : ((e : Int) == 0) = false := by simpa using he
          generalize L.length = n at *
          go_wp2_with fail
          refine HG.out.mono ?_
          rintro e1 w1 ⟨rfl, hb1⟩
          have HB1 := hid (HBE.out.trans (hb1.mono HBE.out.size))
          clear hb1
          go_wp2_with fail
          go_ret2
          refine ⟨none, 0, ?_⟩
          rw [HGO2.out]
          exact ⟨rfl, Ro.nil _ _, HB1.out⟩
end Go.Proofs.Ytcmbijckhcckpaa
