/- The law DeduceHides. -/
import Derived.Test.YtfnnhekjeobicaaGreatDoorFreshL
namespace Go.Proofs.YtfnnhekjeobicaaGreatDoor
open Go.RowKit Go.Maps Go.WideElems

/-- the five terms of the law -/
structure Five (x y : Bs) : Prop where
  box : Tm.deep (66 :: (x ++ y)) ≠ 0
  pk : Tm.deep (80 :: x) ≠ 0
  ps : Tm.deep (80 :: y) ≠ 0
  hs : Tm.deep (72 :: y) ≠ 0
  key : Tm.deep x ≠ 0
  name : Tm.deep y ≠ 0
  kids : Tm.kidsOf 63 (66 :: (x ++ y)) = [x, y]
theorem five_of {x y : Bs} (hx : x.head? = some 110) (hy : y.head? = some 110) (hix : Tm.Is 1 x) (hiy : Tm.Is 1 y) (hxl : x.length ≤ 22) (hyl : y.length ≤ 22) : Five x y := by
  refine ⟨?_, ?_, ?_, ?_, ?_, ?_, kids_of_two hix hiy (by omega) (by omega) (by decide) (by decide) (by decide) (by decide) (by decide)⟩
  · rw [Tm.is_deep (Tm.is_two (c := 66) hix hiy (by decide)) (by omega) (by simp; omega)]; omega
  · rw [Tm.is_deep (Tm.is_pub hix (by rw [hx]; decide) (by rw [hx]; decide)) (by omega) (by simp; omega)]; omega
  · rw [Tm.is_deep (Tm.is_pub hiy (by rw [hy]; decide) (by rw [hy]; decide)) (by omega) (by simp; omega)]; omega
  · rw [Tm.is_deep (Tm.is_hash hiy) (by omega) (by simp; omega)]; omega
  · rw [Tm.is_deep hix (by omega) (by omega)]; omega
  · rw [Tm.is_deep hiy (by omega) (by omega)]; omega
theorem five_box {x y : Bs} (hix : Tm.Is 1 x) (hiy : Tm.Is 1 y) (hxl : x.length ≤ 22) (hyl : y.length ≤ 22) : bRes 66 [] [x, y] = (66 :: (x ++ y), 0) := by
  have h1 := Tm.is_deep hix (by omega) (by omega)
  have h2 := Tm.is_deep hiy (by omega) (by omega)
  unfold bRes
  rw [if_neg (by simp [h1, h2]), if_neg (by simp [bDeep, bSize, h1, h2]; omega)]
  simp
theorem five_hash {y : Bs} (hiy : Tm.Is 1 y) (hyl : y.length ≤ 22) : bRes 72 [] [y] = (72 :: y, 0) := by
  have h2 := Tm.is_deep hiy (by omega) (by omega)
  unfold bRes
  rw [if_neg (by simp [h2]), if_neg (by simp [bDeep, bSize, h2]; omega)]
  simp

set_option maxRecDepth 100000 in
set_option maxHeartbeats 4000000 in
theorem hides_main (w : World) (hG : G0 w) (hP : Pw w) (al : Option Addr) (cl : Nat) (l : List Bs) (k s : Int) (hk0 : 0 ≤ k) (hk1 : k ≤ 9223372036854775807) (hs0 : 0 ≤ s) (hs1 : s ≤ 9223372036854775807) (hks : k ≠ s) (hk : Texts w (.slice al l.length cl) l) (hl : smallB l = true) (hs : ∀ i (h : i < l.length), l[i].length ≤ 140737488355328) :
    Calls Tryz.prog 5 #[.slice al l.length cl, .int .i64 k, .int .i64 s] w fun e w' => e = .returned (.bool true) ∧ Below w.heap.size w w' := by
  have HLS := hid (smallB_of hl)
  obtain ⟨x, hresx, hx, hix, hxl, hxe⟩ := name_res hk0 hk1
  obtain ⟨y, hresy, hy, hiy, hyl, hye⟩ := name_res hs0 hs1
  clear hxe hye
  have hF := five_of hx hy hix hiy hxl hyl
  have hR : ∀ t ∈ rights l, Tm.deep t ≠ 0 := fun t ht => by
    have := (List.mem_filter.1 ht).2
    simpa using this
  have hR2 : ∀ t ∈ rights l ++ [66 :: (x ++ y), 80 :: x, 80 :: y, 72 :: y, x], Tm.deep t ≠ 0 := fun t ht => by
    rcases List.mem_append.1 ht with h | h
    · exact hR t h
    · simp only [List.mem_cons, List.not_mem_nil, or_false] at h
      rcases h with h | h | h | h | h <;> rw [h]
      · exact hF.box
      · exact hF.pk
      · exact hF.ps
      · exact hF.hs
      · exact hF.key
  obtain ⟨hU, hlU⟩ := uni_of hR2 (by
    have h1 := lens_rights l; have h2 := HLS.out.2; unfold lens at h1 h2
    simp only [List.map_append, List.sum_append, List.map_cons, List.map_nil, List.sum_cons, List.sum_nil, List.length_cons, List.length_append]
    omega)
  generalize (rights l ++ [66 :: (x ++ y), 80 :: x, 80 :: y, 72 :: y, x]).flatMap (subsF 64) = U at hU hlU
  have HS1 := hid (small_any w al cl l hk (by have := HLS.out.1; unfold maxLen; omega) hs)
  rw [hl] at HS1
  have HUB := hid (hlU (66 :: (x ++ y)) (by simp))
  have HUP := hid (hlU (80 :: x) (by simp))
  have HUQ := hid (hlU (80 :: y) (by simp))
  have HUH := hid (hlU (72 :: y) (by simp))
  have HUK := hid (hlU x (by simp))
  have HMD := hid (fun W (hb : Below w.heap.size w W) => mind_ml hU W (hG.below hb) al cl l (texts_below hk hb) HLS.out.1 (fun t ht hd => hlU t (List.mem_append_left _ (List.mem_filter.2 ⟨ht, by simpa using hd⟩))))
  have HNK := hid (fun W (hb : Below w.heap.size w W) => mkname_any k hk1 W (hP.below hb))
  have HNS := hid (fun W (hb : Below w.heap.size w W) => mkname_any s hs1 W (hP.below hb))
  rw [hresx] at HNK
  rw [hresy] at HNS
  have HBX := hid (fun W => box_any x y W)
  rw [five_box hix hiy hxl hyl] at HBX
  have HHS := hid (fun W => hash_any y W)
  rw [five_hash hiy hyl] at HHS
  have HPK := hid (fun W => pubs_any x W)
  rw [pub_of_plain hF.pk] at HPK
  have HPS := hid (fun W => pubs_any y W)
  rw [pub_of_plain hF.ps] at HPS
  have HR := hid hR
  have HU := hid hU
  have HHL : Hid ((rights l).length ≤ 40) := hid (Nat.le_trans (List.length_filter_le _ _) HLS.out.1)
  have HF := hid hF
  have HX := hid hx
  have HY := hid hy
  have HXL := hid hxl
  have HYL := hid hyl
  have hkf : (k == s) = false := by simpa using hks
  clear hU hlU hG hP hk hl hs hR hR2 hF hresx hresy hx hy hix hiy hxl hyl hk1 hs1 HLS
  generalize rights l = hd at HMD HR HHL
  generalize hbox : 66 :: (x ++ y) = box at HUB HBX
  have HBO := hid hbox
  clear hbox
  generalize hpk : 80 :: x = pk at HUP HPK
  have HPO := hid hpk
  clear hpk
  generalize hps : 80 :: y = ps at HUQ HPS
  have HQO := hid hps
  clear hps
  generalize hhs : 72 :: y = hsh at HUH HHS
  have HHO := hid hhs
  clear hhs
  go_enter Tryz.func5, Tryz.ntmps5
  go_wp2_with fail
  refine HS1.out.mono ?_
  rintro e w1 ⟨rfl, hw1⟩
  subst hw1
  clear HS1
  go_wp2_with fail
  refine (HNK.out _ (Below.refl _ _)).mono ?_
  rintro e w2 ⟨rfl, hb2⟩
  have HB2 := hid hb2
  clear hb2
  go_wp2_with fail
  refine (HNS.out _ HB2.out).mono ?_
  rintro e w3 ⟨rfl, hb3⟩
  have HB3 := hid (two_below HB2.out hb3)
  clear hb3 HNK HNS HB2
  go_wp2_with fail
  refine (HMD.out _ HB3.out).mono ?_
  rintro e w4 ⟨v, rfl, hml⟩
  have HML := hid hml
  obtain ⟨av, kv, hv⟩ := own_shape hml.row
  subst hv
  have HMX := hid hml.mx
  clear hml HMD
  go_wp2_with fail
  obtain ⟨m, hm⟩ : ∃ m, m = hd.length := ⟨_, rfl⟩
  rw [← hm]
  have HM := hid hm
  have hmb : m ≤ 40 := by rw [HM.out]; exact HHL.out
  clear hm hk0 hs0 hks hkf
  go_loopg [13] m (fun gg v wr => ∃ i : Nat, i ≤ m ∧ gg = m - i ∧ v = .int .i64 (i : Int) ∧ Below w4.heap.size w4 wr ∧ ∀ j (hj : j < hd.length), j < i → standsF x 64 hd[j] = false ∧ standsF y 64 hd[j] = false)
  case atStart => exact ⟨0, by omega, by omega, rfl, Below.refl _ _, fun j hj h => by omega⟩
  case round =>
    obtain ⟨i, hi, rfl, rfl, hbel, hall⟩ := hrel
    have HBE := hid hbel
    have HAL := hid hall
    clear hbel hall
    by_cases hil : i < m
    · have hik : i < hd.length := by rw [← HM.out]; exact hil
      obtain ⟨g, kc', hv, hg1, hg2, hcs⟩ := row_cells HML.out.row (by omega)
      cases hv
      have HCE : Hid (∀ W, Below w4.heap.size w4 W → W.cell? ⟨g, i, none⟩ = some (St hd[i])) := hid (fun W hb => (hb.cell (p := ⟨g, i, none⟩) hg2).trans (hcs i hik))
      have HCI := hid (fun W => stands_all 64 W hd[i] x (Tm.deep_le _))
      have HCJ := hid (fun W => stands_all 64 W hd[i] y (Tm.deep_le _))
      generalize hki : hd[i] = ki at HCE HCI HCJ
      have HKI := hid hki
      have hcell := HCE.out wr HBE.out
      clear hcs hki
      cases hmk : standsF x 64 ki
      · rw [hmk] at HCI
        go_wp2_with fail
        refine (HCI.out _).mono ?_
        rintro e w5 ⟨rfl, hb5⟩
        have HB5 := hid (two_below HBE.out hb5)
        have hcell5 := HCE.out w5 HB5.out
        clear hb5 hcell
        cases hmk2 : standsF y 64 ki
        · rw [hmk2] at HCJ
          go_wp2_with fail
          refine (HCJ.out _).mono ?_
          rintro e w6 ⟨rfl, hb6⟩
          have HB6 := hid (two_below HB5.out hb6)
          clear hb6
          go_wp2_with fail
          go_roundg (m - (i + 1))
          case measure => omega
          case rel =>
            refine ⟨i + 1, by omega, rfl, by go_num, HB6.out, fun j hj hji => ?_⟩
            by_cases e : j = i
            · subst e; rw [HKI.out]; exact ⟨hmk, hmk2⟩
            · exact HAL.out j hj (by omega)
        · rw [hmk2] at HCJ
          go_wp2_with fail
          refine (HCJ.out _).mono ?_
          rintro e w6 ⟨rfl, hb6⟩
          have HX6 := hid (HMX.out.below (two_below HB5.out hb6))
          clear hb6
          go_wp2_with fail
          refine HX6.out.works.mono ?_
          rintro e w7 ⟨rfl, hx7⟩
          have HX7 := hid hx7
          clear hx7
          go_wp2_with fail
          go_ret
          exact ⟨rfl, two_below HB3.out HX7.out.bel⟩
      · rw [hmk] at HCI
        go_wp2_with fail
        refine (HCI.out _).mono ?_
        rintro e w6 ⟨rfl, hb6⟩
        have HX6 := hid (HMX.out.below (two_below HBE.out hb6))
        clear hb6
        go_wp2_with fail
        refine HX6.out.works.mono ?_
        rintro e w7 ⟨rfl, hx7⟩
        have HX7 := hid hx7
        clear hx7
        go_wp2_with fail
        go_ret
        exact ⟨rfl, two_below HB3.out HX7.out.bel⟩
    · have HFR : Hid (∀ t ∈ hd.reverse, ¬ Stands x t ∧ ¬ Stands y t) := hid (fun t ht => by
        have ht' : t ∈ hd := by simpa using ht
        obtain ⟨j, hj, rfl⟩ := List.getElem_of_mem ht'
        have h1 := HAL.out j hj (by have := HM.out; omega)
        refine ⟨fun hs => ?_, fun hs => ?_⟩
        · have h2 := h1.1
          rw [(stands_iff 64 _ (HR.out _ ht') (Tm.deep_le _)).2 hs] at h2
          cases h2
        · have h2 := h1.2
          rw [(stands_iff 64 _ (HR.out _ ht') (Tm.deep_le _)).2 hs] at h2
          cases h2)
      have HHR : Hid (∀ t ∈ hd.reverse, Tm.deep t ≠ 0) := hid (fun t ht => HR.out t (by simpa using ht))
      have HRL : Hid (hd.reverse.length ≤ 40) := hid (by simpa using HHL.out)
      have HX5 := hid (HMX.out.below HBE.out)
      obtain ⟨w5, rfl⟩ : ∃ w5, w5 = wr := ⟨_, rfl⟩
      go_wp2_with fail
      clear HAL HBE HML HMX HR HHL hi hil
      generalize hd.reverse = L at HFR HHR HRL HX5
      refine (HBX.out _).mono ?_
      rintro e w6 ⟨rfl, hb⟩
      have HX6 := hid (HX5.out.below hb)
      clear hb HX5
      go_wp2_with fail
      refine (HPK.out _).mono ?_
      rintro e w7 ⟨rfl, hb⟩
      have HX7 := hid (HX6.out.below hb)
      clear hb HX6
      go_wp2_with fail
      refine (HPS.out _).mono ?_
      rintro e w8 ⟨rfl, hb⟩
      have HX8 := hid (HX7.out.below hb)
      clear hb HX7
      go_wp2_with fail
      refine (HHS.out _).mono ?_
      rintro e w9 ⟨rfl, hb⟩
      have HX9 := hid (HX8.out.below hb)
      clear hb HX8
      go_wp2_with fail
      refine (HX9.out.learn HU.out HUB.out (by have := HRL.out; omega)).mono ?_
      rintro e w10 ⟨rfl, hx⟩
      have HX10 := hid hx
      clear hx HX9
      go_wp2_with fail
      refine (HX10.out.learn HU.out HUP.out (by have := HRL.out; simp; omega)).mono ?_
      rintro e w11 ⟨rfl, hx⟩
      have HX11 := hid hx
      clear hx HX10
      go_wp2_with fail
      refine (HX11.out.learn HU.out HUQ.out (by have := HRL.out; simp; omega)).mono ?_
      rintro e w12 ⟨rfl, hx⟩
      have HX12 := hid hx
      clear hx HX11
      go_wp2_with fail
      refine (HX12.out.learn HU.out HUH.out (by have := HRL.out; simp; omega)).mono ?_
      rintro e w13 ⟨rfl, hx⟩
      have HX13 := hid hx
      clear hx HX12
      have HNO : Hid (¬ Can (fun t => t ∈ hsh :: ps :: pk :: box :: L) x ∧ ¬ Can (fun t => t ∈ hsh :: ps :: pk :: box :: L) y) := hid (by
        refine can_hide (box := box) HX.out HY.out (by rw [← HBO.out]; rfl) (by rw [← HBO.out]; exact HF.out.kids) (fun t ht => ?_) (fun t ht => ?_)
        · simp only [List.mem_cons] at ht
          rcases ht with h | h | h | h | h
          · rw [h, ← HHO.out]; exact HF.out.hs
          · rw [h, ← HQO.out]; exact HF.out.ps
          · rw [h, ← HPO.out]; exact HF.out.pk
          · rw [h, ← HBO.out]; exact HF.out.box
          · exact HHR.out t h
        · simp only [List.mem_cons] at ht
          rcases ht with h | h | h | h | h
          · right; right; right; right; rw [h, HHO.out]
          · right; right; right; left; rw [h, HQO.out]
          · right; right; left; rw [h, HPO.out]
          · right; left; exact h
          · left; exact HFR.out t h)
      have HBL : Hid (box.length ≤ 100000) := hid (by rw [← HBO.out]; have := HXL.out; have := HYL.out; simp; omega)
      have HHL : Hid (hsh.length ≤ 100000) := hid (by rw [← HHO.out]; have := HYL.out; simp; omega)
      have HXL2 : Hid (x.length ≤ 100000) := hid (by have := HXL.out; omega)
      have HYL2 : Hid (y.length ≤ 100000) := hid (by have := HYL.out; omega)
      go_wp2_with fail
      refine (HX13.out.no HYL2.out HNO.out.2).mono ?_
      rintro e w14 ⟨rfl, hx⟩
      have HX14 := hid hx
      clear hx HX13
      go_wp2_with fail
      refine (HX14.out.no HXL2.out HNO.out.1).mono ?_
      rintro e w15 ⟨rfl, hx⟩
      have HX15 := hid hx
      clear hx HX14
      go_wp2_with fail
      refine (HX15.out.yes HBL.out (.heard (by simp))).mono ?_
      rintro e w16 ⟨rfl, hx⟩
      have HX16 := hid hx
      clear hx HX15
      go_wp2_with fail
      refine (HX16.out.yes HHL.out (.heard (by simp))).mono ?_
      rintro e w17 ⟨rfl, hx⟩
      have HX17 := hid hx
      clear hx HX16
      go_wp2_with fail
      refine (HX17.out.learn HU.out HUK.out (by have := HRL.out; simp; omega)).mono ?_
      rintro e w18 ⟨rfl, hx⟩
      have HX18 := hid hx
      clear hx HX17
      go_wp2_with fail
      refine (HX18.out.yes HYL2.out (.opened (t := box) (k := x) (.heard (by simp)) (by rw [← HBO.out]; rfl) (by rw [← HBO.out]; exact HF.out.kids) (.heard (by simp)))).mono ?_
      rintro e w19 ⟨rfl, hx⟩
      have HX19 := hid hx
      clear hx HX18
      go_wp2_with fail
      refine (HX19.out.yes HXL2.out (.heard (by simp))).mono ?_
      rintro e w20 ⟨rfl, hx⟩
      have HX20 := hid hx
      clear hx HX19
      go_wp2_with fail
      refine HX20.out.works.mono ?_
      rintro e w21 ⟨rfl, hx⟩
      have HX21 := hid hx
      clear hx HX20
      go_wp2_with fail
      go_ret
      exact ⟨rfl, two_below HB3.out HX21.out.bel⟩

set_option maxRecDepth 100000 in
set_option maxHeartbeats 1000000 in
theorem hideslaw_any (w : World) (hG : G0 w) (hP : Pw w) (al : Option Addr) (cl : Nat) (l : List Bs) (k s : Int) (hk1 : k ≤ 9223372036854775807) (hs1 : s ≤ 9223372036854775807) (hk : Texts w (.slice al l.length cl) l) (hm : l.length ≤ maxLen) (hs : ∀ i (h : i < l.length), l[i].length ≤ 140737488355328) :
    Calls Tryz.prog 5 #[.slice al l.length cl, .int .i64 k, .int .i64 s] w fun e w' => e = .returned (.bool true) ∧ Below w.heap.size w w' := by
  by_cases hq : smallB l = true ∧ 0 ≤ k ∧ 0 ≤ s ∧ k ≠ s
  · exact hides_main w hG hP al cl l k s hq.2.1 hk1 hq.2.2.1 hs1 hq.2.2.2 hk hq.1 hs
  · have HS1 := hid (small_any w al cl l hk hm hs)
    cases h1 : smallB l with
    | false =>
      rw [h1] at HS1
      clear hG hP hk hm hs hq hk1 hs1 h1
      go_enter Tryz.func5, Tryz.ntmps5
      go_wp2_with fail
      refine HS1.out.mono ?_
      rintro e w1 ⟨rfl, hw1⟩
      subst hw1
      go_wp2_with fail
      go_ret
      exact ⟨rfl, Below.refl _ _⟩
    | true =>
      rw [h1] at HS1
      clear hG hP hk hm hs hk1 hs1
      by_cases a : k < 0
      · clear hq h1
        go_enter Tryz.func5, Tryz.ntmps5
        go_wp2_with fail
        refine HS1.out.mono ?_
        rintro e w1 ⟨rfl, hw1⟩
        subst hw1
        go_wp2_with fail
        go_ret
        exact ⟨rfl, Below.refl _ _⟩
      · by_cases b : s < 0
        · clear hq h1
          go_enter Tryz.func5, Tryz.ntmps5
          go_wp2_with fail
          refine HS1.out.mono ?_
          rintro e w1 ⟨rfl, hw1⟩
          subst hw1
          go_wp2_with fail
          go_ret
          exact ⟨rfl, Below.refl _ _⟩
        · have e : k = s := Decidable.byContradiction (fun e => hq ⟨h1, by omega, by omega, e⟩)
          subst e
          clear hq h1
          go_enter Tryz.func5, Tryz.ntmps5
          go_wp2_with fail
          refine HS1.out.mono ?_
          rintro e w1 ⟨rfl, hw1⟩
          subst hw1
          go_wp2_with fail
          go_ret
          exact ⟨rfl, Below.refl _ _⟩
end Go.Proofs.YtfnnhekjeobicaaGreatDoor
