/- What follow does. -/
import Derived.Test.YtfnnhekjeobicaaGreatDoorFollow
namespace Go.Proofs.YtfnnhekjeobicaaGreatDoor
open Go.RowKit Go.Maps Go.WideElems

set_option maxRecDepth 100000 in
set_option maxHeartbeats 8000000 in
theorem follow_any {U : List Bs} (hU : Uni U) (w : World) (p b : Nat) (N : NM) (vn : Value) (news : List Bs) (vs : Value) (shut : List Bs) (h : Fo U w vs p b N vn news vs shut w) :
    Calls Tryz.prog 31 #[.pointer (some ⟨p, 0, none⟩), vn, vs] w fun e w' => ∃ M, e = .returned (.tuple #[]) ∧ Follow N news shut M ∧ Md w' p b M ∧ Ok U M ∧ (∃ v', Kp w w' b vs v') ∧ G0 w' := by
  obtain ⟨an, kn, hvn⟩ := own_shape h.mn.row
  obtain ⟨aq, kq, hvs⟩ := own_shape h.row
  subst hvn
  subst hvs
  have HU := hid hU
  have HF := hid h
  clear h hU
  go_enter Tryz.func31, Tryz.ntmps31
  go_wp2_with fail
  go_loopg [1, 2] (2 * nu U N + (if news = [] then 0 else 1)) (fun gg vn' vs' wr => ∃ (N' : NM) (news' shut' : List Bs) (an' : Option Addr) (kn' : Nat) (aq' : Option Addr) (kq' : Nat), gg = 2 * nu U N' + (if news' = [] then 0 else 1) ∧ vn' = .slice an' news'.length kn' ∧ vs' = .slice aq' shut'.length kq' ∧
    Fo U w (.slice aq shut.length kq) p b N' (.slice an' news'.length kn') news' (.slice aq' shut'.length kq') shut' wr ∧ ∀ M, Follow N' news' shut' M → Follow N news shut M)
  case atStart => exact ⟨N, news, shut, an, kn, aq, kq, rfl, rfl, rfl, HF.out, fun M h => h⟩
  case round =>
    clear HF
    obtain ⟨N1, news1, shut1, an1, kn1, aq1, kq1, rfl, rfl, rfl, hF, hfol⟩ := hrel
    have HF := hid hF
    have HFO := hid hfol
    clear hF hfol
    by_cases hnil : news1 = []
    · have hn0 : news1.length = 0 := by rw [hnil]; rfl
      have HNIL := hid hnil
      clear hnil
      go_wp2_with fail
      go_end0
      have hF := HF.out
      refine ⟨N1, rfl, HFO.out N1 ?_, hF.mn.md, hF.ok, ⟨_, hF.kp⟩, hF.g0⟩
      rw [HNIL.out]
      exact Follow.done N1 shut1
    · have hn0 : ¬ (news1.length : Int) = 0 := by have := List.length_pos_iff.2 hnil; omega
      have hn1 : (0 : Int) < (news1.length : Int) := by omega
      have HNN := hid hnil
      have hn2 : 0 < news1.length := List.length_pos_iff.2 hnil
      clear hnil
      have HBX := hid (boxes_any wr p b N1 _ news1 HF.out.mn (by have := HF.out.bd; omega) (fun t ht => by have := (Tm.deep_is (HU.out.right t (HF.out.nu' t ht))).2; omega))
      have HNX : Hid (∀ x ∈ news1, x ≠ []) := hid (fun x hx e => absurd (by decide) (HU.out.right [] (e ▸ HF.out.nu' x hx)))
      have HB32 := hid HF.out.bd
      generalize hnl : news1.length = nl at hn0 hn1 hn2 HBX ⊢
      have HNL := hid hnl
      have hdc : decide (0 < nl) = true := by simpa using hn2
      go_wp2_with fail
      refine HBX.out.mono ?_
      rintro e w1 ⟨ax, kx, rfl, hrow, hb1⟩
      obtain ⟨ao2, kc2, w2, hrun, hown2, hk2, hs2⟩ := append_row w1 b (.slice aq1 shut1.length kq1) (.slice ax (boxesF N1 news1).length kx) shut1 (boxesF N1 news1) (own_below HF.out.row hb1) (own_zero hrow) (by have := boxesF_le N1 news1; have := HF.out.bd; omega)
      obtain ⟨sh, hsh⟩ : ∃ sh, sh = shut1 ++ boxesF N1 news1 := ⟨_, rfl⟩
      rw [← hsh] at hrun hown2 hk2
      have HSH := hid hsh
      have HFI : Hid (Fi U w (.slice aq shut.length kq) p b (N1, []) (.slice none 0 0) (.slice an1 nl kn1) news1 (.slice ao2 sh.length kc2) sh (.slice none 0 0) [] w2) := by
        apply hid
        have hF := HF.out
        rw [hnl] at hF
        have hmn1 := hF.mn.below hb1
        have hsr := own_below hF.row hb1
        have hne := own_ne hmn1.md hsr
        have hmd2 : Md w2 p b N1 := hmn1.md.kp hne.1 hne.2 hmn1.md.ne hk2 (hs2 b hmn1.md.om.lt hne.2)
        exact ⟨⟨hmd2, World.ownsRow_nil _ _ _ _⟩, hk2.row hmn1.md hmn1.row hF.ap, hown2, World.ownsRow_nil _ _ _ _, (ap_none _ _).symm, (ap_none _ _).symm, (ap_none _ _).symm, (ap_none _ _).symm, (ap_none _ _).symm, (fun g e => by cases e), (fun g e => by cases e), (hF.kp.below hb1).trans hk2, hF.ok, (hF.g0.below hb1).kp hmn1.md.om hsr hk2⟩
      have HSU : Hid (∀ x ∈ sh, x ∈ U) := by
        apply hid; rw [hsh]; intro x hx
        rcases List.mem_append.1 hx with hx | hx
        · exact HF.out.su x hx
        · exact boxesF_mem HF.out.nu' x hx
      have HSB2 : Hid (sh.length + nu U N1 < 1000000000) := by apply hid; rw [hsh, List.length_append]; have := boxesF_le N1 news1; have := HF.out.bd; omega
      have HSB : Hid (sh.length < 1000000000) := by apply hid; rw [hsh, List.length_append]; have := boxesF_le N1 news1; have := HF.out.bd; omega
      have HRUN := hid hrun
      have HNU := hid HF.out.nu'
      have HOK1 := hid HF.out.ok
      clear hrow hb1 hrun hown2 hk2 hs2 HBX hsh HF hnl
      go_wp2_with (first | (at_builtin; refine wpList_append_run rfl (.tmp 13) (.tmp 16) 22 rfl (.slice aq1 shut1.length kq1) (.slice ax (boxesF N1 news1).length kx) (.slice ao2 sh.length kc2) w2 rfl rfl HRUN.out ?_) | fail)
      clear HRUN
      obtain ⟨F, hF⟩ : ∃ F : Nat → (NM × List Bs) × List Bs, F = fun i => (sh.take i).foldl (passStep news1) ((N1, []), []) := ⟨_, rfl⟩
      have HF0 : Hid (F 0 = ((N1, []), [])) := by apply hid; rw [hF]; rfl
      have HFS : Hid (∀ i (hi : i < sh.length), F (i + 1) = passStep news1 (F i) sh[i]) := by
        apply hid; intro i hi; rw [hF]; simp only [List.take_succ_eq_append_getElem hi, List.foldl_append, List.foldl_cons, List.foldl_nil]
      have HFE : Hid (F sh.length = (shut1 ++ boxesF N1 news1).foldl (passStep news1) ((N1, []), [])) := by apply hid; rw [hF, ← HSH.out]; simp
      have HFB : Hid (∀ i, Ok U (F i).1.1 ∧ (F i).1.2.length + nu U (F i).1.1 ≤ nu U N1 ∧ (F i).2.length ≤ sh.length) := by
        apply hid; intro i
        obtain ⟨h1, h2, h3⟩ := pass_bound HU.out news1 (sh.take i) ((N1, []), []) (fun x hx => HSU.out x (List.mem_of_mem_take hx)) HOK1.out
        rw [hF]
        refine ⟨h1, by simpa using h2, Nat.le_trans h3 ?_⟩
        simp
        omega
      have HFM : Hid ((∀ x ∈ (F sh.length).1.2, x ∈ U) ∧ ∀ x ∈ (F sh.length).2, x ∈ U) := by
        apply hid
        rw [hF]
        simp only [List.take_length]
        exact pass_mem HU.out news1 sh ((N1, []), []) HSU.out HOK1.out (by simp) (by simp)
      clear hF HSH
      obtain ⟨n, hn⟩ : ∃ n, n = sh.length := ⟨_, rfl⟩
      have HN := hid hn
      have hnb : n < 1000000000 := by rw [hn]; exact HSB.out
      rw [← hn]
      have HFI2 := HFI
      rw [← hn] at HFI2
      clear hn HFI
      go_loopg [6, 7, 20] n (fun gg vm vt vi wr => ∃ (i : Nat) (am : Option Addr) (km : Nat) (au : Option Addr) (ku : Nat), i ≤ n ∧ gg = n - i ∧ vi = .int .i64 (i : Int) ∧ vm = .slice am (F i).1.2.length km ∧ vt = .slice au (F i).2.length ku ∧
        Fi U w (.slice aq shut.length kq) p b (F i).1 (.slice am (F i).1.2.length km) (.slice an1 nl kn1) news1 (.slice ao2 n kc2) sh (.slice au (F i).2.length ku) (F i).2 wr)
      case atStart => exact ⟨0, none, 0, none, 0, by omega, by omega, rfl, by rw [HF0.out]; rfl, by rw [HF0.out]; rfl, by rw [HF0.out]; exact HFI2.out⟩
      case round =>
        clear HFI2 HF0
        obtain ⟨i, am, km, au, ku, hi, rfl, rfl, rfl, rfl, hfi⟩ := hrel
        have HFI := hid hfi
        clear hfi
        by_cases hil : i < n
        · as_aux_lemma =>
          have hik : i < sh.length := by rw [← HN.out]; exact hil
          have hsr := HFI.out.srow
          obtain ⟨g, kc', hv, hg1, hg2, hcs⟩ := row_cells hsr (by omega)
          rw [← HN.out] at hv
          cases hv
          have hcell := hcs i hik
          have hbU := HSU.out sh[i] (List.getElem_mem hik)
          have HFX := hid (HFS.out i hik)
          generalize sh[i] = box at hcell hbU HFX
          have HBU := hid hbU
          have hbl : box.length ≤ 100000 := by have := (Tm.deep_is (HU.out.right box hbU)).2; omega
          obtain ⟨mx, hmx⟩ := HFI.out.g0.cell
          have HCO := hid (concern_any wr (.slice an1 nl kn1) news1 HFI.out.nrow (by have := HB32.out; have := HNL.out; omega) HNX.out box hbl mx hmx)
          have HBD := hid (HFB.out i)
          have HFI1 := HFI
          clear hsr hcs hbU hmx hg1 hg2
          -- what stays shut
          have STAYS : Hid (∀ W, Fi U w (.slice aq shut.length kq) p b (F i).1 (.slice am (F i).1.2.length km) (.slice an1 nl kn1) news1 (.slice (some ⟨g, 0, none⟩) n kc2) sh (.slice au (F i).2.length ku) (F i).2 W → ∃ ao5 kc5 w5, (∀ ty, (Builtin.append_ #[22, 22] ty #[.slice au (F i).2.length ku, .slice (some ⟨W.heap.size, 0, none⟩) 1 1]).run Tryz.prog (W.alloc (.cells #[St box] 29)) = .ok (.slice ao5 ((F i).2.length + 1) kc5) w5) ∧
              Fi U w (.slice aq shut.length kq) p b (F i).1 (.slice am (F i).1.2.length km) (.slice an1 nl kn1) news1 (.slice (some ⟨g, 0, none⟩) n kc2) sh (.slice ao5 ((F i).2.length + 1) kc5) ((F i).2 ++ [box]) w5) := by
            apply hid
            intro W hW
            obtain ⟨ao5, kc5, w5, h1, h2, h3, h4⟩ := append_kp W b (.slice au (F i).2.length ku) (F i).2 box hW.trow (by have := HBD.out.2.2; have := HN.out; omega)
            exact ⟨ao5, kc5, w5, h1, hW.stays h2 h3 h4⟩
          cases hcc : concernF news1 box
          · rw [hcc] at HCO
            have HPS : Hid (F (i + 1) = ((F i).1, (F i).2 ++ [box])) := by apply hid; rw [HFX.out]; unfold passStep; rw [hcc]; rfl
            obtain ⟨ao5, kc5, w5, hrun5, hfi5⟩ := STAYS.out wr HFI.out
            have HR5 := hid hrun5
            have HF5 := hid hfi5
            clear hrun5 hfi5
            go_wp2_with fail
            refine HCO.out.mono ?_
            rintro e w3 ⟨rfl, hw3⟩
            subst hw3
            go_wp2_with (first | (at_builtin; refine wpList_append_run rfl (.tmp 42) (.tmp 44) 22 rfl (.slice au (F i).2.length ku) (.slice (some ⟨w3.heap.size, 0, none⟩) 1 1) (.slice ao5 ((F i).2.length + 1) kc5) w5 rfl rfl HR5.out ?_) | fail)
            go_roundg (n - (i + 1))
            case measure => omega
            case rel =>
              refine ⟨i + 1, am, km, ao5, kc5, by omega, rfl, by go_num, ?_, ?_, ?_⟩
              · rw [HPS.out]
              · rw [HPS.out]; simp
              · rw [HPS.out]; simpa using HF5.out
          · rw [hcc] at HCO
            have hmp := HFI.out.mn.md.rm.cell
            have hlk := HFI.out.mn.md.rm.one box hbl
            have HKL : Hid ((nget (F i).1.1 box).key.length ≤ 100000) := by
              apply hid
              by_cases hk0 : (nget (F i).1.1 box).key = []
              · rw [hk0]; simp
              · obtain ⟨h66, m, hks⟩ := HBD.out.1.key box hk0
                have := (Tm.kids_right (HU.out.right box HBU.out) (by rw [hks]; simp : (nget (F i).1.1 box).key ∈ Tm.kidsOf 63 box)).2.2.1
                omega
            have HMK := hid (fun W (hW : Rm W p (some b) (F i).1.1) => makes_any W p (some b) (F i).1.1 (nget (F i).1.1 box).key hW HKL.out)
            have HPX : Hid (F (i + 1) = if mkF (F i).1.1 (nget (F i).1.1 box).key then (openF (F i).1 box, (F i).2) else ((F i).1, (F i).2 ++ [box])) := by
              apply hid; rw [HFX.out]; unfold passStep; rw [hcc]; rfl
            have HOP : Hid (mkF (F i).1.1 (nget (F i).1.1 box).key = true → ∀ W, Mn W p b (F i).1.1 (.slice am (F i).1.2.length km) (F i).1.2 → Calls Tryz.prog 57 #[.pointer (some ⟨p, 0, none⟩), St box, .slice am (F i).1.2.length km] W fun e w' => ∃ v', e = .returned v' ∧ Mn w' p b (openF (F i).1 box).1 v' (openF (F i).1 box).2 ∧ Kp W w' b (.slice am (F i).1.2.length km) v') := by
              apply hid
              intro hm W hW
              obtain ⟨hk, h66, m, hks⟩ := box_of HU.out HBD.out.1 hm
              exact open_any HU.out W p b (F i).1.1 _ (F i).1.2 hW HBD.out.1.dom box _ m HBU.out h66 hks rfl (by have := HBD.out.2.1; have := HB32.out; omega)
            have HOO : Hid (mkF (F i).1.1 (nget (F i).1.1 box).key = true → Ok U (openF (F i).1 box).1) := hid (fun hm => (openF_ok HU.out (l := (F i).1.2) HBD.out.1 HBU.out hm).1)
            generalize mkF (F i).1.1 (nget (F i).1.1 box).key = mk at HMK HPX HOP HOO
            generalize nget (F i).1.1 box = nt at hlk HMK
            obtain ⟨nh, nd, nk⟩ := nt
            simp only at HMK
            have hfd : ∀ W, Sem.run Tryz.prog (Instr.field 51 (.agg #[.bool nh, .bool nd, .string ⟨nk.toArray⟩]) 2) W = .ok (.string ⟨nk.toArray⟩) W := fun _ => rfl
            clear hcc HKL hbl
            go_wp2_with fail
            refine HCO.out.mono ?_
            rintro e w3 ⟨rfl, hw3⟩
            subst hw3
            go_wp2_with fail
            refine (HMK.out _ HFI.out.mn.md.rm).mono ?_
            rintro e w4 ⟨rfl, hb4⟩
            have HF4 := hid (HFI.out.below hb4)
            clear hb4 hmp hlk hfd
            cases mk
            · have HPS : Hid (F (i + 1) = ((F i).1, (F i).2 ++ [box])) := by apply hid; rw [HPX.out]; rfl
              obtain ⟨ao5, kc5, w5, hrun5, hfi5⟩ := STAYS.out w4 HF4.out
              have HR5 := hid hrun5
              have HF5 := hid hfi5
              clear hrun5 hfi5
              go_wp2_with (first | (at_builtin; refine wpList_append_run rfl (.tmp 42) (.tmp 44) 22 rfl (.slice au (F i).2.length ku) (.slice (some ⟨w4.heap.size, 0, none⟩) 1 1) (.slice ao5 ((F i).2.length + 1) kc5) w5 rfl rfl HR5.out ?_) | fail)
              go_roundg (n - (i + 1))
              case measure => omega
              case rel =>
                refine ⟨i + 1, am, km, ao5, kc5, by omega, rfl, by go_num, ?_, ?_, ?_⟩
                · rw [HPS.out]
                · rw [HPS.out]; simp
                · rw [HPS.out]; simpa using HF5.out
            · have HPS : Hid (F (i + 1) = (openF (F i).1 box, (F i).2)) := by apply hid; rw [HPX.out]; rfl
              have HO5 := hid (HOP.out rfl w4 HF4.out.mn)
              have HOK := hid (HOO.out rfl)
              go_wp2_with fail
              refine HO5.out.mono ?_
              rintro e w5 ⟨v5, rfl, hmn5, hkp5⟩
              have HF5 := hid (HF4.out.opened hmn5 hkp5 HOK.out)
              obtain ⟨am5, km5, hv5⟩ := own_shape hmn5.row
              subst hv5
              clear hmn5 hkp5
              go_wp2_with fail
              go_roundg (n - (i + 1))
              case measure => omega
              case rel =>
                refine ⟨i + 1, am5, km5, au, ku, by omega, rfl, by go_num, ?_, ?_, ?_⟩
                · rw [HPS.out]
                · rw [HPS.out]
                · rw [HPS.out]; exact HF5.out
        · obtain rfl : i = n := by omega
          have HFI1 := HFI
          clear HFI
          go_wp2_with fail
          go_roundg (2 * nu U (F i).1.1 + (if (F i).1.2 = [] then 0 else 1))
          case measure =>
            have h1 := (HFB.out i).2.1
            try rw [if_neg HNN.out]
            by_cases e : (F i).1.2 = []
            · rw [if_pos e]; omega
            · rw [if_neg e]; have := List.length_pos_iff.2 e; omega
          case rel =>
            have hfi := HFI1.out
            have hb := HFB.out i
            refine ⟨(F i).1.1, (F i).1.2, (F i).2, am, km, au, ku, rfl, rfl, rfl, ⟨hfi.mn, hfi.trow, hfi.a3.symm, ⟨hfi.kp.os, hfi.kp.tape, hfi.kp.output, hfi.kp.size, hfi.kp.block, fun g e => Or.inr (hfi.nt g e)⟩, hb.1, ?_, ?_, hfi.g0, ?_⟩, fun M hM => ?_⟩
            · rw [HN.out]; exact HFM.out.1
            · rw [HN.out]; exact HFM.out.2
            · have h2 := hb.2.1; have h3 := hb.2.2; have h4 := HSB2.out; omega
            · refine HFO.out M (Follow.step HNN.out ?_)
              rw [HN.out, HFE.out] at hM
              exact hM
end Go.Proofs.YtfnnhekjeobicaaGreatDoor
