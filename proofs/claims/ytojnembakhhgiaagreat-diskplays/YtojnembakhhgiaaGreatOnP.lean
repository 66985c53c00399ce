/- On: the walk. -/
import Derived.Test.YtojnembakhhgiaaGreatOnnAll
namespace Go.Proofs.YtojnembakhhgiaaGreat
open Go.RowKit Go.Maps Go.WideElems

/-- the disk's own block when the power is back -/
theorem Dv.fin {w : World} {d : Nat} {s : Ds} {mb : Option Nat} {ms : List Fm} (h : Dv w d s mb ms) : Dv ((((w.setCell ⟨d, 6, none⟩ (.bool false)).setCell ⟨d, 3, none⟩ (.bool false)).setCell ⟨d, 4, none⟩ (.int .i64 0)).setCell ⟨d, 5, none⟩ (.int .u64 0)) d { s with off := false, set := false, inn := 0, keep := 0 } mb ms := by
  refine h.upd rfl rfl ⟨h.ok.quota, h.ok.nos, h.ok.names, h.ok.lens, h.ok.few, h.ok.next, h.ok.pgs, h.ok.own, h.ok.rise⟩ ⟨h.small.1, by show 0 < 9223372036854775808; omega, by show 0 < 18446744073709551616; omega⟩ ?_ (fun g hg => ?_)
  · rw [heap_setCell_same (heap_setCell_same (heap_setCell_same (heap_setCell_same h.blk 6 _) 3 _) 4 _) 5 _]
    rfl
  · have hne := h.not_d hg
    rw [Below.heap_setCell _ _ _ _ hne, Below.heap_setCell _ _ _ _ hne, Below.heap_setCell _ _ _ _ hne, Below.heap_setCell _ _ _ _ hne]
theorem kf_fin (w : World) (d : Nat) : Kf [d] w ((((w.setCell ⟨d, 6, none⟩ (.bool false)).setCell ⟨d, 3, none⟩ (.bool false)).setCell ⟨d, 4, none⟩ (.int .i64 0)).setCell ⟨d, 5, none⟩ (.int .u64 0)) :=
  (((Kf.set w (List.mem_singleton.2 rfl) _ _).trans (Kf.set _ (List.mem_singleton.2 rfl) _ _) (fun _ hg => .inl hg)).trans (Kf.set _ (List.mem_singleton.2 rfl) _ _) (fun _ hg => .inl hg)).trans (Kf.set _ (List.mem_singleton.2 rfl) _ _) (fun _ hg => .inl hg)
set_option maxRecDepth 100000 in
set_option maxHeartbeats 8000000 in
theorem on_any (w : World) (d : Nat) (s : Ds) (mb : Option Nat) (ms : List Fm) (h : Dv w d s mb ms) (hq : usedN s ≤ s.quota) :
    Calls Tryz.prog 13 #[.pointer (some ⟨d, 0, none⟩)] w fun e w' => e = .returned (.tuple #[]) ∧ Left w d mb ms (onD s) w' := by
  have HOF := hid (off_any w d s mb ms h)
  cases ho : s.off with
  | false =>
    rw [ho] at HOF
    have HF : Hid (Left w d mb ms (onD s) w) := hid (by
      have : onD s = s := by unfold onD; rw [if_pos ho]
      rw [this]
      exact Left.stay h (Below.refl _ _))
    clear h hq ho
    go_enter Tryz.func13, Tryz.ntmps13
    go_wp2_with fail
    refine HOF.out.mono ?_
    rintro e w1 ⟨rfl, hw⟩
    subst hw
    go_wp2_with fail
    refine bodyPost_ret (results_none rfl _ _ _) rfl ?_
    exact ⟨rfl, HF.out⟩
  | true =>
    rw [ho] at HOF
    have HSTA := hid (stays_any w d s mb ms h)
    have HH := hid h
    have HQ := hid hq
    have HO := hid ho
    clear h hq ho
    go_enter Tryz.func13, Tryz.ntmps13
    go_wp2_with fail
    refine HOF.out.mono ?_
    rintro e w1 ⟨rfl, hw⟩
    subst hw
    go_wp2_with fail
    refine HSTA.out.mono ?_
    rintro e wa ⟨fv, L, rfl, ⟨v, rfl, hsty, hba, hva⟩, K0, hK0, hL⟩
    have hDa := HH.out.low hba
    have c1 : wa.cell? ⟨d, 1, none⟩ = some (.map mb) := (cell_of_heap hDa.blk 1).trans rfl
    have HSTY := hid hsty
    have HBA := hid hba
    have HVA := hid hva
    have HK0 := hid hK0
    have HL := hid hL
    cases mb with
    | none =>
      have hfs : s.files = [] := HH.out.nomap rfl
      have hon : onD s = { s with off := false, set := false, inn := 0, keep := 0 } := by
        rw [rst_all HH.out.ok HO.out (K := []) (by rw [hfs]; exact List.Perm.nil), rst_nil]
      have hrg := run_range_nilMap (P := Tryz.prog) wa 52 9 61 Tryz.underlying52
      have hnx : ∀ ty, (Instr.next (.pointer (some ⟨wa.heap.size, 0, none⟩)) false ty).run Tryz.prog (wa.alloc (.mapIter none 0 #[] 0)) = _ := fun ty => run_next_nilMap wa ty 0 0 #[]
      obtain ⟨wb, hwb⟩ : ∃ wb, wb = wa.alloc (.mapIter none 0 #[] 0) := ⟨_, rfl⟩
      have hbb : Below wa.heap.size wa wb := hwb ▸ (Below.refl _ _).alloc (Nat.le_refl _) _
      have hDb := hDa.low hbb
      have c6 : wb.cell? ⟨d, 6, none⟩ = some (.bool s.off) := (cell_of_heap hDb.blk 6).trans rfl
      have c3 : wb.cell? ⟨d, 3, none⟩ = some (.bool s.set) := (cell_of_heap hDb.blk 3).trans rfl
      have c4 : wb.cell? ⟨d, 4, none⟩ = some (.int .i64 (s.inn : Int)) := (cell_of_heap hDb.blk 4).trans rfl
      have c5 : wb.cell? ⟨d, 5, none⟩ = some (.int .u64 (s.keep : Int)) := (cell_of_heap hDb.blk 5).trans rfl
      have f6 := frozen_of_heap hDb.blk 6
      have f3 := frozen_of_heap hDb.blk 3
      have f4 := frozen_of_heap hDb.blk 4
      have f5 := frozen_of_heap hDb.blk 5
      have HF : Hid (Left w1 d none ms (onD s) ((((wb.setCell ⟨d, 6, none⟩ (.bool false)).setCell ⟨d, 3, none⟩ (.bool false)).setCell ⟨d, 4, none⟩ (.int .i64 0)).setCell ⟨d, 5, none⟩ (.int .u64 0))) := hid (by
        rw [hon]
        exact ⟨none, ms, hDb.fin, ((below_kf (below_comp HBA.out hbb)).trans (kf_fin wb d) (fun g hg => .inl (by rw [List.mem_singleton.1 hg]; simp [Fp]))), fun g hg => .inl hg⟩)
      clear hfs hon hDa hbb hDb hsty hba hva hK0 hL
      subst hwb
      go_wp2_with go_in
      refine wp_loop_rounds 1 ?_
      rw [rounds_succ]
      go_wp2_with fail
      refine bodyPost_end (results_none rfl _ _ _) rfl ?_
      exact ⟨rfl, HF.out⟩
    | some b =>
      obtain ⟨n, D, h1, h2, h3⟩ := (hDa.map b rfl).own
      have HD3 := hid h3
      have HP0 := hid (part_nil _ D h2)
      have HOM := hid h1
      have HDA := hid hDa
      clear hDa h1 h2 h3 hsty hba hva hK0 hL
      go_wp2_with (first
        | (at_range; refine wpList_range_own _ rfl _ 52 rfl 9 61 law9 Tryz.underlying52 _ b n _ rfl HOM.out ?_; intro wb hrg0 hg0 hs1)
        | go_in)
      go_frame
      have HBB : Hid (Below wa.heap.size wa wb) := hid ⟨hg0.os, hg0.tape, hg0.output, hg0.size, fun k hk => hg0.block k hk (by simp)⟩
      have HR0 := hid hrg0
      have HZB := hid hs1
      have HOV0 : Hid (Ov wa.heap.size wb d s b ms [] ms wb) := hid ⟨by rw [rst_nil]; exact HDA.out.low HBB.out, rfl, fun _ _ _ => rfl, Kf.refl _ _, fun g hg => .inl hg⟩
      clear hrg0 hg0 hs1 c1
      go_loopw [] (fun wr => ∃ K left cnt ms', wr.ranges Tryz.prog 9 ptrR b wa.heap.size n D left cnt ∧ Part (namesOf s ms) K left ∧ Ov wa.heap.size wb d s b ms K ms' wr)
        (fun wr => wr.rangeLeft b wa.heap.size)
      case atStart => exact ⟨[], _, _, ms, HR0.out, HP0.out, HOV0.out⟩
      case round =>
        clear HR0 HOV0 HP0 HOM
        obtain ⟨K, left, cnt, ms', hrg, hpt, hovr⟩ := hrel
        have HRG := hid hrg
        have HPT := hid hpt
        have HOV := hid hovr
        clear hrg hpt hovr
        go_wp2_with (first
          | (at_next; refine next_file _ rfl rfl _ rfl b wa.heap.size n _ _ _ rfl HRG.out ?_ ?_)
          | go_in)
        · intro _ hl0
          have hpm := HPT.out.perm HH.out.ok HH.out.len hl0
          have hDb := HOV.out.dv
          have c6 : wr.cell? ⟨d, 6, none⟩ = some (.bool s.off) := (cell_of_heap hDb.blk 6).trans rfl
          have c3 : wr.cell? ⟨d, 3, none⟩ = some (.bool s.set) := (cell_of_heap hDb.blk 3).trans rfl
          have c4 : wr.cell? ⟨d, 4, none⟩ = some (.int .i64 (s.inn : Int)) := (cell_of_heap hDb.blk 4).trans rfl
          have c5 : wr.cell? ⟨d, 5, none⟩ = some (.int .u64 (s.keep : Int)) := (cell_of_heap hDb.blk 5).trans rfl
          have f6 := frozen_of_heap hDb.blk 6
          have f3 := frozen_of_heap hDb.blk 3
          have f4 := frozen_of_heap hDb.blk 4
          have f5 := frozen_of_heap hDb.blk 5
          have HF : Hid (Left w1 d (some b) ms (onD s) ((((wr.setCell ⟨d, 6, none⟩ (.bool false)).setCell ⟨d, 3, none⟩ (.bool false)).setCell ⟨d, 4, none⟩ (.int .i64 0)).setCell ⟨d, 5, none⟩ (.int .u64 0))) := hid (by
            rw [rst_all HH.out.ok HO.out hpm]
            have hwab : w1.heap.size ≤ wa.heap.size := HBA.out.size
            have hwbb := HZB.out
            refine ⟨some b, ms', hDb.fin, ?_, fun g hg => ?_⟩
            · refine ((below_kf (below_comp HBA.out HBB.out)).trans HOV.out.kf (fun g hg => ?_)).trans (kf_fin wr d) (fun g hg => .inl (by rw [List.mem_singleton.1 hg]; simp [Fp]))
              rcases List.mem_cons.1 hg with e | e
              · exact .inr (by omega)
              · exact .inl (by unfold Fp; simp only [List.mem_cons, List.mem_append]; exact .inr (.inr e))
            · unfold Fp at hg ⊢
              simp only [List.mem_cons, List.mem_append] at hg ⊢
              rcases hg with e | e | e
              · exact .inl (.inl e)
              · exact .inl (.inr (.inl e))
              · rcases HOV.out.new g e with h | h
                · exact .inl (.inr (.inr h))
                · exact .inr (by omega))
          clear hl0 hpm hDb
          go_wp2_with fail
          refine bodyPost_end (results_none rfl _ _ _) rfl ?_
          exact ⟨rfl, HF.out⟩
        · intro t m w2 cnt1 hl hat hrg1 hlt hg1 hs2 hen
          have hpt1 := HPT.out.step hl
          have h0 := HD3.out t
          rw [hat] at h0
          have hm := pd_inj h0
          obtain ⟨hsm, htK⟩ := HPT.out.new hl
          obtain ⟨p, hp⟩ : ∃ p, namesOf s ms t = some p := Option.isSome_iff_exists.1 hsm
          rw [hp] at hm
          subst hm
          have hwab : w1.heap.size ≤ wa.heap.size := HBA.out.size
          have hwbb := HZB.out
          obtain ⟨ix, hi, hi', en, ep⟩ := names_pos HH.out.len hp
          have him : ix < ms'.length := by rw [HOV.out.len]; exact hi'
          have hltF : ∀ g ∈ ms.flatMap Fm.blocks, g < w1.heap.size := fun g hg => HH.out.lt (by unfold Fp; simp only [List.mem_cons, List.mem_append]; exact .inr (.inr hg))
          have hdl : d < w1.heap.size := lt_of_block HH.out.blk
          have hbl1 : b < w1.heap.size := HH.out.lt (by unfold Fp; simp)
          have hrF : wa.heap.size ∉ Fp d (some b) ms' := fun hm => by
            unfold Fp at hm
            simp only [List.mem_cons, List.mem_append, Option.toList_some, List.not_mem_nil, or_false] at hm
            rcases hm with e | e | e
            · omega
            · omega
            · rcases HOV.out.new _ e with h | h
              · have := hltF _ h; omega
              · omega
          have hov2 := HOV.out.turn hg1 hrF
          have hsty2 : Sty w2 d (w1.heap.size + 1) w1.heap.size s.keep v (isorted L) (dcs s (some b)) := by
            have hs1 := HSTY.out.same (w' := wb) (fun g hg => HBB.out.block g (HSTY.out.lt g hg))
            refine hs1.same (fun g hg => hov2.kf.blk g (hs1.lt g hg) (fun hm => ?_))
            have hga := HSTY.out.lt g hg
            rcases List.mem_cons.1 hm with e | e
            · omega
            · have h7 := hltF g e
              simp only [List.mem_cons] at hg
              rcases hg with e2 | e2 | e2 | e2
              · exact HH.out.not_d (g := g) (by simp only [List.mem_append]; exact .inr e) e2
              · omega
              · omega
              · have := HVA.out g e2
                omega
          have hfm : s.files[ix] ∈ s.files := List.getElem_mem hi
          have hri : ix < (rst s K).files.length := by show ix < (s.files.map _).length; rw [List.length_map]; exact hi
          have hrf : (rst s K).files[ix] = s.files[ix] := by
            have e1 : (rst s K).files[ix] = rs s K s.files[ix] := List.getElem_map (rs s K)
            rw [e1]
            unfold rs
            rw [if_neg (by rw [en]; exact htK)]
          have hof : ofNo (rst s K).opn s.files[ix].no = ofNo s.opn s.files[ix].no := by rw [rst_of HH.out.ok _ hfm, if_neg (by rw [en]; exact htK)]
          have hfa := hov2.dv.fil ix hri him
          rw [hrf, hof] at hfa
          have hbn := blocks_nodup hov2.dv (List.getElem_mem him)
          have hpl : (pagesOf s s.files[ix]).length ≤ 65536 := Nat.le_trans (used_file hfm) (Nat.le_trans HQ.out HH.out.ok.quota)
          have hws : (ofNo s.opn s.files[ix].no).length ≤ 1000000 := by
            have h5 := opn_len HH.out.ok
            have h6 : (ofNo s.opn s.files[ix].no).length ≤ s.opn.length := List.length_filter_le _ _
            have := HH.out.small.1
            omega
          have hpp : (ms'[ix]).p = p := (HOV.out.ps ix hi' him).trans ep
          have hkp : layAll s.files[ix].settled ((ofNo s.opn s.files[ix].no).filter (stB s.keep (isorted L))) = keptS s s.files[ix] := by
            rw [HL.out, stay_file HH.out.ok HK0.out]
            rfl
          have hcall := restore_any w2 ms'[ix] _ _ _ d (w1.heap.size + 1) w1.heap.size s.keep v (isorted L) (dcs s (some b)) hsty2 hfa hbn.1 (fun g hg hm => ?_) (HH.out.ok.pgs _ hfm) (fun x hx => (HH.out.ok.own x (List.mem_filter.1 hx).1).1) (by show (pagesOf s s.files[ix]).length ≤ 100000; omega) hws
          · rw [hkp, hpp] at hcall
            have HRE : Hid (Calls Tryz.prog 41 #[.pointer (some ⟨p, 0, none⟩), fnV (w1.heap.size + 1) w1.heap.size] w2 fun e w' => e = .returned (.tuple #[]) ∧ ∃ ms2, Ov wa.heap.size wb d s b ms (K ++ [t]) ms2 w' ∧ w'.ranges Tryz.prog 9 ptrR b wa.heap.size n D (fun z => left z && !z.sameKey (.string t)) cnt1) := hid (by
              refine hcall.mono ?_
              rintro e w' ⟨rfl, hR⟩
              have hk := hR
              obtain ⟨m', _, _, hk, _⟩ := hk
              obtain ⟨ms2, hov3⟩ := hov2.step HH.out.ok HH.out.len hi him hR
              rw [en] at hov3
              refine ⟨rfl, ms2, hov3, ranges_same hrg1 (hk.blk b ?_ ?_) (hk.blk _ ?_ ?_)⟩
              · exact hov2.dv.lt (by unfold Fp; simp)
              · intro hm
                have hap := hov2.dv.apart
                have h8 := (List.nodup_append.1 (List.nodup_cons.1 hap).2).2.2 b (by simp) b (List.mem_flatMap.2 ⟨_, List.getElem_mem him, hm⟩)
                exact h8 rfl
              · rw [hs2]
                have := HOV.out.kf.size
                omega
              · intro hm
                exact hrF (hbn.2.2 _ hm))
            have HPT1 := hid hpt1
            have HLT := hid hlt
            have hen2 : (Instr.entry (.pointer (some ⟨wa.heap.size, 0, none⟩))).run Tryz.prog w2 = .ok (.tuple #[St t, .pointer (some ⟨p, 0, none⟩)]) w2 := hen
            clear hcall hkp hpp hws hpl hbn hfa hof hrf hri hfm hsty2 hov2 hrF hbl1 hdl hltF him en ep hi hi' hwbb hwab hp hsm htK h0 hpt1 hat hl hrg1 hlt hg1 hs2 hen
            simp only [pv]
            go_wp2_with fail
            refine HRE.out.mono ?_
            rintro e w3 ⟨rfl, ms2, hov3, hrg3⟩
            have HO3 := hid hov3
            have HR3 := hid hrg3
            clear hov3 hrg3
            go_wp2_with fail
            go_roundw
            case rel => exact ⟨K ++ [t], _, cnt1, ms2, HR3.out, HPT1.out, HO3.out⟩
            case measure => rw [HR3.out.left_eq, HRG.out.left_eq]; exact HLT.out
          · have h9 : g ∈ ms'.flatMap Fm.blocks := List.mem_flatMap.2 ⟨_, List.getElem_mem him, hm⟩
            have hga := HSTY.out.lt g hg
            simp only [List.mem_cons] at hg
            rcases HOV.out.new g h9 with h | h
            · have h7 := hltF g h
              rcases hg with e2 | e2 | e2 | e2
              · exact HH.out.not_d (g := g) (by simp only [List.mem_append]; exact .inr h) e2
              · omega
              · omega
              · have := HVA.out g e2
                omega
            · omega
end Go.Proofs.YtojnembakhhgiaaGreat
