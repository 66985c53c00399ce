import Derived.Test.YtojnembakhhgiaaGreatOnjAll
/- Which writes stay. No program in it. -/
namespace Go.Proofs.YtojnembakhhgiaaGreat

theorem part_perm : ∀ (fs : List Df) (ws : List Dw), (fs.map Df.no).Nodup → (∀ x ∈ ws, ∃ f ∈ fs, f.no = x.no) → (fs.flatMap fun f => ofNo ws f.no).Perm ws
  | [], ws, _, h => by
    have : ws = [] := by
      cases ws with
      | nil => rfl
      | cons x ws => obtain ⟨f, hf, _⟩ := h x (by simp); cases hf
    subst this
    exact List.Perm.nil
  | f :: fs, ws, hn, h => by
    obtain ⟨h1, h2⟩ := List.nodup_cons.1 (by simpa using hn : (f.no :: fs.map Df.no).Nodup)
    have ih := part_perm fs (notNo ws f.no) h2 (fun x hx => by
      obtain ⟨hx1, hx2⟩ := List.mem_filter.1 hx
      obtain ⟨g, hg, e⟩ := h x hx1
      rcases List.mem_cons.1 hg with rfl | hg
      · simp [e] at hx2
      · exact ⟨g, hg, e⟩)
    have e : (fs.flatMap fun g => ofNo ws g.no) = fs.flatMap fun g => ofNo (notNo ws f.no) g.no := by
      rw [List.flatMap_def, List.flatMap_def]
      congr 1
      apply List.map_congr_left
      intro g hg
      exact (of_not (fun e => h1 (by rw [e]; exact List.mem_map.2 ⟨g, hg, rfl⟩))).symm
    rw [List.flatMap_cons, e]
    refine (List.Perm.append_left _ ih).trans ?_
    have : notNo ws f.no = ws.filter (fun w => !(w.no == f.no)) := by
      unfold notNo
      rfl
    rw [this]
    exact List.filter_append_perm _ _
theorem opn_perm {s : Ds} (h : Dok s) : (s.files.flatMap fun f => ofNo s.opn f.no).Perm s.opn := part_perm _ _ h.nos (fun x hx => (h.own x hx).2.2)
theorem steps_perm {s : Ds} (h : Dok s) {K : List Bs} (hK : K.Perm (s.files.map Df.name)) : (K.flatMap (stepsOf s)).Perm (s.opn.map fun x => (x.step : Int)) := by
  refine (List.Perm.flatMap_right _ hK).trans ?_
  have e : (s.files.map Df.name).flatMap (stepsOf s) = (s.files.flatMap fun f => ofNo s.opn f.no).map fun x => (x.step : Int) := by
    rw [List.flatMap_map, List.map_flatMap]
    rw [List.flatMap_def, List.flatMap_def]
    congr 1
    apply List.map_congr_left
    intro f hf
    unfold stepsOf
    rw [find_is h hf]
  rw [e]
  exact (opn_perm h).map _
theorem flat_len {α : Type} (g : Bs → List α) : ∀ (K L : List Bs), K.Nodup → (∀ x ∈ K, x ∈ L) → (K.flatMap g).length ≤ (L.flatMap g).length := by
  intro K
  induction K with
  | nil => intro L _ _; exact Nat.zero_le _
  | cons a K ih =>
    intro L hn hs
    obtain ⟨h1, h2⟩ := List.nodup_cons.1 hn
    have ha := hs a (by simp)
    have h3 := ih (L.erase a) h2 (fun x hx => (List.mem_erase_of_ne (fun e : x = a => h1 (e ▸ hx))).2 (hs x (by simp [hx])))
    have h4 := (List.Perm.flatMap_right g (List.perm_cons_erase ha)).length_eq
    rw [h4]
    simp only [List.flatMap_cons, List.length_append]
    omega
theorem steps_len {s : Ds} (h : Dok s) {K : List Bs} (hn : K.Nodup) (hs : ∀ x ∈ K, x ∈ s.files.map Df.name) : (K.flatMap (stepsOf s)).length ≤ s.steps := by
  have h1 := flat_len (stepsOf s) K _ hn hs
  have h2 := (steps_perm h (List.Perm.refl _)).length_eq
  rw [List.length_map] at h2
  have := opn_len h
  omega
/-- the number of a write among those that are open -/
theorem stay_eq (keep : Nat) (Q : Int → Nat) : ∀ (ws : List Dw) (n : Nat), (ws.map Dw.step).Pairwise (· < ·) → (∀ i (hi : i < ws.length), Q (ws[i].step : Int) = n + i) → stay keep n ws = ws.filter fun x => bitK keep (Q (x.step : Int))
  | [], _, _, _ => rfl
  | w :: ws, n, hp, hQ => by
    have h0 := hQ 0 (by simp)
    simp only [List.getElem_cons_zero, Nat.add_zero] at h0
    have ih := stay_eq keep Q ws (n + 1) (List.pairwise_cons.1 hp).2 (fun i hi => by
      have := hQ (i + 1) (by simpa using hi)
      simp only [List.getElem_cons_succ] at this
      omega)
    rw [stay, List.filter_cons, h0, ih]
theorem count_rise : ∀ (l : List Int), l.Pairwise (· < ·) → ∀ i (hi : i < l.length), l.countP (· < l[i]) = i
  | [], _, i, hi => by simp at hi
  | a :: l, hp, 0, _ => by
    obtain ⟨h1, h2⟩ := List.pairwise_cons.1 hp
    rw [List.countP_eq_zero]
    intro x hx
    rcases List.mem_cons.1 hx with rfl | hx
    · simp
    · have := h1 x hx
      simp
      omega
  | a :: l, hp, i + 1, hi => by
    obtain ⟨h1, h2⟩ := List.pairwise_cons.1 hp
    have hi' : i < l.length := by simpa using hi
    have h3 := h1 l[i] (List.getElem_mem hi')
    rw [List.getElem_cons_succ, List.countP_cons_of_pos (by simpa using h3), count_rise l h2 i hi']
theorem isorted_perm (l : List Int) : (isorted l).Perm l := List.mergeSort_perm _ _
theorem stay_all {s : Ds} (h : Dok s) {K : List Bs} (hK : K.Perm (s.files.map Df.name)) : stay s.keep 0 s.opn = s.opn.filter (stB s.keep (isorted (K.flatMap (stepsOf s)))) := by
  refine stay_eq s.keep (fun z => (isorted (K.flatMap (stepsOf s))).countP (· < z)) s.opn 0 h.rise (fun i hi => ?_)
  have hp := (isorted_perm (K.flatMap (stepsOf s))).trans (steps_perm h hK)
  rw [Nat.zero_add]
  rw [hp.countP_eq]
  have hpw : (s.opn.map fun x => (x.step : Int)).Pairwise (· < ·) := by
    have := h.rise
    rw [List.pairwise_map] at this ⊢
    exact this.imp (fun h => by omega)
  have := count_rise _ hpw i (by simpa using hi)
  simpa using this
theorem stay_file {s : Ds} (h : Dok s) {K : List Bs} (hK : K.Perm (s.files.map Df.name)) (no : Nat) : (ofNo s.opn no).filter (stB s.keep (isorted (K.flatMap (stepsOf s)))) = ofNo (stay s.keep 0 s.opn) no := by
  rw [stay_all h hK]
  unfold ofNo
  rw [List.filter_filter, List.filter_filter]
  congr 1
  funext x
  rw [Bool.and_comm]
end Go.Proofs.YtojnembakhhgiaaGreat

/- stays: the walk. -/
namespace Go.Proofs.YtojnembakhhgiaaGreat
open Go.RowKit Go.Maps Go.WideElems

/-- what stays hands out -/
def Std (w : World) (d keep : Nat) (C : Array Value) (L : List Int) (fv : Value) (w' : World) : Prop := ∃ v, fv = fnV (w.heap.size + 1) w.heap.size ∧ Sty w' d (w.heap.size + 1) w.heap.size keep v (isorted L) C ∧ Below w.heap.size w w' ∧ ∀ g ∈ ob v, w.heap.size ≤ g
theorem Sx.std {w : World} {d : Nat} {wr w' : World} {v : Value} {l : List Int} {C : Array Value} {keep : Nat} (h : Sx w d wr v l) (hd : w.heap[d]? = some (.cells C 56 (0, 0))) (hc5 : C[5]? = some (.int .u64 (keep : Int))) (hk : keep < 18446744073709551616) (hl : l.length < 1000000) (hr : w'.ownsRow (w.heap.size + 3) 3 1 v (isorted l).length ((isorted l).map (Value.int .i64))) (hg : wr.grownBy w' v.ownBlock) : Std w d keep C l (fnV (w.heap.size + 1) w.heap.size) w' := by
  have hs := h.size
  have hne : ∀ g, g < w.heap.size + 3 → w'.heap[g]? = wr.heap[g]? := fun g hgl => hg.block g (by omega) (fun e => by have := (own_ge h.row e.symm).1; omega)
  have hdl := lt_of_block hd
  refine ⟨v, rfl, ⟨?_, hc5, hk, ?_, ?_, ?_, ?_, ?_⟩, ?_, fun g hm => ?_⟩
  · rw [hne d (by omega), h.low.block d hdl]
    exact hd
  · rw [cell_of_heap ((hne _ (by omega)).trans h.cell)]
    rfl
  · rw [cell_of_heap ((hne _ (by omega)).trans h.box)]
    rfl
  · exact ⟨hr.1, hr.2.imp id (fun ⟨g, cap, cur, e1, e2, e3⟩ => ⟨g, cap, cur, e1, Nat.zero_le _, e3⟩)⟩
  · rw [isorted_length]; exact hl
  · have := List.pairwise_mergeSort (le := fun x y : Int => decide (x ≤ y)) (fun a b c h1 h2 => by simp at h1 h2 ⊢; omega) (fun a b => by simp; omega) l
    exact this.imp (fun h => by simpa using h)
  · exact ⟨hg.os.trans h.low.os, hg.tape.trans h.low.tape, hg.output.trans h.low.output, Nat.le_trans h.low.size hg.size, fun g hgl => (hne g (by omega)).trans (h.low.block g hgl)⟩
  · have := (own_ge h.row (mem_ob.1 hm)).1
    omega
theorem row_shape2 {w : World} {base : Nat} {e : TypeId} {sz : Nat} {v : Value} {n : Nat} {xs : List Value} (h : w.ownsRow base e sz v n xs) : ∃ ao cap, v = .slice ao n cap := by
  rcases h.2 with ⟨h1, h2⟩ | ⟨g, cap, _, h1, _⟩
  · rw [h2]; exact ⟨_, _, h1⟩
  · exact ⟨_, _, h1⟩
set_option maxRecDepth 100000 in
set_option maxHeartbeats 8000000 in
theorem stays_any (w : World) (d : Nat) (s : Ds) (mb : Option Nat) (ms : List Fm) (h : Dv w d s mb ms) :
    Calls Tryz.prog 40 #[.pointer (some ⟨d, 0, none⟩)] w fun e w' => ∃ fv L, e = .returned fv ∧ Std w d s.keep (dcs s mb) L fv w' ∧ ∃ K : List Bs, K.Perm (s.files.map Df.name) ∧ L = K.flatMap (stepsOf s) := by
  obtain ⟨w0, hw0⟩ : ∃ w0, w0 = (w.alloc (.cells #[.pointer (some ⟨d, 0, none⟩)] 24)).alloc (.cells #[.slice none 0 0] 97) := ⟨_, rfl⟩
  have hb0 : Below w.heap.size w w0 := hw0 ▸ ((Below.refl _ _).alloc (Nat.le_refl _) _).alloc (by simp) _
  have hs0 : w0.heap.size = w.heap.size + 2 := by rw [hw0]; simp
  have x0 : w0.heap[w.heap.size]? = some (.cells #[.pointer (some ⟨d, 0, none⟩)] 24 (0, 0)) := by
    rw [hw0, Below.heap_alloc _ _ _ (by simp)]
    exact heap_alloc_new _ _
  have x1 : w0.heap[w.heap.size + 1]? = some (.cells #[.slice none 0 0] 97 (0, 0)) := by
    have := heap_alloc_new (w.alloc (.cells #[.pointer (some ⟨d, 0, none⟩)] 24)) (.cells #[.slice none 0 0] 97)
    rw [hw0]
    simpa using this
  have hD0 := h.low hb0
  have c1 : w0.cell? ⟨d, 1, none⟩ = some (.map mb) := (cell_of_heap hD0.blk 1).trans rfl
  have c0 : w0.cell? ⟨w.heap.size, 0, none⟩ = some (.pointer (some ⟨d, 0, none⟩)) := (cell_of_heap x0 0).trans rfl
  have HH := hid h
  have hopn := opn_len h.ok
  have hst := h.small.1
  have HX : Hid (∀ W, Below w0.heap.size w0 W → w.heap.size + 3 ≤ W.heap.size → Sx w d W (.slice none 0 0) []) := hid (fun W hB hz => ⟨(hB.block _ (by omega)).trans x0, (hB.block _ (by omega)).trans x1, World.ownsRow_nil _ _ _ _, below_comp hb0 hB, hz⟩)
  have HFN : Hid (∀ W W' v l, Sx w d W v l → l.length < 1000000 → W'.ownsRow (w.heap.size + 3) 3 1 v (isorted l).length ((isorted l).map (Value.int .i64)) → W.grownBy W' v.ownBlock → Std w d s.keep (dcs s mb) l (fnV (w.heap.size + 1) w.heap.size) W') := hid (fun W W' v l hx hl hr hg => hx.std h.blk rfl h.small.2.2 hl hr hg)
  cases mb with
  | none =>
    have hfs : s.files = [] := h.nomap rfl
    have hrg := run_range_nilMap (P := Tryz.prog) w0 52 9 61 Tryz.underlying52
    have hnx : ∀ ty, (Instr.next (.pointer (some ⟨w0.heap.size, 0, none⟩)) false ty).run Tryz.prog (w0.alloc (.mapIter none 0 #[] 0)) = _ := fun ty => run_next_nilMap w0 ty 0 0 #[]
    rw [hs0] at hrg hnx
    have HX0 := hid (HX.out (w0.alloc (.mapIter none 0 #[] 0)) ((Below.refl _ _).alloc (Nat.le_refl _) _) (by simp; omega))
    have c3 : (w0.alloc (.mapIter none 0 #[] 0)).cell? ⟨w.heap.size + 1, 0, none⟩ = some (.slice none 0 0) := (cell_of_heap HX0.out.cell 0).trans rfl
    have HSO := hid (isort_all (w0.alloc (.mapIter none 0 #[] 0)) (w.heap.size + 3) (.slice none 0 0) [] HX0.out.row (by simp))
    have HK : Hid (∃ K : List Bs, K.Perm (s.files.map Df.name) ∧ ([] : List Int) = K.flatMap (stepsOf s)) := hid ⟨[], by rw [hfs]; exact List.Perm.nil, rfl⟩
    clear h hb0 x0 x1 hD0 hopn hst hfs
    subst hw0
    go_enter Tryz.func40, Tryz.ntmps40
    go_wp2_with go_in
    refine wp_loop_rounds 1 ?_
    rw [rounds_succ]
    go_wp2_with fail
    refine HSO.out.mono ?_
    rintro e w2 ⟨rfl, hr, hg⟩
    have HF := hid (HFN.out _ w2 _ _ HX0.out (by simp) hr hg)
    clear hr hg
    go_wp2_with fail
    go_ret
    exact ⟨_, [], rfl, HF.out, HK.out⟩
  | some b =>
    obtain ⟨n, D, h1, h2, h3⟩ := (hD0.map b rfl).own
    have HD3 := hid h3
    have HP0 := hid (part_nil _ D h2)
    have HO := hid h1
    have HBL := hid (h.map b rfl).lt
    have HST : Hid (s.steps < 1000000) := hid hst
    have HS0 := hid hs0
    clear h h1 h2 h3 hb0 x0 x1 hD0 hopn hst
    subst hw0
    go_enter Tryz.func40, Tryz.ntmps40
    go_wp2_with (first
      | (at_range; refine wpList_range_own _ rfl _ 52 rfl 9 61 law9 Tryz.underlying52 _ b n _ rfl HO.out ?_; intro w1 hrg0 hg0 hs1)
      | go_in)
    go_frame
    have HR0 := hid hrg0
    have HX0 := hid (HX.out w1 ⟨hg0.os, hg0.tape, hg0.output, hg0.size, fun k hk => hg0.block k hk (by simp)⟩ (by rw [hs1]; have := HS0.out; omega))
    clear hrg0 hg0 hs1
    have hs2 := HS0.out
    rw [hs2] at HR0
    rw [hs2]
    clear c0 c1 hs2 hs0 HO HS0 HX
    go_loopw [] (fun wr => ∃ K left cnt v l, wr.ranges Tryz.prog 9 ptrR b (w.heap.size + 2) n D left cnt ∧ Part (namesOf s ms) K left ∧ Hid (l = K.flatMap (stepsOf s)) ∧ Sx w d wr v l)
      (fun wr => wr.rangeLeft b (w.heap.size + 2))
    case atStart => exact ⟨[], _, _, _, [], HR0.out, HP0.out, hid rfl, HX0.out⟩
    case round =>
      clear HR0 HX0 HP0
      obtain ⟨K, left, cnt, v, l, hrg, hpt, HLK, hsx⟩ := hrel
      have HRG := hid hrg
      have HPT := hid hpt
      have HSX := hid hsx
      obtain ⟨ao, cap, hv⟩ := row_shape2 hsx.row
      have c3 : wr.cell? ⟨w.heap.size + 1, 0, none⟩ = some v := (cell_of_heap hsx.cell 0).trans rfl
      clear hrg hpt hsx
      go_wp2_with (first
        | (at_next; refine next_file _ rfl rfl _ rfl b (w.heap.size + 2) n _ _ _ rfl HRG.out ?_ ?_)
        | go_in)
      · intro _ hl0
        have hpm := HPT.out.perm HH.out.ok HH.out.len hl0
        have hll : l.length < 1000000 := by
          rw [HLK.out]
          have := steps_len HH.out.ok HPT.out.nodup (fun x hx => names_few HH.out.len x (HPT.out.mem x hx))
          have := HST.out
          omega
        have HSO := hid (isort_all wr (w.heap.size + 3) v l HSX.out.row (by omega))
        have HF2 := hid (fun w2 hr hg => HFN.out wr w2 v _ HSX.out hll hr hg)
        have HK : Hid (∃ K' : List Bs, K'.Perm (s.files.map Df.name) ∧ l = K'.flatMap (stepsOf s)) := hid ⟨K, hpm, HLK.out⟩
        clear hl0 hpm hll
        generalize l.length = ll at *
        subst hv
        go_wp2_with fail
        refine HSO.out.mono ?_
        rintro e w2 ⟨rfl, hr, hg⟩
        have HF := hid (HF2.out w2 hr hg)
        clear hr hg
        go_wp2_with fail
        go_ret
        exact ⟨_, _, rfl, HF.out, HK.out⟩
      · intro t m w1 cnt1 hl hat hrg1 hlt hg1 hs1 hen
        have hpt1 := HPT.out.step hl
        have h0 := HD3.out t
        rw [hat] at h0
        have hm := pd_inj h0
        have hsm := (HPT.out.new hl).1
        have hk1 : ∀ g, g < w.heap.size + 3 → g ≠ w.heap.size + 2 → w1.heap[g]? = wr.heap[g]? := fun g hg hne => hg1.block g (Nat.lt_of_lt_of_le hg HSX.out.size) (fun e => hne (by cases e; rfl))
        have hsx1 : Sx w d w1 v l := by
          have hx := HSX.out
          refine ⟨(hk1 _ (by omega) (by omega)).trans hx.box, (hk1 _ (by omega) (by omega)).trans hx.cell, ownsRow_same hx.row (fun g hg => hg1.block g (own_ge hx.row hg).2 (fun e => by cases e; have := (own_ge hx.row hg).1; omega)), ⟨hg1.os.trans hx.low.os, hg1.tape.trans hx.low.tape, hg1.output.trans hx.low.output, by rw [hs1]; exact hx.low.size, fun g hg => (hk1 g (by omega) (by omega)).trans (hx.low.block g hg)⟩, by rw [hs1]; exact hx.size⟩
        rcases find_at (s := s) HH.out.len (t := t) with ⟨e1, _⟩ | ⟨f, fm, e0, e1, e2, e3⟩
        · rw [e1] at hsm
          cases hsm
        · rw [e3] at hm
          subst hm
          have hfa := HH.out.filz _ e0
          have hfm : f ∈ s.files := (List.of_mem_zip e0).1
          obtain ⟨ao2, cap2, hov⟩ := row_shape hfa.op
          have hsn : (K ++ [t]).flatMap (stepsOf s) = l ++ (ofNo s.opn f.no).map (fun x => (x.step : Int)) := by
            rw [HLK.out, List.flatMap_append, List.flatMap_cons, List.flatMap_nil, List.append_nil]
            congr 1
            unfold stepsOf
            rw [e2]
          have hll : ((K ++ [t]).flatMap (stepsOf s)).length < 1000000 := by
            have := steps_len HH.out.ok hpt1.nodup (fun x hx => names_few HH.out.len x (hpt1.mem x hx))
            have := HST.out
            omega
          obtain ⟨ws, hws⟩ : ∃ ws, ws = ofNo s.opn f.no := ⟨_, rfl⟩
          rw [← hws] at hsn
          have hwg : ∀ x ∈ ws, x.pg.length = 256 := fun x hx => (HH.out.ok.own x (by rw [hws] at hx; exact (List.mem_filter.1 hx).1)).1
          have hfp : fm.p < w.heap.size := hfa.lt (by simp [Fm.blocks])
          have hfb : w1.heap[fm.p]? = some (.cells #[fm.pv, fm.sv, fm.ov] 77 (0, 0)) := (hsx1.low.block _ hfp).trans hfa.blk
          have hop : w.ownsRow 0 87 258 fm.ov ws.length (wcs ws) := by rw [hws]; exact hfa.op
          have hov2 : fm.ov = .slice ao2 ws.length cap2 := by rw [hws]; exact hov
          obtain ⟨nn, hnn⟩ : ∃ nn, nn = ws.length := ⟨_, rfl⟩
          rw [← hnn] at hov2
          have cov : w1.cell? ⟨fm.p, 2, none⟩ = some (.slice ao2 nn cap2) := by rw [← hov2]; exact (cell_of_heap hfb 2).trans rfl
          have hopl : ∀ g, fm.ov.ownBlock = some g → g < w.heap.size := fun g hg => (hop.lt g hg).2
          have hnb : ws.length < 1000000 := by rw [hsn, List.length_append, List.length_map] at hll; omega
          have HSN := hid hsn
          have HLL := hid hll
          have HWG := hid hwg
          have HOP := hid hop
          have HOV2 := hid hov2
          have HNN := hid hnn
          have HPT1 := hid hpt1
          have HRG1 := hid hrg1
          have HLT := hid hlt
          have HSX1 := hid hsx1
          have HNB := hid hnb
          have hnnb : (nn : Int) < 1000000 := by omega
          clear hfa hov e0 e1 e2 e3 hsm h0 hpt1 hat hl hrg1 hlt hg1 hs1 hsx1 hfp hfb hop hopl hsn hll hwg hws hov2 hk1 hfm hnb hnn c3
          generalize fm.p = p at *
          have hen2 : (Instr.entry (.pointer (some ⟨w.heap.size + 2, 0, none⟩))).run Tryz.prog w1 = .ok (.tuple #[St t, .pointer (some ⟨p, 0, none⟩)]) w1 := hen
          clear hen
          simp only [pv]
          go_wp2_with go_in
          go_loopg [22] ws.length (fun gg vj wr2 => ∃ (j : Nat) (v2 : Value) (l2 : List Int), gg = ws.length - j ∧ j ≤ ws.length ∧ vj = .int .i64 (j : Int) ∧ Hid (l2 = l ++ (ws.take j).map fun x => (x.step : Int)) ∧ Sx w d wr2 v2 l2 ∧ wr2.heap[b]? = w1.heap[b]? ∧ wr2.heap[w.heap.size + 2]? = w1.heap[w.heap.size + 2]?)
          case atStart => exact ⟨0, v, l, rfl, Nat.zero_le _, rfl, hid (by simp), HSX1.out, rfl, rfl⟩
          case round =>
            obtain ⟨j, v2, l2, rfl, hj, rfl, HL2, hsx2, hkb, hkr⟩ := hrel
            by_cases hjl : j < ws.length
            · obtain ⟨x, hx⟩ : ∃ x, x = ws[j] := ⟨_, rfl⟩
              have hxw : x.pg.length = 256 := by rw [hx]; exact HWG.out _ (List.getElem_mem hjl)
              have hrow : wr.ownsRow 0 87 258 fm.ov ws.length (wcs ws) := ownsRow_same HOP.out (fun g hg => hsx2.low.block g (HOP.out.lt g hg).2)
              obtain ⟨g, cap', hg1, hra0⟩ := write_at hrow HWG.out j hjl
              obtain ⟨cs, hcs⟩ : ∃ cs, cs = wc x := ⟨_, rfl⟩
              have hra : wr.rangeAt g (j * 258) cs := by rw [hcs, hx]; exact hra0
              have hao2 : ao2 = some ⟨g, 0, none⟩ := by
                have h1 := HOV2.out
                rw [hg1] at h1
                cases h1
                rfl
              subst hao2
              have hcl : cs.length = 258 := by rw [hcs, wc_len hxw]
              have h1c : ∀ v ∈ cs, v.oneCell' = true := by rw [hcs]; exact wc_one x
              obtain ⟨w3, hstc, hw3, hbw, hzw⟩ := new_write wr cs hcl h1c
              have hsx3 := hsx2.keep hbw
              have c3 : w3.cell? ⟨w.heap.size + 1, 0, none⟩ = some v2 := (cell_of_heap hsx3.cell 0).trans rfl
              have ce : w3.cell? ⟨wr.heap.size, 0, none⟩ = some (.int .i64 (x.step : Int)) := by rw [cell_of_heap hw3, hcs]; rfl
              have hl2 : l2.length < 1000000 := by
                have h1 := HLL.out
                rw [HSN.out, List.length_append, List.length_map] at h1
                rw [HL2.out, List.length_append, List.length_map, List.length_take]
                omega
              obtain ⟨v4, w4, hrun, cc4, ff4, hsx4, hk4⟩ := hsx3.more (x.step : Int) hl2
              obtain ⟨ao4, cap4, hv4⟩ := row_shape2 hsx4.row
              obtain ⟨ao3, cap3, hv3⟩ := row_shape2 hsx3.row
              have hs2 := hsx2.size
              have HKB : Hid ((w4.setCell ⟨w.heap.size + 1, 0, none⟩ v4).heap[b]? = w1.heap[b]?) := hid (by
                have := HBL.out
                rw [hk4 b (by omega) (by omega), hbw.block b (by omega)]
                exact hkb)
              have HKR : Hid ((w4.setCell ⟨w.heap.size + 1, 0, none⟩ v4).heap[w.heap.size + 2]? = w1.heap[w.heap.size + 2]?) := hid (by
                rw [hk4 _ (by omega) (by omega), hbw.block _ (by omega)]
                exact hkr)
              have HL4 : Hid (l2 ++ [(x.step : Int)] = l ++ (ws.take (j + 1)).map fun x => (x.step : Int)) := hid (by
                rw [HL2.out, List.take_add_one, List.getElem?_eq_getElem hjl, List.map_append, ← List.append_assoc, hx]
                rfl)
              have hu1 := Tryz.underlying87
              have hi1 : (Tryz.prog.info? 87).map (·.size) = some cs.length := by rw [size81, hcl]
              have hjw : IntKind.i64.wrap ((j : Int) + 1) = ((j + 1 : Nat) : Int) := by rw [IntKind.wrap_i64]; have := HNB.out; omega
              have hj0 : (0 : Int) ≤ (j : Int) := Int.natCast_nonneg _
              have hj1 : (j : Int) < (nn : Int) := by have := HNN.out; omega
              have HR := hid hrun
              have HSX4 := hid hsx4
              have HJ := hid hjl
              clear hrow hg1 hra0 hcs hw3 hbw hsx2 hsx3 hkb hkr hrun hsx4 hk4 hx hxw hj hl2 hs2 hjl hzw
              generalize (x.step : Int) = S at *
              generalize (l2 ++ [S]).length = l4 at *
              generalize l2.length = l3 at *
              subst hv3 hv4
              go_wp2_with fail
              refine wp_load_mid 87 (.tmp 24) rfl g (j * 258) rfl cs _ hra hu1 rfl hi1 ?_
              go_wp2_with (first | (at_builtin; refine wpList_append_run rfl (.tmp 26) (.tmp 29) 97 rfl (.slice ao3 l3 cap3) (.slice (some ⟨w3.heap.size, 0, none⟩) 1 1) (.slice ao4 l4 cap4) w4 rfl rfl HR.out ?_) | fail)
              go_roundg (ws.length - (j + 1))
              case measure => have := HJ.out; omega
              case rel => exact ⟨j + 1, _, l2 ++ [S], rfl, HJ.out, rfl, HL4, HSX4.out, HKB.out, HKR.out⟩
            · have hje : j = ws.length := by omega
              subst hje
              have HRF := hid (ranges_same HRG1.out hkb hkr)
              have HLF : Hid (l2 = (K ++ [t]).flatMap (stepsOf s)) := hid (by rw [HSN.out, HL2.out, List.take_length])
              have HSF := hid hsx2
              have hjn : ¬ ((ws.length : Nat) : Int) < (nn : Int) := by have := HNN.out; omega
              clear hsx2 hkb hkr hj hjl
              go_wp2_with fail
              go_roundw
              case rel => exact ⟨K ++ [t], _, cnt1, v2, l2, HRF.out, HPT1.out, HLF, HSF.out⟩
              case measure => rw [HRF.out.left_eq, HRG.out.left_eq]; exact HLT.out
end Go.Proofs.YtojnembakhhgiaaGreat
