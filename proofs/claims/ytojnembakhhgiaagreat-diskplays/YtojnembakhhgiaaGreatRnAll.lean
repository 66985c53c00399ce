import Derived.Test.YtojnembakhhgiaaGreatRmAll
/- The document's disk: drop, the walk. -/
namespace Go.Proofs.YtojnembakhhgiaaGreat
open Go.RowKit

set_option maxRecDepth 100000 in
set_option maxHeartbeats 8000000 in
theorem rdrop_any (w : World) (q : Nat) (s : Ds) (fv ov : Value) (ss : List Value) (h : Rv w q s fv ov ss) (ix : Nat) (hi : ix < s.files.length) :
    Calls Tryz.prog 61 #[.pointer (some ⟨q, 0, none⟩), .int .i64 (ix : Int)] w fun e w' => e = .returned (.tuple #[]) ∧ Rdrop w q s ss ix s.files[ix].no w' := by
  obtain ⟨i0, k0, hb, _⟩ := h.blk
  have hfew := h.ok.few
  have hopn : s.opn.length ≤ 1000000 := by have := opn_len h.ok; have := h.small.1; omega
  have hzl : (s.files.zip ss).length = s.files.length := by rw [List.length_zip, h.len]; omega
  have hrow : w.ownsRow 0 92 3 fv (s.files.zip ss).length (fcs (s.files.zip ss)) := by rw [hzl]; exact h.fil
  obtain ⟨g, cap, hv, hcap, hcell⟩ := row_cells fc_len (show w.ownsRow 0 92 3 fv (s.files.zip ss).length ((s.files.zip ss).flatMap fun x => fc x.1 x.2) from hrow) (by omega)
  have hc0 := hcell ix (by omega) 0 (by omega)
  rw [List.getElem_zip] at hc0
  obtain ⟨no, hno⟩ : ∃ no, no = s.files[ix].no := ⟨_, rfl⟩
  obtain ⟨n, hn⟩ : ∃ n, n = s.files.length := ⟨_, rfl⟩
  obtain ⟨m, hm⟩ : ∃ m, m = s.opn.length := ⟨_, rfl⟩
  obtain ⟨ao2, cap2, hov⟩ := row_shape h.opn
  have hv2 : fv = .slice (some ⟨g, 0, none⟩) n cap := by rw [hn, ← hzl]; exact hv
  have c0 : w.cell? ⟨q, 0, none⟩ = some (.slice (some ⟨g, 0, none⟩) n cap) := by rw [← hv2]; exact (cell_of_heap hb 0).trans rfl
  have c1 : w.cell? ⟨q, 1, none⟩ = some (.slice ao2 m cap2) := by rw [hm, ← hov]; exact (cell_of_heap hb 1).trans rfl
  have d0 : w.cell? ⟨g, ix * 3, none⟩ = some (.int .i64 (no : Int)) := by rw [hno]; exact hc0
  have HCC : Hid (∀ W, Below w.heap.size w W → W.cell? ⟨q, 0, none⟩ = some (.slice (some ⟨g, 0, none⟩) n cap) ∧ W.cell? ⟨q, 1, none⟩ = some (.slice ao2 m cap2) ∧ W.frozen? ⟨q, 0, none⟩ = false ∧ W.frozen? ⟨q, 1, none⟩ = false) := hid (fun W hB => by
    have hbq := (hB.block q (lt_of_block hb)).trans hb
    exact ⟨by rw [← hv2]; exact (cell_of_heap hbq 0).trans rfl, by rw [hm, ← hov]; exact (cell_of_heap hbq 1).trans rfl, frozen_of_heap hbq 0, frozen_of_heap hbq 1⟩)
  have HH := hid h
  have HOV := hid hov
  have HM := hid hm
  have HMB : Hid (m ≤ 1000000) := hid (by omega)
  have HROW := hid hrow
  have HV := hid hv
  have HZL := hid hzl
  have HN := hid hn
  have HI := hid hi
  have HFEW := hid hfew
  have HCAP : Hid (n ≤ cap) := hid (by omega)
  have HONE : Hid (∀ x ∈ s.files.zip ss, x.2.oneCell' = true) := hid (fun x hx => tx_one_cell (h.set x hx))
  have HFIN : Hid (∀ w' fv' ov', Below w.heap.size w w' → w'.ownsRow w.heap.size 92 3 fv' ((s.files.zip ss).take ix ++ (s.files.zip ss).drop (ix + 1)).length (fcs ((s.files.zip ss).take ix ++ (s.files.zip ss).drop (ix + 1))) → w'.ownsRow w.heap.size 95 3 ov' (notNo s.opn no).length (ocs (notNo s.opn no)) → (∀ g ∈ ob fv', g ∉ ob ov') → Rdrop w q s ss ix no ((w'.setCell ⟨q, 1, none⟩ ov').setCell ⟨q, 0, none⟩ fv')) := hid (fun w' fv' ov' hB hf ho hap => by
    rw [hno] at ho ⊢
    exact h.drop hi hB hf ho hap)
  rw [← hno]
  have hi0 : (0 : Int) ≤ (ix : Int) := Int.natCast_nonneg _
  have hi1 : (ix : Int) < (n : Int) := by omega
  have hiw : IntKind.i64.wrap ((ix : Int) + 1) = ((ix + 1 : Nat) : Int) := by rw [IntKind.wrap_i64]; omega
  have hmb : (m : Int) ≤ 1000000 := by omega
  clear h hb hfew hopn hzl hrow hv hcap hcell hc0 hno hn hm hov hv2 hi
  go_enter Tryz.func61, Tryz.ntmps61
  go_wp2_with fail
  go_loopg [5, 6] m (fun gg vl vk wr => ∃ (j : Nat) (v : Value), gg = m - j ∧ j ≤ m ∧ vl = v ∧ vk = .int .i64 (j : Int) ∧ wr.ownsRow w.heap.size 95 3 v (notNo (s.opn.take j) no).length (ocs (notNo (s.opn.take j) no)) ∧ Below w.heap.size w wr)
  case atStart => exact ⟨0, _, rfl, Nat.zero_le _, rfl, rfl, World.ownsRow_nil _ _ _ _, Below.refl _ _⟩
  case round =>
    obtain ⟨j, v, rfl, hj, hvl, rfl, hro, hbel⟩ := hrel
    obtain ⟨e0, e1, f0, f1⟩ := HCC.out wr hbel
    clear c0 c1 d0
    obtain ⟨ao3, cap3, hv3⟩ := row_shape2 hro
    by_cases hjl : j < m
    · have hjs : j < s.opn.length := by have := HM.out; omega
      have hrw : wr.ownsRow 0 95 3 ov s.opn.length (s.opn.flatMap oc) := ownsRow_same HH.out.opn (fun k hk => hbel.block k (HH.out.opn.lt k hk).2)
      obtain ⟨g2, cap4, hv4, _, hcell⟩ := row_cells oc_len hrw (by omega)
      have ha : ao2 = some ⟨g2, 0, none⟩ := by
        have h1 := HOV.out
        rw [hv4] at h1
        cases h1
        rfl
      subst ha
      obtain ⟨x, hx⟩ : ∃ x, x = s.opn[j]'hjs := ⟨_, rfl⟩
      have o0 : wr.cell? ⟨g2, j * 3, none⟩ = some (.int .i64 (x.no : Int)) := by have := hcell j hjs 0 (by omega); rw [Nat.add_zero] at this; rw [this, hx]; rfl
      have o1 : wr.cell? ⟨g2, j * 3 + 1, none⟩ = some (.int .i64 (x.at' : Int)) := by rw [hcell j hjs 1 (by omega), hx]; rfl
      have o2 : wr.cell? ⟨g2, j * 3 + 2, none⟩ = some (St x.pg) := by rw [hcell j hjs 2 (by omega), hx]; rfl
      have htk : notNo (s.opn.take (j + 1)) no = notNo (s.opn.take j) no ++ (if x.no = no then [] else [x]) := by
        rw [List.take_add_one, List.getElem?_eq_getElem hjs, ← hx]
        exact notNo_snoc _ _ _
      have hll : (notNo (s.opn.take j) no).length ≤ 1000000 := by
        have h1 : (notNo (s.opn.take j) no).length ≤ (s.opn.take j).length := List.length_filter_le _ _
        rw [List.length_take] at h1
        have := HMB.out
        omega
      have hjw : IntKind.i64.wrap ((j : Int) + 1) = ((j + 1 : Nat) : Int) := by rw [IntKind.wrap_i64]; have := HMB.out; omega
      have hj0 : (0 : Int) ≤ (j : Int) := Int.natCast_nonneg _
      have hj1 : (j : Int) < (m : Int) := by omega
      have HJ := hid hjl
      by_cases e : x.no = no
      · rw [if_pos e, List.append_nil] at htk
        have he : ((x.no : Int) == (no : Int)) = true := by rw [e]; simp
        have hne : ((x.no : Int) != (no : Int)) = false := by rw [e]; simp
        have HR := hid hro
        have HB := hid hbel
        have HT := hid htk
        clear hro hbel hcell hrw hv4 hx hjs hj hjl htk hll o1 o2
        rw [e] at o0
        obtain ⟨n3, hn3⟩ : ∃ n3, n3 = (notNo (s.opn.take j) no).length := ⟨_, rfl⟩
        rw [← hn3] at hv3
        clear hn3
        subst hv3
        subst hvl
        clear he hne
        go_wp2_with fail
        go_roundg (m - (j + 1))
        case measure => have := HJ.out; omega
        case rel => exact ⟨j + 1, _, rfl, HJ.out, rfl, rfl, by rw [HT.out]; exact HR.out, HB.out⟩
      · rw [if_neg e] at htk
        have he : ((x.no : Int) == (no : Int)) = false := by simpa using fun h => e (by omega)
        have hne : ¬ (x.no : Int) = (no : Int) := by omega
        obtain ⟨v5, w5, hrun, hr5, hg5⟩ := open_add hro x hll hbel.size
        obtain ⟨ao5, cap5, hv5⟩ := row_shape2 hr5
        have HRN := hid hrun
        have HR : Hid (w5.ownsRow w.heap.size 95 3 v5 (notNo (s.opn.take (j + 1)) no).length (ocs (notNo (s.opn.take (j + 1)) no))) := hid (by rw [htk]; exact hr5)
        have HB : Hid (Below w.heap.size w w5) := hid ⟨hg5.os.trans hbel.os, hg5.tape.trans hbel.tape, hg5.output.trans hbel.output, Nat.le_trans hbel.size hg5.size, fun k hk => (hg5.block k (Nat.lt_of_lt_of_le hk hbel.size) (fun e => by have := (own_ge hro e.symm).1; omega)).trans (hbel.block k hk)⟩
        clear hro hbel hcell hrw hv4 hx hjs hj hjl htk hll hrun hr5 hg5 e
        obtain ⟨xn, hxn⟩ : ∃ xn : Int, xn = (x.no : Int) := ⟨_, rfl⟩
        rw [← hxn] at o0 he hne HRN
        generalize x.at' = xa at *
        generalize x.pg = xp at *
        generalize (notNo (s.opn.take j) no ++ [x]).length = n5 at *
        generalize (notNo (s.opn.take j) no).length = n3 at *
        clear hxn
        subst hv3
        subst hvl
        subst hv5
        go_wp2_with (first | (at_builtin; refine wpList_append_run rfl (.tmp 35) (.tmp 43) 58 rfl (.slice ao3 n3 cap3) (.slice (some ⟨wr.heap.size, 0, none⟩) 1 1) (.slice ao5 n5 cap5) w5 rfl rfl HRN.out ?_) | fail)
        go_roundg (m - (j + 1))
        case measure => have := HJ.out; omega
        case rel => exact ⟨j + 1, _, rfl, HJ.out, rfl, rfl, HR.out, HB.out⟩
    · have hje : j = m := by omega
      subst hje
      have hro2 : wr.ownsRow w.heap.size 95 3 v (notNo s.opn no).length (ocs (notNo s.opn no)) := by
        rw [HM.out, List.take_length] at hro
        exact hro
      have hjn : ¬ (j : Int) < (j : Int) := by omega
      have hzl := HZL.out
      have hn2 := HN.out
      have hix := HI.out
      have hfw := HFEW.out
      have hcp := HCAP.out
      have hrwF : wr.ownsRow 0 92 3 fv (s.files.zip ss).length (fcs (s.files.zip ss)) := ownsRow_same HROW.out (fun k hk => hbel.block k (HROW.out.lt k hk).2)
      have hA := fcs_cells hrwF HV.out 0 ix (by omega)
      rw [List.drop_zero, Nat.zero_mul] at hA
      have hT1 : ((s.files.zip ss).take ix).length = ix := by rw [List.length_take]; omega
      obtain ⟨v7, w7, hrun7, hr7, hg7, hk7⟩ := files_add (W := wr) (base := w.heap.size) (v := .slice none 0 0) (l := []) (World.ownsRow_nil _ _ _ _) ((s.files.zip ss).take ix) (fun x hx => HONE.out x (List.mem_of_mem_take hx)) ⟨g, 0, none⟩ cap hA (by simp; omega) hbel.size
      rw [hT1] at hrun7
      rw [List.nil_append] at hr7
      obtain ⟨ao7, cap7, hv7⟩ := row_shape2 hr7
      rw [hT1] at hv7
      have hb7 : Below w.heap.size w w7 := ⟨hg7.os.trans hbel.os, hg7.tape.trans hbel.tape, hg7.output.trans hbel.output, Nat.le_trans hbel.size hg7.size, fun k hk => (hg7.block k (Nat.lt_of_lt_of_le hk hbel.size) (fun e => by cases e)).trans (hbel.block k hk)⟩
      have hro7 : w7.ownsRow w.heap.size 95 3 v (notNo s.opn no).length (ocs (notNo s.opn no)) := ownsRow_same hro2 (fun k hk => hg7.block k (own_ge hro2 hk).2 (fun e => by cases e))
      have hv7n : ∀ k, v7.ownBlock = some k → wr.heap.size ≤ k := fun k hk => by
        rcases hk7 with e | e
        · rw [e] at hk; cases hk
        · rw [e] at hk; cases hk; exact Nat.le_refl _
      have hrwF7 : w7.ownsRow 0 92 3 fv (s.files.zip ss).length (fcs (s.files.zip ss)) := ownsRow_same HROW.out (fun k hk => hb7.block k (HROW.out.lt k hk).2)
      have hT2 : ((s.files.zip ss).drop (ix + 1)).length = n - (ix + 1) := by rw [List.length_drop]; omega
      have hB2 : ∀ ad : Addr, (ad = ⟨g, (ix + 1) * 3, none⟩ ∨ n = ix + 1) → ∀ j u, (fcs ((s.files.zip ss).drop (ix + 1)))[j]? = some u → w7.cell? (ad.add j) = some u := fun ad had j u hu => by
        rcases had with rfl | he
        · have := fcs_cells hrwF7 HV.out (ix + 1) (n - (ix + 1)) (by omega)
          rw [List.take_of_length_le (by omega)] at this
          exact this j u hu
        · have : (s.files.zip ss).drop (ix + 1) = [] := List.drop_eq_nil_of_le (by omega)
          rw [this] at hu
          simp [fcs] at hu
      have HB9 : Hid (∀ ad c, (ad = ⟨g, (ix + 1) * 3, none⟩ ∨ n = ix + 1) → ∃ a9 c9 w9, (∀ ty, (Builtin.append_ #[57, 57] ty #[.slice ao7 ix cap7, .slice (some ad) (n - (ix + 1)) c]).run Tryz.prog w7 = .ok (.slice a9 (n - 1) c9) w9) ∧ w9.cell? ⟨q, 0, none⟩ = some (.slice (some ⟨g, 0, none⟩) n cap) ∧ w9.cell? ⟨q, 1, none⟩ = some (.slice ao2 j cap2) ∧ w9.frozen? ⟨q, 0, none⟩ = false ∧ w9.frozen? ⟨q, 1, none⟩ = false ∧ Rdrop w q s ss ix no ((w9.setCell ⟨q, 1, none⟩ v).setCell ⟨q, 0, none⟩ (.slice a9 (n - 1) c9))) := hid (fun ad c had => by
        obtain ⟨v9, w9, hrun9, hr9, hg9, hk9⟩ := files_add (W := w7) (base := w.heap.size) (v := v7) (l := (s.files.zip ss).take ix) hr7 ((s.files.zip ss).drop (ix + 1)) (fun x hx => HONE.out x (List.mem_of_mem_drop hx)) ad c (hB2 ad had) (by omega) hb7.size
        rw [hT2, hv7] at hrun9
        obtain ⟨a9, c9, hv9⟩ := row_shape2 hr9
        have hl9 : ((s.files.zip ss).take ix ++ (s.files.zip ss).drop (ix + 1)).length = n - 1 := by rw [List.length_append, hT1, hT2]; omega
        rw [hl9] at hv9
        have hb9 : Below w.heap.size w w9 := ⟨hg9.os.trans hb7.os, hg9.tape.trans hb7.tape, hg9.output.trans hb7.output, Nat.le_trans hb7.size hg9.size, fun k hk => (hg9.block k (Nat.lt_of_lt_of_le hk hb7.size) (fun e => by have := (own_ge hr7 e.symm).1; omega)).trans (hb7.block k hk)⟩
        obtain ⟨q0, q1, q2, q3⟩ := HCC.out w9 hb9
        have hvlt : ∀ k, v.ownBlock = some k → k < wr.heap.size := fun k hk => (own_ge hro2 hk).2
        have hro9 : w9.ownsRow w.heap.size 95 3 v (notNo s.opn no).length (ocs (notNo s.opn no)) := ownsRow_same hro7 (fun k hk => hg9.block k (own_ge hro7 hk).2 (fun e => by have h1 := hv7n k e.symm; have h2 := hvlt k hk; omega))
        refine ⟨a9, c9, w9, fun ty => by rw [← hv9]; exact hrun9 ty, q0, q1, q2, q3, ?_⟩
        rw [← hv9]
        refine HFIN.out w9 v9 v hb9 hr9 hro9 (fun k hk hk2 => ?_)
        have h2 := hvlt k (mem_ob.1 hk2)
        have h3 := mem_ob.1 hk
        have hz7 := hg7.size
        rcases hk9 with e | e
        · rw [e] at h3
          have := hv7n k h3
          omega
        · rw [e] at h3
          cases h3
          omega)
      have HRN7 := hid hrun7
      have hcq7 := (HCC.out w7 hb7).1
      have hcap1 : (ix : Int) ≤ (cap : Int) := by omega
      have hix1 : ((ix + 1 : Nat) : Int) ≤ (n : Int) := by omega
      have hix2 : (n : Int) ≤ (cap : Int) := by omega
      have hix3 : (0 : Int) ≤ ((ix + 1 : Nat) : Int) := Int.natCast_nonneg _
      have hix4 : (ix : Int) ≤ (n : Int) := by omega
      obtain ⟨nl, hnl⟩ : ∃ nl, nl = (notNo (s.opn.take j) no).length := ⟨_, rfl⟩
      rw [← hnl] at hv3
      clear hro hro2 hbel hrwF hA hT1 hr7 hg7 hk7 hb7 hro7 hv7n hrwF7 hT2 hB2 hzl hn2 hix hfw hj hjl hrun7 hnl
      by_cases hce : ix + 1 = cap
      · have hnn : n = ix + 1 := by omega
        obtain ⟨a9, c9, w9, hr9, q0, q1, q2, q3, hfin⟩ := HB9.out ⟨g, 0, none⟩ 0 (.inr hnn)
        rw [show n - (ix + 1) = 0 by omega] at hr9
        have HR9 := hid hr9
        have HF := hid hfin
        clear hr9 hfin hcp
        subst hce
        subst hnn
        subst hv3
        subst hvl
        subst hv7
        go_wp2_with (first | (at_builtin; refine wpList_append_run rfl (.tmp 45) (.tmp 51) 57 rfl (.slice none 0 0) (.slice (some ⟨g, 0, none⟩) ix (ix + 1)) (.slice ao7 ix cap7) w7 rfl rfl HRN7.out ?_) | (at_builtin; refine wpList_append_run rfl (.tmp 53) (.tmp 60) 57 rfl (.slice ao7 ix cap7) (.slice (some ⟨g, 0, none⟩) 0 0) (.slice a9 (ix + 1 - 1) c9) w9 rfl rfl HR9.out ?_) | fail)
        refine bodyPost_end (results_none rfl _ _ _) rfl ?_
        exact ⟨rfl, HF.out⟩
      · obtain ⟨a9, c9, w9, hr9, q0, q1, q2, q3, hfin⟩ := HB9.out ⟨g, (ix + 1) * 3, none⟩ (cap - (ix + 1)) (.inl rfl)
        have HR9 := hid hr9
        have HF := hid hfin
        clear hr9 hfin hcp
        subst hv3
        subst hvl
        subst hv7
        go_wp2_with (first | (at_builtin; refine wpList_append_run rfl (.tmp 45) (.tmp 51) 57 rfl (.slice none 0 0) (.slice (some ⟨g, 0, none⟩) ix cap) (.slice ao7 ix cap7) w7 rfl rfl HRN7.out ?_) | (at_builtin; refine wpList_append_run rfl (.tmp 53) (.tmp 60) 57 rfl (.slice ao7 ix cap7) (.slice (some ⟨g, (ix + 1) * 3, none⟩) (n - (ix + 1)) (cap - (ix + 1))) (.slice a9 (n - 1) c9) w9 rfl rfl HR9.out ?_) | fail)
        refine bodyPost_end (results_none rfl _ _ _) rfl ?_
        exact ⟨rfl, HF.out⟩
end Go.Proofs.YtojnembakhhgiaaGreat

/- The document's disk: Remove. -/
namespace Go.Proofs.YtojnembakhhgiaaGreat
open Go.RowKit

/-- what a step and a drop leave -/
theorem Rleft.dropped {w w2 w' : World} {q : Nat} {s s' : Ds} {fv ov : Value} {ss : List Value} {ix no : Nat} (_ : Rv w q s fv ov ss) (hk : Kf [q] w w2) (hd : Rdrop w2 q s' ss ix no w') : Rleft w q fv ov ss (dropF s' no) w' := by
  obtain ⟨fv', ov', hv, hk2, hn⟩ := hd
  refine ⟨fv', ov', _, hv, (hk.trans hk2 (fun g hg => .inl hg)).more (fun g hg => by simp at hg; simp [Rm, hg]), fun g hg => ?_⟩
  rcases List.mem_append.1 hg with h1 | h1
  · rcases List.mem_cons.1 h1 with e | h2
    · left; rw [e]; simp [Rm]
    · exact .inr (Nat.le_trans hk.size (hn g h2))
  · left
    refine List.mem_append_right _ ?_
    unfold Rr at h1 ⊢
    obtain ⟨v, hv1, hv2⟩ := List.mem_flatMap.1 h1
    exact List.mem_flatMap.2 ⟨v, List.mem_of_mem_eraseIdx hv1, hv2⟩

set_option maxRecDepth 100000 in
set_option maxHeartbeats 8000000 in
theorem rremove_any (w : World) (q : Nat) (s : Ds) (fv ov : Value) (ss : List Value) (h : Rv w q s fv ov ss) (hst : s.steps + 1 < 1000000) (t : Bs) :
    Calls Tryz.prog 32 #[.pointer (some ⟨q, 0, none⟩), St t] w fun e w' => e = .returned (.int .i64 ((removeD s t).1 : Int)) ∧ Rleft w q fv ov ss (removeD s t).2 w' := by
  obtain ⟨i0, k0, hb, _⟩ := h.blk
  have c8 : w.cell? ⟨q, 8, none⟩ = some (.bool s.off) := (cell_of_heap hb 8).trans rfl
  have HFI := hid (rfind_any w q s fv ov ss h t)
  have HST : Hid (Rleft w q fv ov ss s w) := hid (Rleft.stay h (Below.refl _ _))
  obtain ⟨R, hR⟩ : ∃ R, R = removeD s t := ⟨_, rfl⟩
  rw [← hR]
  cases ho : s.off with
  | true =>
    rw [ho] at c8
    have HRE : Hid (R = (7, s)) := hid (by rw [hR]; unfold removeD; rw [if_pos ho])
    generalize fidx s t = fi at *
    clear h hb hR
    go_enter Tryz.func32, Tryz.ntmps32
    go_wp2_with fail
    refine HFI.out.mono ?_
    rintro e w1 ⟨rfl, hw⟩
    subst hw
    go_wp2_with fail
    go_ret
    rw [HRE.out]
    exact ⟨rfl, HST.out⟩
  | false =>
    rw [ho] at c8
    have hR1 : R = match findF s t with
        | none => (91, s)
        | some f => doD s fun s => dropF s f.no := by
      rw [hR]
      unfold removeD
      rw [if_neg (by rw [ho]; decide)]
      cases findF s t <;> rfl
    cases hf : findF s t with
    | none =>
      rw [fidx_none hf] at HFI
      rw [hf] at hR1
      have HRE : Hid (R = (91, s)) := hid hR1
      clear h hb hR hR1 hf
      go_enter Tryz.func32, Tryz.ntmps32
      go_wp2_with fail
      refine HFI.out.mono ?_
      rintro e w1 ⟨rfl, hw⟩
      subst hw
      go_wp2_with fail
      go_ret
      rw [HRE.out]
      exact ⟨rfl, HST.out⟩
    | some f =>
      obtain ⟨ix, hix, hfx, hfe⟩ := fidx_some hf
      rw [hfx] at HFI
      rw [hf] at hR1
      have hR2 : R = doD s fun s => dropF s f.no := hR1
      have hi0 : ¬ (ix : Int) < 0 := by omega
      cases hs : stepD s with
      | none =>
        have HSP := hid (rstep_no w q s fv ov ss h hs)
        have HRE : Hid (R = (7, offD s)) := hid (by rw [hR2]; unfold doD; rw [hs])
        have HLE : Hid (∀ w', Rv w' q (offD s) fv ov ss → Kf [q] w w' → Rleft w q fv ov ss (offD s) w') := hid (fun w' h1 h2 => ⟨fv, ov, ss, h1, h2.more (fun g hg => by simp at hg; simp [Rm, hg]), fun g hg => .inl hg⟩)
        clear h hb hR hR1 hR2 hf hs hfx hfe hix
        go_enter Tryz.func32, Tryz.ntmps32
        go_wp2_with fail
        refine HFI.out.mono ?_
        rintro e w1 ⟨rfl, hw⟩
        subst hw
        go_wp2_with fail
        refine HSP.out.mono ?_
        rintro e w2 ⟨rfl, h1, h2⟩
        have HL := hid (HLE.out w2 h1 h2)
        clear h1 h2
        go_wp2_with fail
        go_ret
        rw [HRE.out]
        exact ⟨rfl, HL.out⟩
      | some s' =>
        have HSP := hid (rstep_yes w q s s' fv ov ss h hs hst)
        have HRE : Hid (R = (0, dropF s' f.no)) := hid (by rw [hR2]; unfold doD; rw [hs])
        obtain ⟨hok, e1, e2, e3, e4, e5, e6⟩ := step_ok h.ok hs
        have hix' : ix < s'.files.length := by rw [e1]; exact hix
        have hfe' : s'.files[ix].no = f.no := by rw [← hfe]; simp only [e1]
        have HDR : Hid (∀ w2, Rv w2 q s' fv ov ss → Kf [q] w w2 → Calls Tryz.prog 61 #[.pointer (some ⟨q, 0, none⟩), .int .i64 (ix : Int)] w2 fun e w' => e = .returned (.tuple #[]) ∧ Rleft w q fv ov ss (dropF s' f.no) w') := hid (fun w2 h1 h2 => by
          refine (rdrop_any w2 q s' fv ov ss h1 ix hix').mono ?_
          rintro e w' ⟨he, hd⟩
          rw [hfe'] at hd
          exact ⟨he, Rleft.dropped h h2 hd⟩)
        clear h hb hR hR1 hR2 hf hs hfx hfe hix hok e1 e2 e3 e4 e5 e6 hix' hfe'
        go_enter Tryz.func32, Tryz.ntmps32
        go_wp2_with fail
        refine HFI.out.mono ?_
        rintro e w1 ⟨rfl, hw⟩
        subst hw
        go_wp2_with fail
        refine HSP.out.mono ?_
        rintro e w2 ⟨rfl, h1, h2⟩
        have HD := hid (HDR.out w2 h1 h2)
        clear h1 h2
        go_wp2_with fail
        refine HD.out.mono ?_
        rintro e w3 ⟨rfl, h3⟩
        have HL := hid h3
        clear h3
        go_wp2_with fail
        go_ret
        rw [HRE.out]
        exact ⟨rfl, HL.out⟩
end Go.Proofs.YtojnembakhhgiaaGreat
