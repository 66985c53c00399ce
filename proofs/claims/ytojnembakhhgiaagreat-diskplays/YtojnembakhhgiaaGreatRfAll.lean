import Derived.Test.YtojnembakhhgiaaGreatRdAll
/- The document's disk: the pages of a file. -/
namespace Go.Proofs.YtojnembakhhgiaaGreat
open Go.RowKit

set_option maxRecDepth 100000 in
set_option maxHeartbeats 8000000 in
theorem rpages_any (w : World) (q : Nat) (s : Ds) (fv ov : Value) (ss : List Value) (h : Rv w q s fv ov ss) (hq : usedN s ≤ s.quota) (ix : Nat) (hi : ix < s.files.length) :
    Calls Tryz.prog 60 #[.pointer (some ⟨q, 0, none⟩), .int .i64 (ix : Int)] w fun e w' => ∃ v, e = .returned v ∧ Tx w' v (pagesOf s s.files[ix]) ∧ Below w.heap.size w w' ∧ ∀ g ∈ ob v, g ∈ Rr ss ∨ w.heap.size ≤ g := by
  obtain ⟨i0, k0, hb, _⟩ := h.blk
  have hfew := h.ok.few
  have hopn : s.opn.length ≤ 1000000 := by have := opn_len h.ok; have := h.small.1; omega
  have hil : ix < ss.length := by rw [h.len]; exact hi
  have hzl : (s.files.zip ss).length = s.files.length := by rw [List.length_zip, h.len]; omega
  have hz : (s.files[ix], ss[ix]) ∈ s.files.zip ss := by
    have : (s.files.zip ss)[ix]'(by omega) = (s.files[ix], ss[ix]) := by rw [List.getElem_zip]
    rw [← this]
    exact List.getElem_mem _
  have hset0 := h.set _ hz
  have hrow : w.ownsRow 0 92 3 fv (s.files.zip ss).length ((s.files.zip ss).flatMap fun x => fc x.1 x.2) := by rw [hzl]; exact h.fil
  obtain ⟨g, cap, hv, _, hcell⟩ := row_cells fc_len hrow (by omega)
  rw [hzl] at hv
  have hc0 := hcell ix (by omega) 0 (by omega)
  have hc2 := hcell ix (by omega) 2 (by omega)
  rw [List.getElem_zip] at hc0 hc2
  obtain ⟨f, hf⟩ : ∃ f, f = s.files[ix] := ⟨_, rfl⟩
  obtain ⟨sv, hsv⟩ : ∃ sv, sv = ss[ix] := ⟨_, rfl⟩
  rw [← hf, ← hsv] at hc0 hc2
  have hset : Tx w sv f.settled := by rw [hf, hsv]; exact hset0
  clear hset0
  obtain ⟨ao1, cap1, hsv1⟩ := row_shape hset
  obtain ⟨ao2, cap2, hov⟩ := row_shape h.opn
  obtain ⟨n, hn⟩ : ∃ n, n = s.files.length := ⟨_, rfl⟩
  obtain ⟨m, hm⟩ : ∃ m, m = s.opn.length := ⟨_, rfl⟩
  have c0 : w.cell? ⟨q, 0, none⟩ = some (.slice (some ⟨g, 0, none⟩) n cap) := by rw [hn, ← hv]; exact (cell_of_heap hb 0).trans rfl
  have c1 : w.cell? ⟨q, 1, none⟩ = some (.slice ao2 m cap2) := by rw [hm, ← hov]; exact (cell_of_heap hb 1).trans rfl
  have d0 : w.cell? ⟨g, ix * 3, none⟩ = some (.int .i64 (f.no : Int)) := hc0
  have d2 : w.cell? ⟨g, ix * 3 + 2, none⟩ = some sv := hc2
  have hfm : f ∈ s.files := by rw [hf]; exact List.getElem_mem hi
  have hpl : (pagesOf s f).length ≤ 65536 := Nat.le_trans (used_file hfm) (Nat.le_trans hq h.ok.quota)
  have hsr : ∀ k ∈ ob sv, k ∈ Rr ss := fun k hk => List.mem_flatMap.2 ⟨sv, by rw [hsv]; exact List.getElem_mem hil, hk⟩
  rw [← hf]
  have HH := hid h
  have HSET := hid hset
  have HPL := hid hpl
  have HSR := hid hsr
  have HOV := hid hov
  have HM := hid hm
  have HCC : Hid (∀ W, Below w.heap.size w W → W.cell? ⟨q, 0, none⟩ = some (.slice (some ⟨g, 0, none⟩) n cap) ∧ W.cell? ⟨q, 1, none⟩ = some (.slice ao2 m cap2) ∧ W.cell? ⟨g, ix * 3, none⟩ = some (.int .i64 (f.no : Int))) := hid (fun W hB => by
    have hk : ∀ a o u, w.cell? ⟨a, o, none⟩ = some u → W.cell? ⟨a, o, none⟩ = some u := fun a o u hu => (World.cell?_of_block (hB.block a (World.block_lt_of_cell? w ⟨a, o, none⟩ hu))).trans hu
    exact ⟨hk _ _ _ c0, hk _ _ _ c1, hk _ _ _ d0⟩)
  have HMB : Hid (m ≤ 1000000) := hid (by omega)
  have hi0 : (0 : Int) ≤ (ix : Int) := Int.natCast_nonneg _
  have hi1 : (ix : Int) < (n : Int) := by omega
  have hnb : (n : Int) ≤ 256 := by omega
  have hmb : (m : Int) ≤ 1000000 := by omega
  clear h hb hfew hopn hzl hz hset hrow hv hcell hc0 hc2 hov hn hm hfm hpl hsr hq
  obtain ⟨sl, hsl⟩ : ∃ sl, sl = f.settled.length := ⟨_, rfl⟩
  rw [← hsl] at hsv1
  clear hsl hf hsv
  clear hi hil
  rw [hsv1] at d2
  have HSV := hid hsv1
  clear hsv1
  go_enter Tryz.func60, Tryz.ntmps60
  go_wp2_with fail
  go_loopg [5, 6] m (fun gg vl vk wr => ∃ (j : Nat) (v : Value), gg = m - j ∧ j ≤ m ∧ vl = v ∧ vk = .int .i64 (j : Int) ∧ Tx wr v (layAll f.settled (ofNo (s.opn.take j) f.no)) ∧ Below w.heap.size w wr ∧ ∀ k ∈ ob v, k ∈ Rr ss ∨ w.heap.size ≤ k)
  case atStart => exact ⟨0, _, rfl, Nat.zero_le _, rfl, rfl, by rw [← HSV.out]; exact HSET.out, Below.refl _ _, fun k hk => .inl (HSR.out k (by rw [HSV.out]; exact hk))⟩
  case round =>
    obtain ⟨j, v, rfl, hj, hvl, rfl, htx, hbel, hvb⟩ := hrel
    obtain ⟨e0, e1, e2⟩ := HCC.out wr hbel
    clear c0 c1 d0 d2
    obtain ⟨ao3, cap3, hv3⟩ := row_shape htx
    obtain ⟨n3, hn3⟩ : ∃ n3, n3 = (layAll f.settled (ofNo (s.opn.take j) f.no)).length := ⟨_, rfl⟩
    rw [← hn3] at hv3
    by_cases hjl : j < m
    · have hjs : j < s.opn.length := by have := HM.out; omega
      have hrw : wr.ownsRow 0 95 3 ov s.opn.length (s.opn.flatMap oc) := ownsRow_same HH.out.opn (fun k hk => hbel.block k (HH.out.opn.lt k hk).2)
      obtain ⟨g2, cap4, hv4, _, hcell⟩ := row_cells oc_len hrw (by omega)
      have ha : ao2 = some ⟨g2, 0, none⟩ := by
        have h1 := HOV.out
        rw [hv4] at h1
        cases h1
        rfl
      subst ha
      obtain ⟨x, hx⟩ : ∃ x, x = s.opn[j]'hjs := ⟨_, rfl⟩
      have o0 : wr.cell? ⟨g2, j * 3, none⟩ = some (.int .i64 (x.no : Int)) := by have := hcell j hjs 0 (by omega); rw [Nat.add_zero] at this; rw [this, hx]; rfl
      have o1 : wr.cell? ⟨g2, j * 3 + 1, none⟩ = some (.int .i64 (x.at' : Int)) := by rw [hcell j hjs 1 (by omega), hx]; rfl
      have o2 : wr.cell? ⟨g2, j * 3 + 2, none⟩ = some (St x.pg) := by rw [hcell j hjs 2 (by omega), hx]; rfl
      have htk : ofNo (s.opn.take (j + 1)) f.no = ofNo (s.opn.take j) f.no ++ (if x.no = f.no then [x] else []) := by
        rw [List.take_add_one, List.getElem?_eq_getElem hjs, ← hx]
        exact ofNo_snoc _ _ _
      have hsub : (layAll f.settled (ofNo (s.opn.take (j + 1)) f.no)).length ≤ 65536 := Nat.le_trans (layAll_len_sub (ofNo_sub (List.take_sublist _ _) _) _) HPL.out
      have hjw : IntKind.i64.wrap ((j : Int) + 1) = ((j + 1 : Nat) : Int) := by rw [IntKind.wrap_i64]; have := HMB.out; omega
      have hj0 : (0 : Int) ≤ (j : Int) := Int.natCast_nonneg _
      have hj1 : (j : Int) < (m : Int) := by omega
      have HJ := hid hjl
      by_cases e : x.no = f.no
      · rw [if_pos e] at htk
        rw [htk, layAll_snoc, lay_len] at hsub
        have HLD : Hid (∀ k, Calls Tryz.prog 73 #[v, .agg (oc x).toArray] (wr.drewN k) fun e w' => ∃ v', e = .returned v' ∧ Tx w' v' (layAll f.settled (ofNo (s.opn.take (j + 1)) f.no)) ∧ Below w.heap.size w w' ∧ ∀ k ∈ ob v', k ∈ Rr ss ∨ w.heap.size ≤ k) := hid (fun k => by
          refine (laid_any (wr.drewN k) v _ (ownsRow_same htx (fun _ _ => rfl)) x (by omega) (by omega)).mono ?_
          rintro e w' ⟨v', rfl, q1, q2⟩
          have hz : w.heap.size ≤ wr.heap.size := hbel.size
          refine ⟨v', rfl, ?_, below_comp hbel ⟨q2.os, q2.tape, q2.output, q2.size, q2.block⟩, fun a ha => .inr (Nat.le_trans hz (own_ge q1 (mem_ob.1 ha)).1)⟩
          rw [htk, layAll_snoc]
          exact ⟨q1.1, q1.2.imp id (fun ⟨g, cap, cur, e1, e2, e3⟩ => ⟨g, cap, cur, e1, Nat.zero_le _, e3⟩)⟩)
        have he : ((x.no : Int) == (f.no : Int)) = true := by rw [e]; simp
        have hoc : (oc x).toArray = #[.int .i64 (x.no : Int), .int .i64 (x.at' : Int), St x.pg] := rfl
        rw [hoc] at HLD
        clear htx hbel hvb htk hsub hcell hrw hv4 hx hjs hj hjl hoc hn3
        generalize x.at' = xa at *
        generalize x.pg = xp at *
        rw [e] at o0 he HLD
        generalize f.no = fn at *
        subst hv3
        subst hvl
        go_wp2_with fail
        go_quiet (fail)
        go_wp2_with fail
        refine (HLD.out _).mono ?_
        rintro e w' ⟨v', rfl, q1, q2, q3⟩
        have HQ1 := hid q1
        have HQ2 := hid q2
        have HQ3 := hid q3
        clear q1 q2 q3
        go_wp2_with fail
        go_roundg (m - (j + 1))
        case measure => have := HJ.out; omega
        case rel => exact ⟨j + 1, v', rfl, HJ.out, rfl, rfl, HQ1.out, HQ2.out, HQ3.out⟩
      · rw [if_neg e, List.append_nil] at htk
        have he : ((x.no : Int) == (f.no : Int)) = false := by simpa using fun h => e (by omega)
        have HN : Hid (∀ k, Tx (wr.drewN k) v (layAll f.settled (ofNo (s.opn.take (j + 1)) f.no)) ∧ Below w.heap.size w (wr.drewN k) ∧ ∀ k ∈ ob v, k ∈ Rr ss ∨ w.heap.size ≤ k) := hid (fun k => by
          rw [htk]
          exact ⟨ownsRow_same htx (fun _ _ => rfl), drewN_below hbel k, hvb⟩)
        clear htx hbel hvb htk hsub hcell hrw hv4 hx hjs hj hjl hn3 o1 o2
        obtain ⟨xn, hxn⟩ : ∃ xn, xn = (x.no : Int) := ⟨_, rfl⟩
        rw [← hxn] at o0 he
        obtain ⟨fn, hfn⟩ : ∃ fn, fn = (f.no : Int) := ⟨_, rfl⟩
        rw [← hfn] at e2 he
        clear hxn hfn
        subst hv3
        subst hvl
        go_wp2_with fail
        go_quiet (fail)
        go_wp2_with fail
        go_roundg (m - (j + 1))
        case measure => have := HJ.out; omega
        case rel => exact ⟨j + 1, _, rfl, HJ.out, rfl, rfl, HN.out _⟩
    · have hje : j = m := by omega
      subst hje
      have HF : Hid (Tx wr v (pagesOf s f) ∧ Below w.heap.size w wr ∧ ∀ k ∈ ob v, k ∈ Rr ss ∨ w.heap.size ≤ k) := hid (by
        rw [HM.out, List.take_length] at htx
        exact ⟨htx, hbel, hvb⟩)
      have hjn : ¬ (j : Int) < (j : Int) := by omega
      clear htx hbel hvb hj hjl hn3
      subst hv3
      subst hvl
      go_wp2_with fail
      go_ret
      exact ⟨_, rfl, HF.out⟩
end Go.Proofs.YtojnembakhhgiaaGreat

/- The document's disk: Used. -/
namespace Go.Proofs.YtojnembakhhgiaaGreat
open Go.RowKit

def usedTo (s : Ds) (j : Nat) : Nat := ((s.files.take j).map fun f => (pagesOf s f).length).sum
theorem usedTo_succ {s : Ds} {j : Nat} (hj : j < s.files.length) : usedTo s (j + 1) = usedTo s j + (pagesOf s s.files[j]).length := by
  unfold usedTo
  rw [List.take_add_one, List.getElem?_eq_getElem hj, List.map_append, List.sum_append]
  simp
theorem usedTo_le (s : Ds) (j : Nat) : usedTo s j ≤ usedN s := sum_sub _ (List.take_sublist j s.files)
set_option maxRecDepth 100000 in
set_option maxHeartbeats 8000000 in
theorem rused_any (w : World) (q : Nat) (s : Ds) (fv ov : Value) (ss : List Value) (h : Rv w q s fv ov ss) (hq : usedN s ≤ s.quota) :
    Calls Tryz.prog 38 #[.pointer (some ⟨q, 0, none⟩)] w fun e w' => e = .returned (.int .i64 (usedN s : Int)) ∧ Below w.heap.size w w' := by
  obtain ⟨i0, k0, hb, _⟩ := h.blk
  have hfew := h.ok.few
  obtain ⟨ao, cap, hfv⟩ := row_shape h.fil
  obtain ⟨n, hn⟩ : ∃ n, n = s.files.length := ⟨_, rfl⟩
  have c0 : w.cell? ⟨q, 0, none⟩ = some (.slice ao n cap) := by rw [hn, ← hfv]; exact (cell_of_heap hb 0).trans rfl
  have HC : Hid (∀ W, Below w.heap.size w W → W.cell? ⟨q, 0, none⟩ = some (.slice ao n cap)) := hid (fun W hB => (World.cell?_of_block (hB.block q (lt_of_block hb))).trans c0)
  have HH := hid h
  have HQ := hid hq
  have HN := hid hn
  have HNB : Hid (n ≤ 256) := hid (by omega)
  have hnb : (n : Int) ≤ 256 := by omega
  have HQ6 := hid h.ok.quota
  clear h hb hfew hfv hn hq c0
  go_enter Tryz.func38, Tryz.ntmps38
  go_wp2_with fail
  go_loopg [3, 4] n (fun gg vn vk wr => ∃ (j u : Nat), gg = n - j ∧ j ≤ n ∧ vn = .int .i64 (u : Int) ∧ vk = .int .i64 (j : Int) ∧ Hid (u = usedTo s j) ∧ Below w.heap.size w wr)
  case atStart => exact ⟨0, 0, rfl, Nat.zero_le _, rfl, rfl, hid rfl, Below.refl _ _⟩
  case round =>
    obtain ⟨j, u, rfl, hj, rfl, rfl, HU, hbel⟩ := hrel
    have e0 := HC.out wr hbel
    by_cases hjl : j < n
    · have hjs : j < s.files.length := by have := HN.out; omega
      have hus := usedTo_succ hjs
      have hul := usedTo_le s (j + 1)
      obtain ⟨L, hL⟩ : ∃ L, L = (pagesOf s (s.files[j]'hjs)).length := ⟨_, rfl⟩
      rw [← hL] at hus
      have hub : u + L ≤ 65536 := by rw [HU.out]; have := HQ.out; have := HQ6.out; omega
      have HPG : Hid (Calls Tryz.prog 60 #[.pointer (some ⟨q, 0, none⟩), .int .i64 (j : Int)] wr fun e w' => ∃ ao3 cap3, e = .returned (.slice ao3 L cap3) ∧ Below w.heap.size w w') := hid (by
        refine (rpages_any wr q s fv ov ss (HH.out.low hbel) HQ.out j hjs).mono ?_
        rintro e w' ⟨v, rfl, q1, q2, _⟩
        obtain ⟨a3, c3, rfl⟩ := row_shape q1
        exact ⟨a3, c3, by rw [hL], below_comp hbel q2⟩)
      have hjw : IntKind.i64.wrap ((j : Int) + 1) = ((j + 1 : Nat) : Int) := by rw [IntKind.wrap_i64]; have := HNB.out; omega
      have huw : IntKind.i64.wrap ((u : Int) + (L : Int)) = ((u + L : Nat) : Int) := by rw [IntKind.wrap_i64]; omega
      have hj1 : (j : Int) < (n : Int) := by omega
      have HJ := hid hjl
      have HU2 : Hid (u + L = usedTo s (j + 1)) := hid (by rw [hus, HU.out])
      clear hbel hus hul hL hjs hj hjl
      go_wp2_with fail
      refine HPG.out.mono ?_
      rintro e w' ⟨ao3, cap3, rfl, hb3⟩
      have HB3 := hid hb3
      clear hb3
      go_wp2_with fail
      go_roundg (n - (j + 1))
      case measure => have := HJ.out; omega
      case rel => exact ⟨j + 1, u + L, rfl, HJ.out, rfl, rfl, HU2, HB3.out⟩
    · have hje : j = n := by omega
      subst hje
      have HF : Hid (u = usedN s) := hid (by rw [HU.out, HN.out]; unfold usedTo usedN; rw [List.take_length])
      have hjn : ¬ (j : Int) < (j : Int) := by omega
      have HB := hid hbel
      clear hbel hj hjl
      go_wp2_with fail
      go_ret
      exact ⟨by rw [← HF.out]; rfl, HB.out⟩
end Go.Proofs.YtojnembakhhgiaaGreat

/- The document's disk: Len. -/
namespace Go.Proofs.YtojnembakhhgiaaGreat
open Go.RowKit

set_option maxRecDepth 100000 in
set_option maxHeartbeats 4000000 in
theorem rlen_any (w : World) (q : Nat) (s : Ds) (fv ov : Value) (ss : List Value) (h : Rv w q s fv ov ss) (hq : usedN s ≤ s.quota) (t : Bs) :
    Calls Tryz.prog 34 #[.pointer (some ⟨q, 0, none⟩), St t] w fun e w' => e = .returned (.tuple #[.int .i64 ((lenD s t).1 : Int), .int .i64 ((lenD s t).2 : Int)]) ∧ Below w.heap.size w w' := by
  obtain ⟨i0, k0, hb, _⟩ := h.blk
  have c8 : w.cell? ⟨q, 8, none⟩ = some (.bool s.off) := (cell_of_heap hb 8).trans rfl
  have HFI := hid (rfind_any w q s fv ov ss h t)
  obtain ⟨R, hR⟩ : ∃ R, R = lenD s t := ⟨_, rfl⟩
  rw [← hR]
  cases ho : s.off with
  | true =>
    rw [ho] at c8
    have HRE : Hid (R = (0, 7)) := hid (by rw [hR]; unfold lenD; rw [if_pos ho])
    clear h hb hR
    go_enter Tryz.func34, Tryz.ntmps34
    go_wp2_with fail
    go_ret2
    rw [HRE.out]
    exact ⟨rfl, Below.refl _ _⟩
  | false =>
    rw [ho] at c8
    have hR1 : R = match findF s t with
      | none => (0, 91)
      | some f => ((pagesOf s f).length, 0) := by
      rw [hR]
      unfold lenD
      rw [if_neg (by rw [ho]; decide)]
      cases findF s t <;> rfl
    cases hf : findF s t with
    | none =>
      rw [fidx_none hf] at HFI
      rw [hf] at hR1
      have HRE : Hid (R = (0, 91)) := hid hR1
      clear h hb hR hR1 hf
      go_enter Tryz.func34, Tryz.ntmps34
      go_wp2_with fail
      refine HFI.out.mono ?_
      rintro e w1 ⟨rfl, hw⟩
      subst hw
      go_wp2_with fail
      go_ret2
      rw [HRE.out]
      exact ⟨rfl, Below.refl _ _⟩
    | some f =>
      obtain ⟨ix, hi, e1, e2⟩ := fidx_some hf
      rw [e1] at HFI
      rw [hf] at hR1
      have HRE : Hid (R = ((pagesOf s f).length, 0)) := hid hR1
      obtain ⟨L, hL⟩ : ∃ L, L = (pagesOf s f).length := ⟨_, rfl⟩
      rw [← hL] at HRE
      have HPG : Hid (Calls Tryz.prog 60 #[.pointer (some ⟨q, 0, none⟩), .int .i64 (ix : Int)] w fun e w' => ∃ ao3 cap3, e = .returned (.slice ao3 L cap3) ∧ Below w.heap.size w w') := hid (by
        refine (rpages_any w q s fv ov ss h hq ix hi).mono ?_
        rintro e w' ⟨v, rfl, q1, q2, _⟩
        rw [e2] at q1
        obtain ⟨a3, c3, rfl⟩ := row_shape q1
        exact ⟨a3, c3, by rw [hL], q2⟩)
      have hi0 : ¬ (ix : Int) < 0 := by omega
      clear h hb hR hR1 hf e1 e2 hi hL
      go_enter Tryz.func34, Tryz.ntmps34
      go_wp2_with fail
      refine HFI.out.mono ?_
      rintro e w1 ⟨rfl, hw⟩
      subst hw
      go_wp2_with fail
      refine HPG.out.mono ?_
      rintro e w2 ⟨ao3, cap3, rfl, hb3⟩
      have HB3 := hid hb3
      clear hb3
      go_wp2_with fail
      go_ret2
      rw [HRE.out]
      exact ⟨rfl, HB3.out⟩
end Go.Proofs.YtojnembakhhgiaaGreat
