import Derived.Test.YtojnembakhhgiaaGreatRaAll
import Derived.Lib.ConvBytes
/- The document's disk: pages with a write laid in them; the small steps. -/
namespace Go.Proofs.YtojnembakhhgiaaGreat
open Go.RowKit

theorem info9 : (Tryz.prog.info? 9).map (fun i => (i.zero, i.size, i.bytes)) = some (some (.string ⟨#[]⟩), 1, 16) := by kernel_rfl
theorem tx_one (l : List Bs) : ∀ v ∈ l.map (fun b => St b), v.oneCell' = true := fun v hv => by
  obtain ⟨b, _, rfl⟩ := List.mem_map.1 hv
  rfl
/-- the cells of a row of texts -/
theorem Tx.at' {w : World} {v : Value} {l : List Bs} (h : Tx w v l) (h0 : 0 < l.length) : ∃ g cap, v = .slice (some ⟨g, 0, none⟩) l.length cap ∧ l.length ≤ cap ∧ ∀ k (hk : k < l.length), w.cell? ⟨g, k, none⟩ = some (St l[k]) ∧ w.frozen? ⟨g, k, none⟩ = false := by
  rcases h.2 with ⟨_, h2⟩ | ⟨g, cap, cur, h1, _, h3, h4, h5, h6, h7⟩
  · omega
  · refine ⟨g, cap, h1, h4, fun k hk => ⟨?_, frozen_of_heap h3 _⟩⟩
    have e : (cur.toList.take (l.length * 1))[k]? = some (St l[k]) := by rw [h7]; simp [hk]
    rw [Nat.mul_one, List.getElem?_take_of_lt hk, Array.getElem?_toList] at e
    rw [cell_of_heap h3, e]
/-- texts copied behind nothing -/
theorem tx_copy {w : World} {v : Value} {l : List Bs} (h : Tx w v l) (hl : l.length ≤ 100000) : ∃ v' w', (∀ ty, (Builtin.append_ #[41, 41] ty #[.slice none 0 0, v]).run Tryz.prog w = .ok v' w') ∧ w'.ownsRow w.heap.size 9 1 v' l.length (l.map fun b => St b) ∧ Below w.heap.size w w' := by
  by_cases h0 : 0 < l.length
  · obtain ⟨g, cap, rfl, _, hc⟩ := h.at' h0
    obtain ⟨i0, hi, hz0, hz1, hz2⟩ := info_get info9
    obtain ⟨v', w', h4, h5, h6, _⟩ := run_append_own_at (P := Tryz.prog) w w.heap.size 41 41 9 i0 _ 1 16 Tryz.underlying41 hi hz0 hz1 hz2 rfl (by decide) (.slice none 0 0) 0 [] (World.ownsRow_nil _ _ _ _) ⟨g, 0, none⟩ l.length cap (l.map fun b => St b) (by simp) (fun j u hu => by
      rw [Addr.add_mid, Nat.zero_add]
      have hj : j < l.length := by have := (List.getElem?_eq_some_iff.1 hu).1; simpa using this
      rw [(hc j hj).1, ← hu]
      simp [hj]) (tx_one l) (by simp only [maxLen]; omega) (by omega) (Nat.le_refl _)
    refine ⟨v', w', fun ty => h4, by simpa using h5, ⟨h6.os, h6.tape, h6.output, h6.size, fun k hk => h6.block k hk (fun e => by cases e)⟩⟩
  · have hl0 : l = [] := List.eq_nil_of_length_eq_zero (by omega)
    subst hl0
    obtain ⟨ao, cap, rfl⟩ : ∃ ao cap, v = .slice ao 0 cap := row_shape h
    refine ⟨.slice none 0 0, w, fun ty => ?_, World.ownsRow_nil _ _ _ _, Below.refl _ _⟩
    cases ao with
    | none => kernel_rfl
    | some a => kernel_rfl
/-- one text more -/
theorem tx_more {W : World} {base : Nat} {v : Value} {l : List Bs} (t : Bs) (h : W.ownsRow base 9 1 v l.length (l.map fun b => St b)) (hl : l.length ≤ 1000000) (hb : base ≤ W.heap.size) : ∃ v' w', (∀ ty, (Builtin.append_ #[41, 41] ty #[v, .slice (some ⟨W.heap.size, 0, none⟩) 1 1]).run Tryz.prog (W.alloc (.cells #[St t] 9)) = .ok v' w') ∧ w'.ownsRow base 9 1 v' (l ++ [t]).length ((l ++ [t]).map fun b => St b) ∧ W.grownBy w' v.ownBlock := by
  obtain ⟨i0, hi, hz0, hz1, hz2⟩ := info_get info9
  obtain ⟨v', w', h1, h2, h3, _⟩ := run_append_own_at (P := Tryz.prog) (W.alloc (.cells #[St t] 9)) base 41 41 9 i0 _ 1 16 Tryz.underlying41 hi hz0 hz1 hz2 rfl (by decide) v l.length (l.map fun b => St b) (h.alloc _) ⟨W.heap.size, 0, none⟩ 1 1 [St t] rfl (fun j u hu => by
    rw [Addr.add_mid, Nat.zero_add, cell_of_heap (heap_alloc_new W _), List.getElem?_toArray]
    exact hu) (fun u hu => by simp at hu; subst hu; rfl) (by unfold maxLen; omega) (by omega) (by simp; omega)
  exact ⟨v', w', fun ty => h1, by simpa using h2, (World.grownBy_alloc W _ v.ownBlock).trans h3⟩
theorem make256 (W : World) : (Instr.makeSlice 47 (.int .i64 256) (.int .i64 256)).run Tryz.prog W = .ok (.slice (some ⟨W.heap.size, 0, none⟩) 256 256) (W.alloc (.cells (bcs nought).toArray 5)) := by kernel_rfl
theorem text256 (W : World) : (convert 47 9 (.slice (some ⟨W.heap.size, 0, none⟩) 256 256)).run Tryz.prog (W.alloc (.cells (bcs nought).toArray 5)) = .ok (St nought) (W.alloc (.cells (bcs nought).toArray 5)) := by
  have := run_convert_bytes_back (P := Tryz.prog) (W.alloc (.cells (bcs nought).toArray 5)) 47 9 5 ⟨W.heap.size, 0, none⟩ 256 nought Tryz.underlying47 Tryz.underlying5 Tryz.underlying9 (fun j hj => by
    rw [Addr.add_mid, Nat.zero_add, cell_of_heap (heap_alloc_new W _), List.getElem?_toArray]
    simp [bcs, hj])
  rw [nought_len] at this
  exact this
end Go.Proofs.YtojnembakhhgiaaGreat

/- The document's disk: laid. -/
namespace Go.Proofs.YtojnembakhhgiaaGreat
open Go.RowKit

theorem tx_set {w : World} {base g cap : Nat} {l : List Bs} (h : w.ownsRow base 9 1 (.slice (some ⟨g, 0, none⟩) l.length cap) l.length (l.map fun b => St b)) (k : Nat) (hk : k < l.length) (t : Bs) : (w.setCell ⟨g, k, none⟩ (St t)).ownsRow base 9 1 (.slice (some ⟨g, 0, none⟩) l.length cap) l.length ((l.set k t).map fun b => St b) := by
  rcases h.2 with ⟨_, h2⟩ | ⟨g', cap', cur, h1, h2, h3, h4, h5, h6, h7⟩
  · omega
  · cases h1
    refine ⟨by simp, .inr ⟨g, cap, _, rfl, h2, heap_setCell_same h3 k _, h4, h5, by simpa using h6, ?_⟩⟩
    rw [Array.toList_setIfInBounds, List.take_set, h7, List.map_set]
set_option maxRecDepth 100000 in
set_option maxHeartbeats 8000000 in
theorem laid_any (w : World) (v : Value) (l : List Bs) (h : Tx w v l) (x : Dw) (hl : l.length ≤ 100000) (hat : x.at' ≤ 100000) :
    Calls Tryz.prog 73 #[v, .agg (oc x).toArray] w fun e w' => ∃ v', e = .returned v' ∧ w'.ownsRow w.heap.size 9 1 v' (lay l x.at' x.pg).length ((lay l x.at' x.pg).map fun b => St b) ∧ Below w.heap.size w w' := by
  obtain ⟨w0, hw0⟩ : ∃ w0, w0 = w.alloc (.cells #[.int .i64 (x.no : Int), .int .i64 (x.at' : Int), St x.pg] 95) := ⟨_, rfl⟩
  have hb0 : Below w.heap.size w w0 := hw0 ▸ (Below.refl _ _).alloc (Nat.le_refl _) _
  have hx0 : w0.heap[w.heap.size]? = some (.cells #[.int .i64 (x.no : Int), .int .i64 (x.at' : Int), St x.pg] 95 (0, 0)) := by rw [hw0]; exact heap_alloc_new _ _
  have hz0 : w0.heap.size = w.heap.size + 1 := by rw [hw0]; simp
  obtain ⟨v1, w1, hrun, hr1, hb1⟩ := tx_copy (w := w0) (ownsRow_same h (fun g hg => hb0.block g (h.lt g hg).2)) hl
  obtain ⟨ao, cap, rfl⟩ := row_shape h
  have HR := hid hrun
  have HR1 := hid hr1
  have HB1 := hid hb1
  have HB0 := hid hb0
  have HX0 := hid hx0
  have HZ0 := hid hz0
  obtain ⟨at', hat'⟩ : ∃ at', at' = x.at' := ⟨_, rfl⟩
  rw [← hat'] at hw0 HX0 ⊢
  rw [← hat'] at hat
  have HAT : Hid (at' ≤ 100000) := hid hat
  have HL := hid hl
  obtain ⟨pg, hpg⟩ : ∃ pg, pg = x.pg := ⟨_, rfl⟩
  rw [← hpg] at hw0 HX0 ⊢
  have hoc : (oc x).toArray = #[.int .i64 (x.no : Int), .int .i64 (at' : Int), St pg] := by rw [hat', hpg]
  rw [hoc]
  have HS : Hid (∃ v1', v1' = v1 ∧ w1.ownsRow (w.heap.size + 1) 9 1 v1' (l ++ List.replicate 0 nought).length ((l ++ List.replicate 0 nought).map fun b => St b) ∧ Below w.heap.size w w1 ∧ w1.heap[w.heap.size]? = some (.cells #[.int .i64 (x.no : Int), .int .i64 (at' : Int), St pg] 95 (0, 0))) := hid ⟨v1, rfl, by rw [← hz0]; simpa using hr1, below_comp hb0 hb1, (hb1.block _ (by omega)).trans HX0.out⟩
  obtain ⟨ll, hll⟩ : ∃ ll, ll = l.length := ⟨_, rfl⟩
  rw [← hll] at HR ⊢
  have HLL := hid hll
  clear h hrun hr1 hb1 hb0 hx0 hz0 hl hat' hpg hoc hat HR1 HB1 HX0 HB0 HZ0 hll
  subst hw0
  go_enter Tryz.func73, Tryz.ntmps73
  go_wp2_with (first | (at_builtin; refine wpList_append_run rfl (.tmp 6) (.tmp 7) 41 rfl (.slice none 0 0) (.slice ao ll cap) v1 w1 rfl rfl HR.out ?_) | fail)
  go_loopg [5] (at' + 1 - l.length) (fun gg vv wr => ∃ (k : Nat) (v5 : Value), gg = at' + 1 - (l.length + k) ∧ vv = v5 ∧ (k = 0 ∨ l.length + k ≤ at' + 1) ∧ wr.ownsRow (w.heap.size + 1) 9 1 v5 (l ++ List.replicate k nought).length ((l ++ List.replicate k nought).map fun b => St b) ∧ Below w.heap.size w wr ∧ wr.heap[w.heap.size]? = some (.cells #[.int .i64 (x.no : Int), .int .i64 (at' : Int), St pg] 95 (0, 0)))
  case atStart =>
    obtain ⟨v1', rfl, h1, h2, h3⟩ := HS.out
    exact ⟨0, _, rfl, rfl, .inl rfl, h1, h2, h3⟩
  case round =>
    obtain ⟨k, v5, rfl, hvv, hk, hr, hb, hx⟩ := hrel
    obtain ⟨ao2, cap2, hv⟩ := row_shape2 hr
    have hTl : (l ++ List.replicate k nought).length = l.length + k := by simp
    have c1 : wr.cell? ⟨w.heap.size, 1, none⟩ = some (.int .i64 (at' : Int)) := (cell_of_heap hx 1).trans rfl
    have c2 : wr.cell? ⟨w.heap.size, 2, none⟩ = some (St pg) := (cell_of_heap hx 2).trans rfl
    have hwz : w.heap.size < wr.heap.size := lt_of_block hx
    have hl6 := HL.out
    have ha6 := HAT.out
    by_cases hin : l.length + k ≤ at'
    · obtain ⟨wm, hwm⟩ : ∃ wm, wm = wr.alloc (.cells (bcs nought).toArray 5) := ⟨_, rfl⟩
      have hbm : Below wr.heap.size wr wm := hwm ▸ (Below.refl _ _).alloc (Nat.le_refl _) _
      have hzm : wm.heap.size = wr.heap.size + 1 := by rw [hwm]; simp
      obtain ⟨v3, w3, hrun, hr3, hg3⟩ := tx_more (W := wm) (base := w.heap.size + 1) nought (ownsRow_same hr (fun g hg => hbm.block g (own_ge hr hg).2)) (by omega) (by omega)
      obtain ⟨ao3, cap3, hv3⟩ := row_shape2 hr3
      have HRN := hid hrun
      have hT2 : l ++ List.replicate (k + 1) nought = l ++ List.replicate k nought ++ [nought] := by rw [List.replicate_succ', List.append_assoc]
      have HN : Hid (w3.ownsRow (w.heap.size + 1) 9 1 v3 (l ++ List.replicate (k + 1) nought).length ((l ++ List.replicate (k + 1) nought).map fun b => St b) ∧ Below w.heap.size w w3 ∧ w3.heap[w.heap.size]? = some (.cells #[.int .i64 (x.no : Int), .int .i64 (at' : Int), St pg] 95 (0, 0))) := hid (by
        have hne : ∀ g, g ≤ w.heap.size → some g ≠ (v5.ownBlock) := fun g hgl e => by have := (own_ge hr e.symm).1; omega
        refine ⟨by rw [hT2]; exact hr3, ⟨hg3.os.trans (hbm.os.trans hb.os), hg3.tape.trans (hbm.tape.trans hb.tape), hg3.output.trans (hbm.output.trans hb.output), Nat.le_trans hb.size (Nat.le_trans hbm.size hg3.size), fun g hg => ?_⟩, ?_⟩
        · rw [hg3.block g (by omega) (hne g (by omega)), hbm.block g (by omega)]
          exact hb.block g hg
        · rw [hg3.block _ (by omega) (hne _ (Nat.le_refl _)), hbm.block _ (by omega)]
          exact hx)
      have hmk : (Instr.makeSlice 47 (.int .i64 256) (.int .i64 256)).run Tryz.prog wr = .ok (.slice (some ⟨wr.heap.size, 0, none⟩) 256 256) wm := by rw [hwm]; exact make256 wr
      have hcv : (convert 47 9 (.slice (some ⟨wr.heap.size, 0, none⟩) 256 256)).run Tryz.prog wm = .ok (St nought) wm := by rw [hwm]; exact text256 wr
      have hin2 : ((l.length + k : Nat) : Int) ≤ (at' : Int) := by omega
      have HIN := hid hin
      clear hr hb hx hrun hr3 hg3 hbm hT2 hwm hwz hk hl6 ha6 hin hzm
      rw [hTl] at hv
      obtain ⟨n, hn⟩ : ∃ n, n = l.length + k := ⟨_, rfl⟩
      rw [← hn] at hv hin2
      generalize nought = NB at *
      generalize (l ++ List.replicate k NB ++ [NB]).length = n3 at *
      clear hn hTl
      subst hv
      subst hvv
      subst hv3
      go_wp2_with (first | (at_builtin; refine wpList_append_run rfl (.tmp 14) (.tmp 17) 41 rfl _ _ (.slice ao3 n3 cap3) w3 rfl rfl HRN.out ?_) | fail)
      go_roundg (at' + 1 - (l.length + (k + 1)))
      case measure => have := HIN.out; omega
      case rel => exact ⟨k + 1, _, rfl, rfl, .inr (by have := HIN.out; omega), HN.out⟩
    · have hkT : at' < (l ++ List.replicate k nought).length := by omega
      have hlay : lay l at' pg = (l ++ List.replicate k nought).set at' pg := by
        unfold lay
        congr 3
        omega
      obtain ⟨T, eT⟩ : ∃ T, T = l ++ List.replicate k nought := ⟨_, rfl⟩
      rw [← eT] at hr hkT hlay hv hTl
      obtain ⟨g, cap', hv', _, hcell⟩ := Tx.at' (w := wr) (v := v5) (l := T) ⟨hr.1, hr.2.imp id (fun ⟨g, cap, cur, e1, e2, e3⟩ => ⟨g, cap, cur, e1, Nat.zero_le _, e3⟩)⟩ (by omega)
      have hgb : w.heap.size + 1 ≤ g := (own_ge hr (by rw [hv']; rfl)).1
      obtain ⟨d1, f1⟩ := hcell at' hkT
      have HF : Hid ((wr.setCell ⟨g, at', none⟩ (St pg)).ownsRow w.heap.size 9 1 (.slice (some ⟨g, 0, none⟩) T.length cap') (lay l at' pg).length ((lay l at' pg).map fun b => St b) ∧ Below w.heap.size w (wr.setCell ⟨g, at', none⟩ (St pg))) := hid (by
        rw [hv'] at hr
        have := tx_set hr at' hkT pg
        rw [hlay, List.length_set]
        refine ⟨⟨this.1, this.2.imp id (fun ⟨g, cap, cur, e1, e2, e3⟩ => ⟨g, cap, cur, e1, by omega, e3⟩)⟩, ?_⟩
        have h5 := Kf.set (F := [g]) (g := g) wr (by simp) at' (St pg)
        exact ⟨h5.os.trans hb.os, h5.tape.trans hb.tape, h5.output.trans hb.output, Nat.le_trans hb.size h5.size, fun k hk => (h5.blk k (by omega) (by simp; omega)).trans (hb.block k hk)⟩)
      have hin2 : ¬ ((T.length : Nat) : Int) ≤ (at' : Int) := by omega
      have hk0 : (0 : Int) ≤ (at' : Int) := Int.natCast_nonneg _
      have hk1 : (at' : Int) < (T.length : Int) := by omega
      have e1 : (wr.cell? ⟨g, at', none⟩).isSome = true := by rw [d1]; rfl
      obtain ⟨tt, htt⟩ : ∃ tt, tt = T[at'] := ⟨_, rfl⟩
      rw [← htt] at d1
      clear htt
      clear hr hb hx hcell hlay hTl hk hl6 ha6 hin hwz hgb hv eT hkT
      generalize T.length = n at *
      rw [hv'] at hvv
      subst hvv
      go_wp2_with fail
      go_ret
      exact ⟨_, rfl, HF.out⟩
end Go.Proofs.YtojnembakhhgiaaGreat
