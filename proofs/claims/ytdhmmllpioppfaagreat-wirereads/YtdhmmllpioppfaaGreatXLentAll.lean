import Derived.Test.YtdhmmllpioppfaaGreatVRAll
import Derived.Test.YtdhmmllpioppfaaGreatWDec
/- A message in memory of its own. -/
namespace Go.Proofs.YtdhmmllpioppfaaGreat.V
open Go.RowKit

theorem app_none23 (c : Nat) (W : World) (ty : TypeId) : (Builtin.append_ #[23, 23] ty #[.slice none 0 0, .slice none 0 c]).run Tryz.prog W = .ok (.slice none 0 0) W := by
  obtain ⟨i0, hi, _⟩ := info_get Tryz.info2
  simp [Builtin.append_, run_underlying Tryz.underlying23, sizeOf, typeInfo, hi, Builtin.lenOf, Builtin.firstCells]
theorem app_none24 (c : Nat) (W : World) (ty : TypeId) : (Builtin.append_ #[24, 24] ty #[.slice none 0 0, .slice none 0 c]).run Tryz.prog W = .ok (.slice none 0 0) W := by
  obtain ⟨i0, hi, _⟩ := info_get Tryz.info46
  simp [Builtin.append_, run_underlying Tryz.underlying24, sizeOf, typeInfo, hi, Builtin.lenOf, Builtin.firstCells]
theorem grown_below {W W' : World} (hg : W.grownBy W' (Value.ownBlock (.slice none 0 0))) : Below W.heap.size W W' := (Below.refl _ _).grown hg (Nat.le_refl _) (fun k e => by cases e)
theorem own_is {W : World} {B : Nat} {e : TypeId} {v : Value} {n : Nat} {xs : List Value} (h : W.ownsRow B e 1 v n xs) : ∃ ao cap, v = .slice ao n cap := by
  rcases h.2 with ⟨h1, h2⟩ | ⟨g, cap, _, h1, _⟩
  · rw [h2]; exact ⟨_, _, h1⟩
  · exact ⟨_, _, h1⟩
theorem append_ns {W : World} {B : Nat} {v : Value} {l : List Int} (h : Ns W v l) (hl : l.length ≤ 4000) (hB : B ≤ W.heap.size) :
    ∃ ao cap W', (∀ ty, (Builtin.append_ #[23, 23] ty #[.slice none 0 0, v]).run Tryz.prog W = .ok (.slice ao l.length cap) W') ∧ W'.ownsRow B 2 1 (.slice ao l.length cap) l.length (i64s l) ∧ Below W.heap.size W W' := by
  obtain ⟨a, c, rfl, hc⟩ := h
  cases a with
  | none =>
    have e : l = [] := by
      apply Classical.byContradiction
      intro hne
      obtain ⟨_, _, e, _⟩ := hc hne
      cases e
    subst e
    exact ⟨none, 0, W, fun ty => app_none23 c W ty, World.ownsRow_nil _ _ _ _, Below.refl _ _⟩
  | some a =>
    obtain ⟨i0, hi, hz0, hz1, hz2⟩ := info_get Tryz.info2
    obtain ⟨v', w', h1, h2, h3, _⟩ := run_append_own (P := Tryz.prog) W B 23 23 2 i0 _ 1 8 Tryz.underlying23 hi hz0 hz1 hz2 rfl (by decide) (.slice none 0 0) 0 [] (World.ownsRow_nil _ _ _ _) a l.length c (i64s l) (by simp [i64s]) (fun j u hu => by
      have hj : j < l.length := by
        apply Classical.byContradiction
        intro hn
        rw [List.getElem?_eq_none (by simp [i64s]; omega)] at hu
        cases hu
      obtain ⟨g, o, e, _, hce⟩ := hc (fun e => by rw [e] at hj; simp at hj)
      cases e
      rw [add_plain, hce j hj]
      rw [← hu]
      simp [i64s, hj]) (fun u hu => by simp [i64s] at hu; obtain ⟨_, _, rfl⟩ := hu; rfl) (by unfold maxLen; omega) (by omega) hB
    rw [Nat.zero_add, List.nil_append] at h2
    obtain ⟨ao, cap, rfl⟩ := own_is h2
    exact ⟨ao, cap, w', fun ty => h1, h2, grown_below h3⟩
theorem append_ts {W : World} {B : Nat} {v : Value} {l : List Bs} (h : Ts W v l) (hl : l.length ≤ 4000) (hB : B ≤ W.heap.size) :
    ∃ ao cap W', (∀ ty, (Builtin.append_ #[24, 24] ty #[.slice none 0 0, v]).run Tryz.prog W = .ok (.slice ao l.length cap) W') ∧ W'.ownsRow B 46 1 (.slice ao l.length cap) l.length (l.map St) ∧ Below W.heap.size W W' := by
  obtain ⟨a, c, rfl, hc⟩ := h
  cases a with
  | none =>
    have e : l = [] := by
      apply Classical.byContradiction
      intro hne
      obtain ⟨_, _, e, _⟩ := hc hne
      cases e
    subst e
    exact ⟨none, 0, W, fun ty => app_none24 c W ty, World.ownsRow_nil _ _ _ _, Below.refl _ _⟩
  | some a =>
    obtain ⟨i0, hi, hz0, hz1, hz2⟩ := info_get Tryz.info46
    obtain ⟨v', w', h1, h2, h3, _⟩ := run_append_own (P := Tryz.prog) W B 24 24 46 i0 _ 1 16 Tryz.underlying24 hi hz0 hz1 hz2 rfl (by decide) (.slice none 0 0) 0 [] (World.ownsRow_nil _ _ _ _) a l.length c (l.map St) (by simp) (fun j u hu => by
      have hj : j < l.length := by
        apply Classical.byContradiction
        intro hn
        rw [List.getElem?_eq_none (by simp; omega)] at hu
        cases hu
      obtain ⟨g, o, e, _, hce⟩ := hc (fun e => by rw [e] at hj; simp at hj)
      cases e
      rw [add_plain, hce j hj]
      rw [← hu]
      simp [hj]) (fun u hu => by simp at hu; obtain ⟨_, _, rfl⟩ := hu; rfl) (by unfold maxLen; omega) (by omega) hB
    rw [Nat.zero_add, List.nil_append] at h2
    obtain ⟨ao, cap, rfl⟩ := own_is h2
    exact ⟨ao, cap, w', fun ty => h1, h2, grown_below h3⟩
/-- one result, a variable -/
theorem results_c1 {P : Program} {fn : Func} {tmps : Array Value} {k : Nat} {t : TypeId} {a : Addr} {v : Value} {w : World} (hr : fn.results = #[.cell k t]) (hk : tmps.getD k undef = .pointer (some a)) (hl : (loadVar t a).run P w = .ok v w) :
    (results fn tmps).run P w = .ok v w := by
  have hk' : tmps[k]?.getD undef = .pointer (some a) := by simpa using hk
  unfold results
  rw [hr]
  simp [hk', asAddr, hl]
end Go.Proofs.YtdhmmllpioppfaaGreat.V

/- The document's Lent. -/
namespace Go.Proofs.YtdhmmllpioppfaaGreat.V
open Go.RowKit

theorem mo_set1 {B : Nat} {w : World} {nv tv mv : Value} {m : Msg} (h : Mo B w nv tv mv m) {x : Nat} (hx : x < B) (o : Nat) (v : Value) : Mo B (w.setCell ⟨x, o, none⟩ v) nv tv mv m := by
  have ne : ∀ {e : TypeId} {sz : Nat} {u : Value} {n : Nat} {xs : List Value}, w.ownsRow B e sz u n xs → (w.setCell ⟨x, o, none⟩ v).ownsRow B e sz u n xs := fun ho => ownsRow_same ho (fun g e => Below.heap_setCell _ _ _ _ (by have := (ho.lt g e).1; show g ≠ x; omega))
  obtain ⟨bs, h1, h2, h3⟩ := h.mo.row
  exact ⟨ne h.ns, ne h.ts, ⟨bs, h1, ne h2, fun i hi hi' => ne (h3 i hi hi')⟩⟩
set_option maxRecDepth 100000 in
set_option maxHeartbeats 8000000 in
theorem rlent_any (w : World) (nv tv mv : Value) (m : Msg) (h : Ms w nv tv mv m) (hn4 : m.ns.length ≤ 4000) (ht4 : m.ts.length ≤ 4000) (hm4 : Sm m.mo) :
    Calls Tryz.prog 9 #[Mv m.k m.ch nv tv m.tx mv] w fun e w' => ∃ nv' tv' mv', e = .returned (Mv m.k m.ch nv' tv' m.tx mv') ∧ Mo w.heap.size w' nv' tv' mv' m ∧ Below w.heap.size w w' := by
  obtain ⟨an, cn, rfl, hu1⟩ := h.ns
  clear hu1
  obtain ⟨at', ct, rfl, hu2⟩ := h.ts
  clear hu2
  obtain ⟨am, cm, rfl⟩ := h.mo.shape
  obtain ⟨wa, hwa⟩ : ∃ wa, wa = w.alloc (.cells #[.int .u16 (m.k : Int), St m.ch, .slice an m.ns.length cn, .slice at' m.ts.length ct, St m.tx, .slice am m.mo.length cm] 27) := ⟨_, rfl⟩
  obtain ⟨wb, hwb⟩ : ∃ wb, wb = (w.alloc (.cells #[.int .u16 (m.k : Int), St m.ch, .slice an m.ns.length cn, .slice at' m.ts.length ct, St m.tx, .slice am m.mo.length cm] 27)).alloc (.cells #[.int .u16 0, St [], .slice none 0 0, .slice none 0 0, St [], .slice none 0 0] 27) := ⟨_, rfl⟩
  have hBa : Below w.heap.size w wa := hwa ▸ (Below.refl _ _).alloc (Nat.le_refl _) _
  have hsa : wa.heap.size = w.heap.size + 1 := by rw [hwa]; simp
  have hwb2 : wb = wa.alloc (.cells #[.int .u16 0, St [], .slice none 0 0, .slice none 0 0, St [], .slice none 0 0] 27) := by rw [hwb, hwa]
  have hB0 : Below w.heap.size w wb := hwb2 ▸ hBa.alloc (by omega) _
  have hsb : wb.heap.size = w.heap.size + 2 := by rw [hwb2]; simp; omega
  have hx : wb.heap[w.heap.size]? = some (.cells #[.int .u16 (m.k : Int), St m.ch, .slice an m.ns.length cn, .slice at' m.ts.length ct, St m.tx, .slice am m.mo.length cm] 27) := by
    rw [hwb2, Below.heap_alloc _ _ _ (by omega), hwa]
    exact heap_alloc_new _ _
  have hy : wb.heap[w.heap.size + 1]? = some (.cells #[.int .u16 0, St [], .slice none 0 0, .slice none 0 0, St [], .slice none 0 0] 27) := by
    rw [hwb2, ← hsa]
    exact heap_alloc_new _ _
  -- the two rows
  obtain ⟨a1, c1, w1, hrun1, ho1, hb1⟩ := append_ns (B := wb.heap.size) (h.ns.below hB0) hn4 (Nat.le_refl _)
  obtain ⟨a2, c2, w2, hrun2, ho2, hb2⟩ := append_ts (B := wb.heap.size) (h.ts.below (two_low hB0 hb1)) ht4 hb1.size
  have hB2 : Below wb.heap.size wb w2 := two_low hb1 hb2
  have ho1' : w2.ownsRow wb.heap.size 2 1 (.slice a1 m.ns.length c1) m.ns.length (i64s m.ns) := ownsRow_same ho1 (fun g e => hb2.block g (ho1.lt g e).2)
  have hx2 := (hB2.block _ (by omega)).trans hx
  have hy2 := (hB2.block _ (by omega)).trans hy
  have HX2 := hid hx2
  have HY2 := hid hy2
  rw [hwb] at hrun1
  have HRUN1 := hid hrun1
  have HRUN2 := hid hrun2
  have HO1 := hid ho1'
  have HO2 := hid ho2
  have HB0 := hid hB0
  have HB2 := hid hB2
  have HSB := hid hsb
  have HMO : Hid (∀ W, Below w.heap.size w W → Rcs W (.slice am m.mo.length cm) m.mo) := hid (fun W hb => h.mo.below hb)
  have HSM := hid hm4
  have e2 : wb.cell? ⟨w.heap.size, 2, none⟩ = some (.slice an m.ns.length cn) := (cell_of_heap hx 2).trans rfl
  rw [hwb] at e2
  have e3 : w1.cell? ⟨w.heap.size, 3, none⟩ = some (.slice at' m.ts.length ct) := (cell_of_heap ((hb1.block _ (by omega)).trans hx) 3).trans rfl
  have g2 : w2.cell? ⟨w.heap.size, 2, none⟩ = some (.slice an m.ns.length cn) := (cell_of_heap hx2 2).trans rfl
  have g3 : w2.cell? ⟨w.heap.size, 3, none⟩ = some (.slice at' m.ts.length ct) := (cell_of_heap hx2 3).trans rfl
  have g5 : w2.cell? ⟨w.heap.size, 5, none⟩ = some (.slice am m.mo.length cm) := (cell_of_heap hx2 5).trans rfl
  have f2 : w2.frozen? ⟨w.heap.size, 2, none⟩ = false := frozen_of_heap hx2 2
  have f3 : w2.frozen? ⟨w.heap.size, 3, none⟩ = false := frozen_of_heap hx2 3
  clear hrun1 hrun2 ho1 ho1' ho2 hb1 hb2 hB0 hB2 hsb hx hy hx2 hy2 hBa hsa hwb2 hwa h hn4 ht4 hm4
  go_enter Tryz.func9, Tryz.ntmps9
  go_wp2_with (first | (at_builtin; refine wpList_append_run rfl (.tmp 5) (.tmp 7) 23 rfl (.slice none 0 0) (.slice an m.ns.length cn) (.slice a1 m.ns.length c1) w1 rfl rfl HRUN1.out ?_) | (at_builtin; refine wpList_append_run rfl (.tmp 9) (.tmp 11) 24 rfl (.slice none 0 0) (.slice at' m.ts.length ct) (.slice a2 m.ts.length c2) w2 rfl rfl HRUN2.out ?_) | fail)
  obtain ⟨w3, hw3⟩ : ∃ w3, w3 = (w2.setCell ⟨w.heap.size, 2, none⟩ (.slice a1 m.ns.length c1)).setCell ⟨w.heap.size, 3, none⟩ (.slice a2 m.ts.length c2) := ⟨_, rfl⟩
  have hsb := HSB.out
  have hB3 : Below w.heap.size w w3 := by
    rw [hw3]
    exact set1_below (set1_below (two_low HB0.out HB2.out) (Nat.le_refl _) 2 _) (Nat.le_refl _) 3 _
  have hne : ∀ g, g ≠ w.heap.size → w3.heap[g]? = w2.heap[g]? := fun g hg => by rw [hw3, Below.heap_setCell _ _ _ _ hg, Below.heap_setCell _ _ _ _ hg]
  have hx3 : w3.heap[w.heap.size]? = some (.cells #[.int .u16 (m.k : Int), St m.ch, .slice a1 m.ns.length c1, .slice a2 m.ts.length c2, St m.tx, .slice am m.mo.length cm] 27) := by
    rw [hw3]
    exact (heap_setCell_same (heap_setCell_same HX2.out 2 _) 3 _).trans rfl
  have hy3 := (hne _ (by omega)).trans HY2.out
  have ho1 : w3.ownsRow wb.heap.size 2 1 (.slice a1 m.ns.length c1) m.ns.length (i64s m.ns) := ownsRow_same HO1.out (fun g e => hne g (by have := (HO1.out.lt g e).1; omega))
  have ho2 : w3.ownsRow wb.heap.size 46 1 (.slice a2 m.ts.length c2) m.ts.length (m.ts.map St) := ownsRow_same HO2.out (fun g e => hne g (by have := (HO2.out.lt g e).1; omega))
  have hs3 : wb.heap.size ≤ w3.heap.size := by rw [hw3]; simp [World.setCell]; exact HB2.out.size
  have HLE := hid (lent_any w3 _ m.mo (HMO.out w3 hB3) HSM.out)
  rw [← hw3]
  have HB3 := hid hB3
  have HX3 := hid hx3
  have HY3 := hid hy3
  have HO13 := hid ho1
  have HO23 := hid ho2
  have HS3 := hid hs3
  clear hw3 hB3 hne hx3 hy3 ho1 ho2 hs3 hsb HO1 HO2 HX2 HY2 HB2 HRUN1 HRUN2 e2 e3 g2 g3 g5 f2 f3 hwb
  refine HLE.out.mono ?_
  rintro e w4 ⟨a4, c4, rfl, hro, hb4⟩
  have hx4 := (hb4.block _ (lt_of_block HX3.out)).trans HX3.out
  have hy4 := (hb4.block _ (lt_of_block HY3.out)).trans HY3.out
  have d0 : w4.cell? ⟨w.heap.size, 0, none⟩ = some (.int .u16 (m.k : Int)) := (cell_of_heap hx4 0).trans rfl
  have d1 : w4.cell? ⟨w.heap.size, 1, none⟩ = some (St m.ch) := (cell_of_heap hx4 1).trans rfl
  have d2 : w4.cell? ⟨w.heap.size, 2, none⟩ = some (.slice a1 m.ns.length c1) := (cell_of_heap hx4 2).trans rfl
  have d3 : w4.cell? ⟨w.heap.size, 3, none⟩ = some (.slice a2 m.ts.length c2) := (cell_of_heap hx4 3).trans rfl
  have d4 : w4.cell? ⟨w.heap.size, 4, none⟩ = some (St m.tx) := (cell_of_heap hx4 4).trans rfl
  have d5 : w4.cell? ⟨w.heap.size, 5, none⟩ = some (.slice am m.mo.length cm) := (cell_of_heap hx4 5).trans rfl
  have f5 : w4.frozen? ⟨w.heap.size, 5, none⟩ = false := frozen_of_heap hx4 5
  have y0 : w4.cell? ⟨w.heap.size + 1, 0, none⟩ = some (.int .u16 0) := (cell_of_heap hy4 0).trans rfl
  have y1 : w4.cell? ⟨w.heap.size + 1, 1, none⟩ = some (St []) := (cell_of_heap hy4 1).trans rfl
  have y2 : w4.cell? ⟨w.heap.size + 1, 2, none⟩ = some (.slice none 0 0) := (cell_of_heap hy4 2).trans rfl
  have y3 : w4.cell? ⟨w.heap.size + 1, 3, none⟩ = some (.slice none 0 0) := (cell_of_heap hy4 3).trans rfl
  have y4 : w4.cell? ⟨w.heap.size + 1, 4, none⟩ = some (St []) := (cell_of_heap hy4 4).trans rfl
  have y5 : w4.cell? ⟨w.heap.size + 1, 5, none⟩ = some (.slice none 0 0) := (cell_of_heap hy4 5).trans rfl
  have k0 := frozen_of_heap hy4 0
  have k1 := frozen_of_heap hy4 1
  have k2 := frozen_of_heap hy4 2
  have k3 := frozen_of_heap hy4 3
  have k4 := frozen_of_heap hy4 4
  have k5 := frozen_of_heap hy4 5
  have HRO := hid hro
  have HB4 := hid hb4
  have HY4 := hid hy4
  clear hro hb4 hx4 hy4 HLE
  go_wp2_with fail
  have hsb := HSB.out
  have hM4 : Mo wb.heap.size w4 (.slice a1 m.ns.length c1) (.slice a2 m.ts.length c2) (.slice a4 m.mo.length c4) m := ⟨ownsRow_same HO13.out (fun g e => HB4.out.block g (HO13.out.lt g e).2), ownsRow_same HO23.out (fun g e => HB4.out.block g (HO23.out.lt g e).2), HRO.out.lower HS3.out⟩
  have hM5 := mo_set1 hM4 (x := w.heap.size) (by omega) 5 (.slice a4 m.mo.length c4)
  have hM6 := hM5.set6 (x := w.heap.size + 1) (by omega) (.int .u16 (m.k : Int)) (St m.ch) (.slice a1 m.ns.length c1) (.slice a2 m.ts.length c2) (St m.tx) (.slice a4 m.mo.length c4)
  have hy5 := (Below.heap_setCell w4 ⟨w.heap.size, 5, none⟩ (.slice a4 m.mo.length c4) (w.heap.size + 1) (by show w.heap.size + 1 ≠ w.heap.size; omega)).trans HY4.out
  have hB5 : Below w.heap.size w (w4.setCell ⟨w.heap.size, 5, none⟩ (.slice a4 m.mo.length c4)) := set1_below (two_low HB3.out HB4.out) (Nat.le_refl _) 5 _
  refine bodyPost_ret (results_c1 rfl rfl (load_msg (set6_at hy5 (.int .u16 (m.k : Int)) (St m.ch) (.slice a1 m.ns.length c1) (.slice a2 m.ts.length c2) (St m.tx) (.slice a4 m.mo.length c4)))) rfl ⟨.slice a1 m.ns.length c1, .slice a2 m.ts.length c2, .slice a4 m.mo.length c4, rfl, ?_, ?_⟩
  · exact hM6.lower (by omega)
  · exact set6_below hB5 (by omega) _ _ _ _ _ _
end Go.Proofs.YtdhmmllpioppfaaGreat.V
