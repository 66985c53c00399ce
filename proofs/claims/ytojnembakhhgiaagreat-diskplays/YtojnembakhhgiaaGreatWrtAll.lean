import Derived.Test.YtojnembakhhgiaaGreatPutAll
import Derived.Great.BuildSlice
import Derived.Great.FillDense
/- A write more. -/
namespace Go.Proofs.YtojnembakhhgiaaGreat
open Go.RowKit

/-- a write as cells -/
abbrev wc (x : Dw) : List Value := .int .i64 (x.step : Int) :: .int .i64 (x.at' : Int) :: bcs x.pg
theorem wc_len {x : Dw} (h : x.pg.length = 256) : (wc x).length = 258 := by
  show (bcs x.pg).length + 1 + 1 = 258
  rw [bcs_len, h]
theorem wc_one (x : Dw) : ∀ v ∈ wc x, v.oneCell' = true := fun v hv => by
  rcases List.mem_cons.1 hv with rfl | hv
  · rfl
  · rcases List.mem_cons.1 hv with rfl | hv
    · rfl
    · exact bcs_one _ v hv
theorem wcs_app (a b : List Dw) : wcs (a ++ b) = wcs a ++ wcs b := by
  unfold wcs
  rw [List.map_append, List.flatten_append]
theorem wcs_one (x : Dw) : wcs [x] = wc x := by
  show wc x ++ [] = wc x
  rw [List.append_nil]
theorem zero81 : Tryz.zeroCells87.size = 258 := by kernel_rfl
theorem info81 : (Tryz.prog.info? 87).map (fun i => (i.zero, i.size, i.bytes)) = some (some (.agg Tryz.zeroCells87), 258, 272) := by kernel_rfl
/-- a write put behind a row of writes -/
theorem write_more {w : World} {v : Value} {l : List Dw} (h : w.ownsRow 0 87 258 v l.length (wcs l)) (x : Dw) (hx : x.pg.length = 256) (hs : l.length ≤ 1000000) :
    ∃ v' w', (∀ ty, (Builtin.append_ #[75, 75] ty #[v, .slice (some ⟨w.heap.size, 0, none⟩) 1 1]).run Tryz.prog (w.alloc (.cells (wc x).toArray 87)) = .ok v' w') ∧ w'.ownsRow 0 87 258 v' (l ++ [x]).length (wcs (l ++ [x])) ∧ w.grownBy w' v.ownBlock ∧ (v'.ownBlock = v.ownBlock ∨ v'.ownBlock = some (w.heap.size + 1)) := by
  obtain ⟨i0, hi, hz0, hz1, hz2⟩ := info_get info81
  have ha := h.alloc (.cells (wc x).toArray 87)
  obtain ⟨v', w', h4, h5, h6, _, h7⟩ := run_append_own_at (P := Tryz.prog) (w.alloc (.cells (wc x).toArray 87)) 0 75 75 87 i0 _ 258 272 Tryz.underlying75 hi hz0 hz1 hz2 zero81 (by decide) v l.length (wcs l) ha ⟨w.heap.size, 0, none⟩ 1 1 (wc x) (by rw [wc_len hx])
    (fun j u hj => by
      rw [Addr.add_mid, Nat.zero_add, cell_of_heap (heap_alloc_new w _), List.getElem?_toArray]
      exact hj) (wc_one x) (by simp only [maxLen]; omega) (by omega) (Nat.zero_le _)
  refine ⟨v', w', fun ty => h4, by rw [wcs_app, wcs_one, List.length_append]; exact h5, (World.grownBy_alloc w _ v.ownBlock).trans h6, ?_⟩
  rcases h7 with h7 | h7
  · exact .inl h7
  · exact .inr (by rw [h7]; simp)
end Go.Proofs.YtojnembakhhgiaaGreat

/- A row of one write is built; write: what it is handed. -/
namespace Go.Proofs.YtojnembakhhgiaaGreat
open Go.RowKit

theorem build71 (W : World) (cs : List Value) (hl : cs.length = 258) : (Instr.buildSlice 75 1 #[(0, .agg cs.toArray)]).run Tryz.prog W = .ok (.slice (some ⟨W.heap.size, 0, none⟩) 1 1) (W.alloc (.cells cs.toArray 87)) := by
  obtain ⟨i0, hi, hz0, hz1, _⟩ := info_get info81
  refine run_buildSlice W 75 87 1 _ _ i0 _ Tryz.underlying75 hi hz0 (by rw [hz1]; decide) (by rw [hz1]; decide) ?_
  rw [hz1]
  have := Go.Great.fill_whole (s := 258) (by decide) [.agg cs.toArray] ((Array.range (1 * 258)).map ((Value.agg Tryz.zeroCells87).cells[· % (Value.agg Tryz.zeroCells87).cells.size]!)) (fun v hv => by
    rw [List.mem_singleton.1 hv]
    show cs.toArray.size = 258
    rw [List.size_toArray, hl]) (by rw [Array.size_map, Array.size_range]; rfl)
  have e : ([Value.agg cs.toArray].flatMap fun v => v.cells.toList).toArray = cs.toArray := by
    show (cs.toArray.toList ++ []).toArray = cs.toArray
    rw [List.append_nil]
  rw [e] at this
  exact this
theorem wp_build71 {op : Oper} {a : Act} {w : World} {K : Act → World → Prop} {Q : Exit → Act → World → Prop} (x : Operand) (cs : List Value) (hl : cs.length = 258) (ho : op.op = .buildSlice 75 1 #[(0, x)]) (hx : a.eval x = .agg cs.toArray) (h : K (a.put op.dst (.slice (some ⟨w.heap.size, 0, none⟩) 1 1)) (w.alloc (.cells cs.toArray 87))) : op.wp Tryz.prog a w K Q := by
  have := build71 w cs hl
  unfold Oper.wp execOp
  simp only [ho, List.map_toArray, List.map_cons, List.map_nil, hx, Sem.run_bind, Sem.run_pure, this, Result.andThen_ok]
  exact h
theorem size81 : (Tryz.prog.info? 87).map (·.size) = some 258 := by kernel_rfl
end Go.Proofs.YtojnembakhhgiaaGreat

/- Steps of a region that draws: a row of one write is built; append, its run known. -/
namespace Go.Proofs.YtojnembakhhgiaaGreat
open Go.RowKit

theorem step_build71 {ops : Array Oper} {o : Oper} {a : Act} {w : World} {K : Act → World → Prop} {Q : Exit → Act → World → Prop} {E : Prop} (hg : o.guard = none) (x : Operand) (cs : List Value) (hl : cs.length = 258) (ho : o.op = .buildSlice 75 1 #[(0, x)]) (hx : a.eval x = .agg cs.toArray)
    (h : K (a.put o.dst (.slice (some ⟨w.heap.size, 0, none⟩) 1 1)) (w.alloc (.cells cs.toArray 87))) : if Region.wanted o (yielded ops a.tmps) = true then Oper.wp Tryz.prog o a w K Q else E := by
  rw [if_pos (by simp [Region.wanted, hg])]
  exact wp_build71 x cs hl ho hx h
theorem step_append_run {P : Program} {ops : Array Oper} {o : Oper} {a : Act} {w : World} {K : Act → World → Prop} {Q : Exit → Act → World → Prop} {E : Prop} (hg : o.guard = none) (s x : Operand) (t : TypeId)
    (ho : o.op = .call { callee := .builtin .append, args := #[s, x], argTypes := #[t, t] }) (v xv v' : Value) (w' : World) (hs : a.eval s = v) (hx : a.eval x = xv)
    (hrun : ∀ ty, (Builtin.append_ #[t, t] ty #[v, xv]).run P w = .ok v' w') (h : K (a.put o.dst v') w') : if Region.wanted o (yielded ops a.tmps) = true then Oper.wp P o a w K Q else E := by
  rw [if_pos (by simp [Region.wanted, hg])]
  unfold Oper.wp
  simp [execOp, ho, resolve, invoke, builtin, hs, hx, hrun, Result.andThen]
  exact h
end Go.Proofs.YtojnembakhhgiaaGreat

/- write: the walk. -/
namespace Go.Proofs.YtojnembakhhgiaaGreat
open Go.RowKit

theorem op_ok {P : Program} {ops : Array Oper} {Q : Exit → Act → World → Prop} {i : Nat} {o : Oper} {a : Act} {w w' : World} {v : Value} {K : Act → World → Prop} (ho : ops[i]? = some o) (hg : o.guard = none) (hr : (execOp a.eval o).run P w = .ok (.value v) w') (hK : K (a.put o.dst v) w') : wpOp P ops Q i K a w := by
  unfold wpOp
  simp only [ho]
  rw [if_pos (by simp [Region.wanted, hg])]
  refine .inl ?_
  unfold Oper.wp
  rw [hr]
  exact hK
def p0 : Oper := { dst := some 12, op := .move (.tmp 0), type := 61, pos := "file.go:48", after := #[], guard := none }
def p1 : Oper := { dst := some 13, op := .move (.tmp 0), type := 61, pos := "file.go:48", after := #[], guard := none }
def p2 : Oper := { dst := some 14, op := .nilCheck (.tmp 13), type := 0, pos := "file.go:48", after := #[{ on := 1, ground := .data }], guard := none }
def p3 : Oper := { dst := some 15, op := .fieldAddr 77 (.tmp 14) 2, type := 0, pos := "file.go:48", after := #[{ on := 2, ground := .data }], guard := none }
def p8 : Oper := { dst := some 20, op := .nilCheck (.tmp 12), type := 0, pos := "file.go:48", after := #[{ on := 0, ground := .data }, { on := 0, ground := .phase }, { on := 1, ground := .phase }, { on := 2, ground := .phase }, { on := 3, ground := .phase }, { on := 4, ground := .phase }, { on := 5, ground := .phase }, { on := 6, ground := .phase }, { on := 7, ground := .phase }], guard := none }
def p9 : Oper := { dst := some 21, op := .fieldAddr 77 (.tmp 20) 2, type := 0, pos := "file.go:48", after := #[{ on := 8, ground := .data }, { on := 0, ground := .phase }, { on := 1, ground := .phase }, { on := 2, ground := .phase }, { on := 3, ground := .phase }, { on := 4, ground := .phase }, { on := 5, ground := .phase }, { on := 6, ground := .phase }, { on := 7, ground := .phase }], guard := none }
def p4 : Oper := { dst := some 16, op := .load 75 (.tmp 15), type := 75, pos := "file.go:48", after := #[{ on := 3, ground := .data }], guard := none }
def p5 : Oper := { dst := some 17, op := .load 87 (.tmp 3), type := 87, pos := "file.go:48", after := #[], guard := none }
def p6 : Oper := { dst := some 18, op := .buildSlice 75 1 #[(0, .tmp 17)], type := 75, pos := "file.go:48", after := #[{ on := 5, ground := .data }], guard := none }
def p7 : Oper := { dst := some 19, op := .call { callee := .builtin .append, args := #[.tmp 16, .tmp 18], argTypes := #[75, 75] }, type := 75, pos := "file.go:48", after := #[{ on := 4, ground := .data }, { on := 6, ground := .data }], guard := none }
def p10 : Oper := { dst := none, op := .store 75 (.tmp 21) (.tmp 19), type := 0, pos := "file.go:48", after := #[{ on := 9, ground := .data }, { on := 7, ground := .data }, { on := 7, ground := .chain }, { on := 0, ground := .phase }, { on := 1, ground := .phase }, { on := 2, ground := .phase }, { on := 3, ground := .phase }, { on := 4, ground := .phase }, { on := 5, ground := .phase }, { on := 6, ground := .phase }, { on := 7, ground := .phase }], guard := none }
theorem op_skip {P : Program} {ops : Array Oper} {Q : Exit → Act → World → Prop} {i : Nat} {o : Oper} {a : Act} {w w' : World} {K : Act → World → Prop} (ho : ops[i]? = some o) (hg : o.guard = none) (hr : (execOp a.eval o).run P w = .ok .skip w') (hK : K (a.put o.dst undef) w') : wpOp P ops Q i K a w := by
  unfold wpOp
  simp only [ho]
  rw [if_pos (by simp [Region.wanted, hg])]
  refine .inl ?_
  unfold Oper.wp
  rw [hr]
  exact hK
theorem all1 {p : Nat → Prop} {a : Nat} (h : p a) : ∀ i ∈ [a], p i := fun i hi => by rw [List.mem_singleton.1 hi]; exact h
theorem all2 {p : Nat → Prop} {a b : Nat} (h : p a) (h2 : p b) : ∀ i ∈ [a, b], p i := fun i hi => by
  rcases List.mem_cons.1 hi with rfl | hi
  · exact h
  · rw [List.mem_singleton.1 hi]; exact h2
theorem run_load_cell {w : World} {b o : Nat} {v : Value} (h : w.cell? ⟨b, o, none⟩ = some v) : (Instr.loadAt 75 (.pointer (some ⟨b, o, none⟩))).run Tryz.prog w = .ok v w := by
  go_simp
set_option maxRecDepth 100000 in
set_option maxHeartbeats 4000000 in
theorem write_any (w : World) (p : Nat) (pv sv ov : Value) (l : List Bs) (ws : List Dw) (x : Dw) (hblk : w.heap[p]? = some (.cells #[pv, sv, ov] 77 (0, 0))) (hpr : w.ownsRow 0 83 256 pv l.length (pcs l)) (hor : w.ownsRow 0 87 258 ov ws.length (wcs ws)) (hap : ∀ g ∈ ob pv, g ≠ p) (hao : ∀ g ∈ ob ov, g ≠ p ∧ g ∉ ob pv) (hpg : ∀ y ∈ l, y.length = 256) (hq : x.pg.length = 256) (hl : l.length ≤ 100000) (hat : x.at' ≤ 100000) (hws : ws.length ≤ 1000000) :
    Calls Tryz.prog 51 #[.pointer (some ⟨p, 0, none⟩), .agg (wc x).toArray] w fun e w' => e = .returned (.tuple #[]) ∧ ∃ pv' ov', w'.heap[p]? = some (.cells #[pv', sv, ov'] 77 (0, 0)) ∧ w'.ownsRow 0 83 256 pv' (lay l x.at' x.pg).length (pcs (lay l x.at' x.pg)) ∧ w'.ownsRow 0 87 258 ov' (ws ++ [x]).length (wcs (ws ++ [x])) ∧ Kf (p :: (ob pv ++ ob ov)) w w' ∧ (∀ g ∈ ob pv', g ∈ ob pv ∨ w.heap.size ≤ g) ∧ (∀ g ∈ ob ov', g ∈ ob ov ∨ w.heap.size ≤ g) ∧ ∀ g ∈ ob pv', g ∉ ob ov' := by
  obtain ⟨cs, hcs⟩ : ∃ cs, cs = wc x := ⟨_, rfl⟩
  rw [← hcs]
  have hcl : cs.length = 258 := by rw [hcs, wc_len hq]
  obtain ⟨w0, hw0⟩ : ∃ w0, w0 = w.alloc (.cells cs.toArray 87) := ⟨_, rfl⟩
  have hb0 : Below w.heap.size w w0 := hw0 ▸ (Below.refl _ _).alloc (Nat.le_refl _) _
  have hs0 : w0.heap.size = w.heap.size + 1 := by rw [hw0]; simp
  have hx0 : w0.heap[w.heap.size]? = some (.cells cs.toArray 87 (0, 0)) := by rw [hw0]; exact heap_alloc_new _ _
  have hp : p < w.heap.size := lt_of_block hblk
  have hpr0 : w0.drew.ownsRow 0 83 256 pv l.length (pcs l) := ownsRow_same hpr (fun g hg => hb0.block g (hpr.lt g hg).2)
  have HPUT := hid (put_any w0.drew p 0 _ pv l x.at' x.pg ((hb0.block p hp).trans hblk) rfl hpr0 hap hpg hq hl hat)
  have cb1 : w0.cell? ⟨w.heap.size, 1, none⟩ = some (.int .i64 (x.at' : Int)) := by rw [cell_of_heap hx0, hcs]; rfl
  have hcs2 : ∀ j u, (bcs x.pg)[j]? = some u → cs.toArray[2 + j]? = some u := fun j u hu => by
    rw [List.getElem?_toArray, hcs, show 2 + j = j + 1 + 1 by omega, List.getElem?_cons_succ, List.getElem?_cons_succ]
    exact hu
  have cb2 : w0.rangeAt w.heap.size 2 (bcs x.pg) := fun j u hu => by rw [cell_of_heap hx0]; exact hcs2 j u hu
  obtain ⟨ps, hps⟩ : ∃ ps, ps = bcs x.pg := ⟨_, rfl⟩
  have hpl : ps.length = 256 := by rw [hps, bcs_len, hq]
  rw [← hps] at HPUT cb2
  have hu := Tryz.underlying83
  have hi : (Tryz.prog.info? 83).map (·.size) = some ps.length := by rw [size78, hpl]
  have h1c : ∀ v ∈ ps, v.oneCell' = true := by rw [hps]; exact bcs_one _
  have HKE : Hid (∀ w1, Kf (p :: ob pv) w0.drew w1 → w1.heap[w.heap.size]? = some (.cells cs.toArray 87 (0, 0))) := hid (fun w1 hk => by
    rw [← hx0]
    refine hk.blk w.heap.size (show w.heap.size < w0.heap.size by omega) (fun hm => ?_)
    rcases List.mem_cons.1 hm with e | e
    · omega
    · have := (hpr.lt _ (mem_ob.1 e)).2
      omega)
  have HC1 : Hid (∀ w1, Kf (p :: ob pv) w0.drew w1 → w1.cell? ⟨w.heap.size, 1, none⟩ = some (.int .i64 (x.at' : Int)) ∧ w1.rangeAt w.heap.size 2 ps) := hid (fun w1 hk => by
    have hb := HKE.out w1 hk
    exact ⟨by rw [cell_of_heap hb, hcs]; rfl, fun j u hu => by rw [cell_of_heap hb]; exact hcs2 j u (by rw [← hps]; exact hu)⟩)
  have HA := hid hao
  have HBL := hid hblk
  have HOR := hid hor
  have HX := hid hx0
  have HB0 := hid hb0
  have HCS := hid hcs
  have HQ := hid hq
  have HAP := hid hap
  have HS := hid hs0
  clear hcs2 hpr0 hpr hor hap hao hpg hblk hx0 hb0 hcs hps hq hs0
  go_enter Tryz.func51, Tryz.ntmps51
  go_wp2_with fail
  rw [← hw0]
  clear hw0
  go_wp2_with fail
  go_region_held3 (fun w' => w'.cell? ⟨w.heap.size, 1, none⟩ = some (.int .i64 (x.at' : Int)) ∧ w'.rangeAt w.heap.size 2 ps) (first | go_keep_ranges | assumption | (refine And.intro ?_ ?_ <;> first | assumption | go_keep_ranges)) (first | (go_at_call 71; refine HPUT.out.mono ?_; rintro e w1 ⟨rfl, pv', hp1, hr1, hk1, ho1⟩; obtain ⟨e1, e2⟩ := HC1.out w1 hk1; have HP1 := hid hp1; have HR1 := hid hr1; have HK1 := hid hk1; have HO1 := hid ho1; clear hp1 hr1 hk1 ho1))
  have hb := HKE.out w1 HK1.out
  have hp1 : w1.heap[p]? = some (.cells #[pv', sv, ov] 77 (0, 0)) := HP1.out
  have hor1 : w1.drew.ownsRow 0 87 258 ov ws.length (wcs ws) := ownsRow_same HOR.out (fun g hg => by
    have h1 := HA.out g (mem_ob.2 hg)
    have h2 := (HOR.out.lt g hg).2
    have h3 : w1.heap[g]? = w0.heap[g]? := HK1.out.blk g (by show g < w0.heap.size; have := HS.out; omega) (fun hm => by
      rcases List.mem_cons.1 hm with e | e
      · exact h1.1 e
      · exact h1.2 e)
    exact h3.trans (HB0.out.block g h2))
  obtain ⟨ao, cap, rfl⟩ := row_shape hor1
  obtain ⟨v2, w2, hrun, ho2, hg2, hv2⟩ := write_more hor1 x HQ.out hws
  obtain ⟨a2, k2, rfl⟩ := row_shape ho2
  rw [← HCS.out] at hrun
  have hrun : ∀ ty, (Builtin.append_ #[75, 75] ty #[.slice ao ws.length cap, .slice (some ⟨w1.heap.size, 0, none⟩) 1 1]).run Tryz.prog (w1.drew.alloc (.cells cs.toArray 87)) = .ok (.slice a2 (ws ++ [x]).length k2) w2 := hrun
  have hpo : ∀ g, some g = (Value.slice ao ws.length cap).ownBlock → g ≠ p := fun g e => (HA.out g (mem_ob.2 e.symm)).1
  have hp2 : w2.heap[p]? = some (.cells #[pv', sv, .slice ao ws.length cap] 77 (0, 0)) := (hg2.block p (lt_of_block hp1) (fun e => hpo p e rfl)).trans hp1
  have hb2 : w2.heap[w.heap.size]? = some (.cells cs.toArray 87 (0, 0)) := (hg2.block w.heap.size (lt_of_block hb) (fun e => by
    have := (HOR.out.lt w.heap.size e.symm).2
    omega)).trans hb
  have r1 : w1.rangeAt w.heap.size 0 cs := fun j u hu => by rw [cell_of_heap hb, Nat.zero_add, List.getElem?_toArray]; exact hu
  have r2 : w2.rangeAt w.heap.size 0 cs := fun j u hu => by rw [cell_of_heap hb2, Nat.zero_add, List.getElem?_toArray]; exact hu
  have r3 : ∀ v, (w2.setCell ⟨p, 2, none⟩ v).rangeAt w.heap.size 0 cs := fun v j u hu => by
    rw [cell_of_heap ((Below.heap_setCell _ _ _ _ (by omega : w.heap.size ≠ p)).trans hb2), Nat.zero_add, List.getElem?_toArray]; exact hu
  have d1 : w1.cell? ⟨p, 2, none⟩ = some (.slice ao ws.length cap) := (cell_of_heap hp1 2).trans rfl
  have d2 : w2.cell? ⟨p, 2, none⟩ = some (.slice ao ws.length cap) := (cell_of_heap hp2 2).trans rfl
  have d3 : (w1.drew.alloc (.cells cs.toArray 87)).cell? ⟨p, 2, none⟩ = some (.slice ao ws.length cap) := by
    rw [← d1]
    exact World.cell?_of_block (Below.heap_alloc _ _ _ (lt_of_block hp1))
  have d4 : w2.frozen? ⟨p, 2, none⟩ = false := frozen_of_heap hp2 2
  have hu1 := Tryz.underlying87
  have hi1 : (Tryz.prog.info? 87).map (·.size) = some cs.length := by rw [size81, hcl]
  have h1cs : ∀ v ∈ cs, v.oneCell' = true := by rw [HCS.out]; exact wc_one x
  obtain ⟨n, hn⟩ : ∃ n, n = (ws ++ [x]).length := ⟨_, rfl⟩
  have HF : Hid (∃ pw ow, (w2.setCell ⟨p, 2, none⟩ (.slice a2 n k2)).heap[p]? = some (.cells #[pw, sv, ow] 77 (0, 0)) ∧ (w2.setCell ⟨p, 2, none⟩ (.slice a2 n k2)).ownsRow 0 83 256 pw (lay l x.at' x.pg).length (pcs (lay l x.at' x.pg)) ∧ (w2.setCell ⟨p, 2, none⟩ (.slice a2 n k2)).ownsRow 0 87 258 ow (ws ++ [x]).length (wcs (ws ++ [x])) ∧ Kf (p :: (ob pv ++ ob (.slice ao ws.length cap))) w (w2.setCell ⟨p, 2, none⟩ (.slice a2 n k2)) ∧ (∀ g ∈ ob pw, g ∈ ob pv ∨ w.heap.size ≤ g) ∧ (∀ g ∈ ob ow, g ∈ ob (.slice ao ws.length cap) ∨ w.heap.size ≤ g) ∧ ∀ g ∈ ob pw, g ∉ ob ow) := hid (by
    have hs0 := HS.out
    have hz : w0.drew.heap.size = w.heap.size + 1 := hs0
    have hsz1 : w0.heap.size ≤ w1.heap.size := HK1.out.size
    have hovlt : ∀ g, g ∈ ob (Value.slice ao ws.length cap) → g < w.heap.size := fun g hg => (HOR.out.lt g (mem_ob.1 hg)).2
    have hpv : ∀ g, g ∈ ob pv' → g ≠ p ∧ g ∉ ob (Value.slice ao ws.length cap) ∧ g < w1.heap.size := fun g hg => by
      have h1 := (HR1.out.lt g (mem_ob.1 hg)).2
      rcases HO1.out g hg with h | h
      · exact ⟨HAP.out g h, fun h2 => (HA.out g h2).2 h, h1⟩
      · exact ⟨by omega, fun h2 => by have := hovlt g h2; omega, h1⟩
    have hnv : ∀ g, g ∈ ob (Value.slice a2 n k2) → g ∈ ob (Value.slice ao ws.length cap) ∨ g = w1.heap.size + 1 := fun g hg => by
      rcases hv2 with h | h
      · refine .inl (mem_ob.2 ?_)
        rw [← mem_ob.1 hg, hn, h]
      · have h3 := mem_ob.1 hg
        rw [hn, h] at h3
        cases h3
        exact .inr rfl
    refine ⟨pv', .slice a2 n k2, ?_, ?_, ?_, ?_, fun g hg => ?_, fun g hg => ?_, fun g hg hg2 => ?_⟩
    · rw [heap_setCell_same hp2 2 _]
      rfl
    · refine ownsRow_same HR1.out (fun g hg => ?_)
      have h1 := hpv g (mem_ob.2 hg)
      rw [Below.heap_setCell _ _ _ _ h1.1, hg2.block g h1.2.2 (fun e => h1.2.1 (mem_ob.2 e.symm))]
      rfl
    · rw [hn]
      refine ownsRow_same ho2 (fun g hg => Below.heap_setCell _ _ _ _ (fun e => ?_))
      rcases hnv g (by rw [hn]; exact mem_ob.2 hg) with h | h
      · exact (HA.out g h).1 e
      · have := lt_of_block hp1
        have e : g = p := e
        omega
    · have k1 : Kf (p :: (ob pv ++ ob (.slice ao ws.length cap))) w w1 := (below_kf HB0.out).trans (⟨HK1.out.os, HK1.out.tape, HK1.out.output, HK1.out.size, HK1.out.blk⟩ : Kf (p :: ob pv) w0 w1) (fun g hg => .inl (by
        rcases List.mem_cons.1 hg with e | e
        · simp [e]
        · simp [e]))
      have k2 : Kf (p :: (ob pv ++ ob (.slice ao ws.length cap))) w1 w2 := ⟨hg2.os, hg2.tape, hg2.output, hg2.size, fun g hg hF => hg2.block g hg (fun e => hF (by have := mem_ob.2 e.symm; simp [this]))⟩
      exact (k1.trans k2 (fun g hg => .inl hg)).trans (Kf.set _ (by simp) _ _) (fun g hg => .inl hg)
    · rcases HO1.out g hg with h | h
      · exact .inl h
      · exact .inr (by omega)
    · rcases hnv g hg with h | h
      · exact .inl h
      · exact .inr (by omega)
    · have h1 := hpv g hg
      rcases hnv g hg2 with h | h
      · exact h1.2.1 h
      · omega)
  rw [← hn] at hrun
  have HR2 := hid hrun
  have HH := hid (And.intro ho2 (And.intro hg2 (And.intro hv2 (And.intro hp2 hp1))))
  have r3 := r3 (.slice a2 n k2)
  have HN := hid hn
  clear hb hp1 hor1 hrun ho2 hg2 hv2 hpo hp2 hb2 e1 e2 cb1 cb2 hu hi hn h1c hpl
  generalize hm : ws.length = m at *
  have HM := hid hm
  clear hm
  go_wp2_with fail
  refine wp_region_any (by kernel_rfl) ?_
  refine wpAny_take (i := 0) (oi := p0) (v := .pointer (some ⟨p, 0, none⟩)) rfl (by kernel_rfl) (by kernel_rfl) (by kernel_rfl) (fun _ _ _ h => h) (.inl ⟨rfl, fun _ => rfl⟩) ?_
  refine wpAny_take (i := 1) (oi := p1) (v := .pointer (some ⟨p, 0, none⟩)) rfl (by kernel_rfl) (by kernel_rfl) (by kernel_rfl) (fun _ _ _ h => h) (.inl ⟨rfl, fun _ => rfl⟩) ?_
  refine wpAny_take (i := 2) (oi := p2) (v := .pointer (some ⟨p, 0, none⟩)) rfl (by kernel_rfl) (by kernel_rfl) (by kernel_rfl) (fun _ _ _ h => h) (.inl ⟨rfl, fun _ => rfl⟩) ?_
  refine wpAny_take (i := 3) (oi := p3) (v := .pointer (some ⟨p, 2, none⟩)) rfl (by kernel_rfl) (by kernel_rfl) (by kernel_rfl) (fun _ _ _ h => h) (.inl ⟨rfl, fun _ => by simp only [p0, p1, p2, p3]; go_simp⟩) ?_
  simp only [Act.put, p0, p1, p2, p3, List.setIfInBounds_toArray, List.set_cons_zero, List.set_cons_succ]
  have d1' : w1.drew.cell? ⟨p, 2, none⟩ = some (.slice ao m cap) := d1
  have r1' : w1.drew.rangeAt w.heap.size 0 cs := r1
  have hl4 : ∀ W : World, W.cell? ⟨p, 2, none⟩ = some (.slice ao m cap) → (Instr.loadAt 75 (.pointer (some ⟨p, 2, none⟩))).run Tryz.prog W = .ok (.slice ao m cap) W := fun W h => run_load_cell h
  have hl5 : (Instr.loadAt 87 (.pointer (some ⟨w.heap.size, 0, none⟩))).run Tryz.prog w1.drew = .ok (.agg cs.toArray) w1.drew := run_loadAt_mid w1.drew w.heap.size 0 87 cs _ r1' hu1 rfl hi1
  have hb6 := build71 w1.drew cs hcl
  have X4 : ∀ (a : Act) (W : World), W.cell? ⟨p, 2, none⟩ = some (.slice ao m cap) → a.eval (.tmp 15) = .pointer (some ⟨p, 2, none⟩) → (execOp a.eval p4).run Tryz.prog W = .ok (.value (.slice ao m cap)) W := fun a W h e => by
    unfold execOp p4
    simp only [e, Sem.run_bind, Sem.run_pure, hl4 W h, Result.andThen_ok]
  have X5 : ∀ (a : Act), a.eval (.tmp 3) = .pointer (some ⟨w.heap.size, 0, none⟩) → (execOp a.eval p5).run Tryz.prog w1.drew = .ok (.value (.agg cs.toArray)) w1.drew := fun a e => by
    unfold execOp p5
    simp only [e, Sem.run_bind, Sem.run_pure, hl5, Result.andThen_ok]
  have X6 : ∀ (a : Act), a.eval (.tmp 17) = .agg cs.toArray → (execOp a.eval p6).run Tryz.prog w1.drew = .ok (.value (.slice (some ⟨w1.heap.size, 0, none⟩) 1 1)) (w1.drew.alloc (.cells cs.toArray 87)) := fun a e => by
    unfold execOp p6
    simp only [List.map_toArray, List.map_cons, List.map_nil, e, Sem.run_bind, Sem.run_pure, hb6, Result.andThen_ok]
    rfl
  have X7 : ∀ (a : Act), a.eval (.tmp 16) = .slice ao m cap → a.eval (.tmp 18) = .slice (some ⟨w1.heap.size, 0, none⟩) 1 1 → (execOp a.eval p7).run Tryz.prog (w1.drew.alloc (.cells cs.toArray 87)) = .ok (.value (.slice a2 n k2)) w2 := fun a e1 e2 => by
    unfold execOp p7
    simp [resolve, invoke, builtin, e1, e2, HR2.out, Result.andThen]
  have X10 : ∀ (a : Act), a.eval (.tmp 21) = .pointer (some ⟨p, 2, none⟩) → a.eval (.tmp 19) = .slice a2 n k2 → (execOp a.eval p10).run Tryz.prog w2 = .ok .skip (w2.setCell ⟨p, 2, none⟩ (.slice a2 n k2)) := fun a e1 e2 => by
    unfold execOp p10
    simp only [e1, e2]
    go_simp
  refine wpAny_all (rs := [4, 5]) (by kernel_rfl) (by simp) (all2 ?ga ?gb)
  case' ga =>
    refine op_ok (o := p4) rfl rfl (X4 _ _ d1' (by rfl)) ?_
    refine wpAny_all (rs := [5]) (by kernel_rfl) (by simp) (all1 ?_)
    refine op_ok (o := p5) rfl rfl (X5 _ (by rfl)) ?_
    refine wpAny_all (rs := [6]) (by kernel_rfl) (by simp) (all1 ?_)
    refine op_ok (o := p6) rfl rfl (X6 _ (by rfl)) ?_
  case' gb =>
    refine op_ok (o := p5) rfl rfl (X5 _ (by rfl)) ?_
    refine wpAny_all (rs := [4, 6]) (by kernel_rfl) (by simp) (all2 ?gc ?gd)
    case' gc =>
      refine op_ok (o := p4) rfl rfl (X4 _ _ d1' (by rfl)) ?_
      refine wpAny_all (rs := [6]) (by kernel_rfl) (by simp) (all1 ?_)
      refine op_ok (o := p6) rfl rfl (X6 _ (by rfl)) ?_
    case' gd =>
      refine op_ok (o := p6) rfl rfl (X6 _ (by rfl)) ?_
      refine wpAny_all (rs := [4]) (by kernel_rfl) (by simp) (all1 ?_)
      refine op_ok (o := p4) rfl rfl (X4 _ _ d3 (by rfl)) ?_
  all_goals
    simp only [Act.put, p4, p5, p6, List.setIfInBounds_toArray, List.set_cons_zero, List.set_cons_succ]
    refine wpAny_all (rs := [7]) (by kernel_rfl) (by simp) (all1 ?_)
    refine op_ok (o := p7) rfl rfl (X7 _ (by rfl) (by rfl)) ?_
    simp only [Act.put, p7, List.setIfInBounds_toArray, List.set_cons_zero, List.set_cons_succ]
    refine wpAny_take (i := 8) (oi := p8) (v := .pointer (some ⟨p, 0, none⟩)) rfl (by kernel_rfl) (by kernel_rfl) (by kernel_rfl) (fun _ _ _ h => h) (.inl ⟨rfl, fun _ => rfl⟩) ?_
    refine wpAny_take (i := 9) (oi := p9) (v := .pointer (some ⟨p, 2, none⟩)) rfl (by kernel_rfl) (by kernel_rfl) (by kernel_rfl) (fun _ _ _ h => h) (.inl ⟨rfl, fun _ => by simp only [p8, p9]; go_simp⟩) ?_
    simp only [Act.put, p8, p9, List.setIfInBounds_toArray, List.set_cons_zero, List.set_cons_succ]
    refine wpAny_all (rs := [10]) (by kernel_rfl) (by simp) (all1 ?_)
    refine op_skip (o := p10) rfl rfl (X10 _ (by rfl) (by rfl)) ?_
    refine wpAny_done (by kernel_rfl) ?_ _
    simp only [Act.put, p10]
    refine bodyPost_end (results_none rfl _ _ _) rfl ?_
    exact ⟨rfl, by rw [HM.out]; exact HF.out⟩
end Go.Proofs.YtojnembakhhgiaaGreat
