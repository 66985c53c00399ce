import Derived.Test.YtojnembakhhgiaaGreatWraAll
/- sync of a file: what is open is settled. -/
namespace Go.Proofs.YtojnembakhhgiaaGreat
open Go.RowKit

theorem wcs_cons (x : Dw) (l : List Dw) : wcs (x :: l) = wc x ++ wcs l := rfl
theorem wcs_at : ∀ {l : List Dw} (_ : ∀ q ∈ l, q.pg.length = 256) (k : Nat) (hk : k < l.length) (j : Nat), j < 258 → (wcs l)[k * 258 + j]? = (wc l[k])[j]?
  | [], _, k, hk, _, _ => by simp at hk
  | p :: l, h, 0, _, j, hj => by
    rw [wcs_cons, List.getElem?_append_left (by rw [wc_len (h p (by simp))]; omega)]
    simp
  | p :: l, h, k + 1, hk, j, hj => by
    rw [wcs_cons, List.getElem?_append_right (by rw [wc_len (h p (by simp))]; omega), wc_len (h p (by simp)), show (k + 1) * 258 + j - 258 = k * 258 + j by omega, wcs_at (l := l) (fun q hq => h q (by simp [hq])) k (by simpa using hk) j hj]
    rfl
theorem write_at {w : World} {v : Value} {l : List Dw} (h : w.ownsRow 0 87 258 v l.length (wcs l)) (hl : ∀ q ∈ l, q.pg.length = 256) (k : Nat) (hk : k < l.length) : ∃ g cap, v = .slice (some ⟨g, 0, none⟩) l.length cap ∧ w.rangeAt g (k * 258) (wc l[k]) := by
  rcases h.2 with ⟨_, h2⟩ | ⟨g, cap, cur, h1, _, h3, h4, h5, h6, h7⟩
  · omega
  · refine ⟨g, cap, h1, fun j u hu => ?_⟩
    have hj : j < 258 := by
      have := (List.getElem?_eq_some_iff.1 hu).1
      rw [wc_len (hl _ (List.getElem_mem hk))] at this
      exact this
    rw [cell_of_heap h3, ← Array.getElem?_toList, ← hu, ← wcs_at hl k hk j hj, ← h7, List.getElem?_take, if_pos (by omega)]
theorem new_write (w : World) (cs : List Value) (hl : cs.length = 258) (h1 : ∀ v ∈ cs, v.oneCell' = true) : ∃ w', (storeCells ⟨w.heap.size, 0, none⟩ cs).run Tryz.prog (w.alloc (.cells Tryz.zeroCells87 87)) = .ok () w' ∧ w'.heap[w.heap.size]? = some (.cells cs.toArray 87 (0, 0)) ∧ Below w.heap.size w w' ∧ w'.heap.size = w.heap.size + 1 := by
  have hn := heap_alloc_new w (.cells Tryz.zeroCells87 87)
  have hz : 0 + cs.length ≤ Tryz.zeroCells87.size := by rw [zero81, hl]; omega
  refine ⟨_, store_cells hn hz h1, ?_, ?_, ?_⟩
  · rw [heap_cells cs _ _ 0 _ 87 hn hz]
    have : (Tryz.zeroCells87.toList.take 0 ++ cs ++ Tryz.zeroCells87.toList.drop (0 + cs.length)) = cs := by
      rw [List.take_zero, List.nil_append, List.drop_eq_nil_of_le (by rw [Array.length_toList, zero81, hl]; omega), List.append_nil]
    rw [this]
  · have hb : Below w.heap.size w (w.alloc (.cells Tryz.zeroCells87 87)) := (Below.refl _ _).alloc (Nat.le_refl _) _
    have hk := kf_cells cs (w.alloc (.cells Tryz.zeroCells87 87)) w.heap.size 0
    exact ⟨hk.os.trans hb.os, hk.tape.trans hb.tape, hk.output.trans hb.output, Nat.le_trans hb.size hk.size, fun g hg => (hk.blk g (Nat.lt_of_lt_of_le hg hb.size) (by simp; omega)).trans (hb.block g hg)⟩
  · rw [size_cells]
    simp
def y0 : Oper := { dst := some 13, op := Go.Op.move (Go.Operand.tmp 0), type := 61, pos := "file.go:53", after := #[], guard := none }
def y1 : Oper := { dst := some 14, op := Go.Op.nilCheck (Go.Operand.tmp 13), type := 0, pos := "file.go:53", after := #[{ on := 0, ground := Go.Ground.data }], guard := none }
def y2 : Oper := { dst := some 15, op := Go.Op.fieldAddr 77 (Go.Operand.tmp 14) 1, type := 0, pos := "file.go:53", after := #[{ on := 1, ground := Go.Ground.data }], guard := none }
def y3 : Oper := { dst := some 16, op := Go.Op.fieldAddr 87 (Go.Operand.tmp 3) 1, type := 0, pos := "file.go:53", after := #[], guard := none }
def y4 : Oper := { dst := some 17, op := Go.Op.load 3 (Go.Operand.tmp 16), type := 3, pos := "file.go:53", after := #[{ on := 3, ground := Go.Ground.data }], guard := none }
def y5 : Oper := { dst := some 18, op := Go.Op.fieldAddr 87 (Go.Operand.tmp 3) 2, type := 0, pos := "file.go:53", after := #[], guard := none }
def y6 : Oper := { dst := some 19, op := Go.Op.load 83 (Go.Operand.tmp 18), type := 83, pos := "file.go:53", after := #[{ on := 5, ground := Go.Ground.data }], guard := none }
def y7 : Oper := { dst := some 20, op := Go.Op.call { callee := Go.Callee.value (Go.Operand.func 71), args := #[Go.Operand.tmp 15, Go.Operand.tmp 17, Go.Operand.tmp 19], argTypes := #[74, 3, 83] }, type := 0, pos := "file.go:53", after := #[{ on := 2, ground := Go.Ground.data }, { on := 4, ground := Go.Ground.data }, { on := 6, ground := Go.Ground.data }], guard := none }
theorem take_layAll {st : List Bs} {ws : List Dw} {j : Nat} (hj : j < ws.length) : layAll st (ws.take (j + 1)) = lay (layAll st (ws.take j)) ws[j].at' ws[j].pg := by
  rw [List.take_add_one, List.getElem?_eq_getElem hj]
  exact layAll_snoc _ _ _
/-- put, for a row that is laid in as it stands -/
theorem put_pz {w wr : World} {p : Nat} {C : Array Value} {v0 v : Value} {T : List Bs} (hz : Pz w p 1 C v0 T v wr) (hC : 1 < C.size) (hT : ∀ x ∈ T, x.length = 256) (hl : T.length ≤ 100000) (at' : Nat) (hat : at' ≤ 100000) (q : Bs) (hq : q.length = 256) :
    Calls Tryz.prog 71 #[.pointer (some ⟨p, 1, none⟩), .int .i64 (at' : Int), .agg (bcs q).toArray] wr fun e w' => e = .returned (.tuple #[]) ∧ ∃ v', Pz w p 1 C v0 (lay T at' q) v' w' ∧ Kf (p :: ob v) wr w' := by
  refine (put_any wr p 1 (C.setIfInBounds 1 v) v T at' q hz.blk (by simp [hC]) hz.row (fun g hg => (hz.own g hg).1) hT hq hl hat).mono ?_
  rintro e w' ⟨rfl, v', q1, q2, q3, q4⟩
  refine ⟨rfl, v', ⟨?_, q2, hz.kf.trans q3 (fun g hg => ?_), fun g hg => ?_⟩, q3⟩
  · rw [q1, Array.setIfInBounds_setIfInBounds]
  · rcases List.mem_cons.1 hg with e | e
    · exact .inl (by simp [e])
    · rcases (hz.own g e).2 with h | h
      · exact .inl (by simp [h])
      · exact .inr h
  · rcases q4 g hg with h | h
    · exact hz.own g h
    · have := lt_of_block hz.blk
      exact ⟨by omega, .inr (Nat.le_trans hz.kf.size h)⟩
end Go.Proofs.YtojnembakhhgiaaGreat

/- sync of a file: the walk. -/
namespace Go.Proofs.YtojnembakhhgiaaGreat
open Go.RowKit

set_option maxRecDepth 100000 in
set_option maxHeartbeats 8000000 in
theorem fsync_any (w : World) (p : Nat) (pv sv ov : Value) (st : List Bs) (ws : List Dw) (hblk : w.heap[p]? = some (.cells #[pv, sv, ov] 77 (0, 0))) (hst : w.ownsRow 0 83 256 sv st.length (pcs st)) (hop : w.ownsRow 0 87 258 ov ws.length (wcs ws)) (hap : ∀ g ∈ ob sv, g ≠ p) (hao : ∀ g ∈ ob ov, g ≠ p ∧ g ∉ ob sv) (hpg : ∀ y ∈ st, y.length = 256) (hwg : ∀ x ∈ ws, x.pg.length = 256) (hl : (layAll st ws).length ≤ 100000) (hws : ws.length ≤ 1000000) :
    Calls Tryz.prog 53 #[.pointer (some ⟨p, 0, none⟩)] w fun e w' => e = .returned (.tuple #[]) ∧ ∃ sv', w'.heap[p]? = some (.cells #[pv, sv', .slice none 0 0] 77 (0, 0)) ∧ w'.ownsRow 0 83 256 sv' (layAll st ws).length (pcs (layAll st ws)) ∧ Kf (p :: ob sv) w w' ∧ ∀ g ∈ ob sv', g ≠ p ∧ (g ∈ ob sv ∨ w.heap.size ≤ g) := by
  obtain ⟨ao, cap, rfl⟩ := row_shape hop
  obtain ⟨n, hn⟩ : ∃ n, n = ws.length := ⟨_, rfl⟩
  have c2 : w.cell? ⟨p, 2, none⟩ = some (.slice ao n cap) := by rw [hn]; exact (cell_of_heap hblk 2).trans rfl
  obtain ⟨ov, hov⟩ : ∃ ov, ov = Value.slice ao ws.length cap := ⟨_, rfl⟩
  have hov2 : ov = .slice ao n cap := by rw [hov, hn]
  rw [← hov] at hblk hop hao
  have HZ : Hid (Pz w p 1 #[pv, sv, ov] sv st sv w) := hid ⟨hblk, hst, Kf.refl _ _, fun g hg => ⟨hap g hg, .inl hg⟩⟩
  have HOP := hid hop
  have HAO := hid hao
  have HPG := hid hpg
  have HWG := hid hwg
  have HL := hid hl
  have HN := hid hn
  have HOV := hid hov2
  have hnb : (n : Int) ≤ 1000000 := by omega
  have HNB : Hid (n ≤ 1000000) := hid (by omega)
  clear hblk hst hop hap hao hpg hwg hl hn hov hov2 hws
  go_enter Tryz.func53, Tryz.ntmps53
  go_wp2_with fail
  go_loopg [9] ws.length (fun gg vj wr => ∃ (j : Nat) (v : Value), gg = ws.length - j ∧ j ≤ ws.length ∧ vj = .int .i64 (j : Int) ∧ Pz w p 1 #[pv, sv, ov] sv (layAll st (ws.take j)) v wr)
  case atStart => exact ⟨0, sv, rfl, Nat.zero_le _, rfl, HZ.out⟩
  case round =>
    obtain ⟨j, v, rfl, hj, rfl, hz⟩ := hrel
    by_cases hjl : j < ws.length
    · have HJ := hid hjl
      obtain ⟨x, hx⟩ : ∃ x, x = ws[j] := ⟨_, rfl⟩
      have HX := hid hx
      have hxw : x.pg.length = 256 := by rw [hx]; exact HWG.out _ (List.getElem_mem hjl)
      have hrow : wr.ownsRow 0 87 258 ov ws.length (wcs ws) := ownsRow_same HOP.out (fun g hg => hz.kf.blk g (HOP.out.lt g hg).2 (fun hm => by
        have h1 := HAO.out g (mem_ob.2 hg)
        rcases List.mem_cons.1 hm with e | e
        · exact h1.1 e
        · exact h1.2 e))
      obtain ⟨g, cap', hg1, hra0⟩ := write_at hrow HWG.out j hjl
      obtain ⟨cs, hcs⟩ : ∃ cs, cs = wc x := ⟨_, rfl⟩
      have hra : wr.rangeAt g (j * 258) cs := by rw [hcs, hx]; exact hra0
      clear hra0
      have hao2 : ao = some ⟨g, 0, none⟩ := by
        have h1 := HOV.out
        rw [hg1] at h1
        cases h1
        rfl
      subst hao2
      have hcl : cs.length = 258 := by rw [hcs, wc_len hxw]
      have h1c : ∀ v ∈ cs, v.oneCell' = true := by rw [hcs]; exact wc_one x
      obtain ⟨w1, hstc, hw1, hbw, hzw⟩ := new_write wr cs hcl h1c
      obtain ⟨ps, hps⟩ : ∃ ps, ps = bcs x.pg := ⟨_, rfl⟩
      have hpl : ps.length = 256 := by rw [hps, bcs_len, hxw]
      have hcs2 : ∀ k u, ps[k]? = some u → cs.toArray[2 + k]? = some u := fun k u hu => by
        rw [List.getElem?_toArray, hcs, show 2 + k = k + 1 + 1 by omega, List.getElem?_cons_succ, List.getElem?_cons_succ, ← hps]
        exact hu
      have cb1 : w1.drew.cell? ⟨wr.heap.size, 1, none⟩ = some (.int .i64 (x.at' : Int)) := by
        show w1.cell? ⟨wr.heap.size, 1, none⟩ = _
        rw [cell_of_heap hw1, hcs]; rfl
      have cb2 : w1.drew.rangeAt wr.heap.size 2 ps := fun k u hu => by
        show w1.cell? ⟨wr.heap.size, 2 + k, none⟩ = _
        rw [cell_of_heap hw1]; exact hcs2 k u hu
      have hz1 : Pz w p 1 #[pv, sv, ov] sv (layAll st (ws.take j)) v w1.drew := by
        refine ⟨(hbw.block p (lt_of_block hz.blk)).trans hz.blk, ownsRow_same hz.row (fun g hg => hbw.block g (hz.row.lt g hg).2), ?_, hz.own⟩
        exact hz.kf.trans (⟨hbw.os, hbw.tape, hbw.output, hbw.size, fun g hg _ => hbw.block g hg⟩ : Kf [] wr w1.drew) (fun g hg => (by cases hg))
      have hpre : ∀ y ∈ layAll st (ws.take j), y.length = 256 := layAll_pgs _ HPG.out (fun u hu => HWG.out u (List.mem_of_mem_take hu))
      have hlj : (layAll st (ws.take j)).length ≤ 100000 := Nat.le_trans (layAll_len_sub (List.take_sublist j ws) st) HL.out
      have hatx : x.at' ≤ 100000 := by
        have := layAll_len_at ws st x (by rw [hx]; exact List.getElem_mem hjl)
        have := HL.out
        omega
      have HPUT : Hid (Calls Tryz.prog 71 #[.pointer (some ⟨p, 1, none⟩), .int .i64 (x.at' : Int), .agg ps.toArray] w1.drew fun e w' => e = .returned (.tuple #[]) ∧ ∃ v', Pz w p 1 #[pv, sv, ov] sv (lay (layAll st (ws.take j)) x.at' x.pg) v' w' ∧ w'.cell? ⟨wr.heap.size, 1, none⟩ = some (.int .i64 (x.at' : Int)) ∧ w'.rangeAt wr.heap.size 2 ps) := hid (by
        rw [hps]
        refine (put_pz hz1 (by simp) hpre hlj x.at' hatx x.pg hxw).mono ?_
        rintro e w' ⟨rfl, v', q1, q2⟩
        have hkb : w'.heap[wr.heap.size]? = some (.cells cs.toArray 87 (0, 0)) := by
          rw [q2.blk wr.heap.size (show wr.heap.size < w1.heap.size by omega) (fun hm => ?_)]
          · exact hw1
          · rcases List.mem_cons.1 hm with e | e
            · have := lt_of_block hz.blk
              omega
            · have := (hz.row.lt _ (mem_ob.1 e)).2
              omega
        exact ⟨rfl, v', q1, by rw [cell_of_heap hkb, hcs]; rfl, fun k u hu => by rw [cell_of_heap hkb]; exact hcs2 k u (by rw [hps]; exact hu)⟩)
      have hu := Tryz.underlying83
      have hi : (Tryz.prog.info? 83).map (·.size) = some ps.length := by rw [size78, hpl]
      have hu1 := Tryz.underlying87
      have hi1 : (Tryz.prog.info? 87).map (·.size) = some cs.length := by rw [size81, hcl]
      have hjw : IntKind.i64.wrap ((j : Int) + 1) = ((j + 1 : Nat) : Int) := by rw [IntKind.wrap_i64]; have := HNB.out; have := HN.out; omega
      have hj0 : (0 : Int) ≤ (j : Int) := Int.natCast_nonneg _
      have hj1 : (j : Int) < (n : Int) := by have := HN.out; omega
      clear hz hrow hg1 hcs hps hcs2 hw1 hbw hz1 hpre hlj hatx hx hxw hj hjl
      go_wp2_with fail
      refine wp_load_mid 87 (.tmp 11) rfl g (j * 258) rfl cs _ hra hu1 rfl hi1 ?_
      go_wp2_with fail
      have hs0 : (fun w' => w'.cell? ⟨wr.heap.size, 1, none⟩ = some (.int .i64 (x.at' : Int)) ∧ w'.rangeAt wr.heap.size 2 ps) w1.drew := ⟨cb1, cb2⟩
      refine wp_region_held (S := fun w' => w'.cell? ⟨wr.heap.size, 1, none⟩ = some (.int .i64 (x.at' : Int)) ∧ w'.rangeAt wr.heap.size 2 ps) (by kernel_rfl) ?_
      refine wpAnyH_take (i := 0) (oi := y0) (v := .pointer (some ⟨p, 0, none⟩)) rfl (by kernel_rfl) (by kernel_rfl) (by kernel_rfl) (fun _ _ _ h => h) (y_all rfl (fun _ => rfl)) hs0 ?_
      simp only [Act.put, y0, List.setIfInBounds_toArray, List.set_cons_zero, List.set_cons_succ]
      refine wpAnyH_take (i := 1) (oi := y1) (v := .pointer (some ⟨p, 0, none⟩)) rfl (by kernel_rfl) (by kernel_rfl) (by kernel_rfl) (fun _ _ _ h => h) (y_all rfl (fun _ => rfl)) hs0 ?_
      simp only [Act.put, y1, List.setIfInBounds_toArray, List.set_cons_zero, List.set_cons_succ]
      refine wpAnyH_take (i := 2) (oi := y2) (v := .pointer (some ⟨p, 1, none⟩)) rfl (by kernel_rfl) (by kernel_rfl) (by kernel_rfl) (fun _ _ _ h => h) (y_all rfl (fun _ => by simp only [y2]; go_simp)) hs0 ?_
      refine wpAnyH_take (i := 3) (oi := y3) (v := .pointer (some ⟨wr.heap.size, 1, none⟩)) rfl (by kernel_rfl) (by kernel_rfl) (by kernel_rfl) (fun _ _ _ h => h) (y_all rfl (fun _ => by simp only [y2, y3]; go_simp)) hs0 ?_
      simp only [Act.put, y2, y3, List.setIfInBounds_toArray, List.set_cons_zero, List.set_cons_succ]
      refine wpAnyH_take (i := 4) (oi := y4) (v := .int .i64 (x.at' : Int)) rfl (by kernel_rfl) (by kernel_rfl) (by kernel_rfl) (fun _ _ _ h => h) (y_load rfl 3 (.tmp 16) rfl wr.heap.size 1 rfl (fun w hw => load3 hw.1)) hs0 ?_
      refine wpAnyH_take (i := 5) (oi := y5) (v := .pointer (some ⟨wr.heap.size, 2, none⟩)) rfl (by kernel_rfl) (by kernel_rfl) (by kernel_rfl) (fun _ _ _ h => h) (y_all rfl (fun _ => by simp only [y4, y5]; go_simp)) hs0 ?_
      simp only [Act.put, y4, y5, List.setIfInBounds_toArray, List.set_cons_zero, List.set_cons_succ]
      refine wpAnyH_take (i := 6) (oi := y6) (v := .agg ps.toArray) rfl (by kernel_rfl) (by kernel_rfl) (by kernel_rfl) (fun _ _ _ h => h) (yieldsIf_load_mid (by rfl) 83 (.tmp 18) rfl wr.heap.size 2 rfl ps _ (fun w hw => hw.2) hu rfl hi) hs0 ?_
      simp only [Act.put, y6, List.setIfInBounds_toArray, List.set_cons_zero, List.set_cons_succ]
      refine wpAnyH_all (rs := [7]) (by kernel_rfl) (by simp) (all1 ?_)
      refine op_call (o := y7) (f := 71) (args := #[.pointer (some ⟨p, 1, none⟩), .int .i64 (x.at' : Int), .agg ps.toArray]) (R := fun v w' => v = .tuple #[] ∧ ∃ v', Pz w p 1 #[pv, sv, ov] sv (lay (layAll st (ws.take j)) x.at' x.pg) v' w' ∧ w'.cell? ⟨wr.heap.size, 1, none⟩ = some (.int .i64 (x.at' : Int)) ∧ w'.rangeAt wr.heap.size 2 ps) rfl rfl (by simp only [y7]; go_simp) (HPUT.out.mono (by rintro e w' ⟨rfl, hb⟩; exact ⟨_, rfl, rfl, hb⟩)) ?_
      rintro _ w3 ⟨rfl, v3, hz3, hc3⟩
      refine ⟨hc3, ?_⟩
      refine wpAnyH_done (by kernel_rfl) ?_ _
      simp only [Act.put, y7, List.setIfInBounds_toArray, List.set_cons_zero, List.set_cons_succ]
      have HZ3 := hid hz3
      clear hz3 hc3 hs0 cb1 cb2
      go_wp2_with fail
      go_roundg (ws.length - (j + 1))
      case measure => have := HJ.out; omega
      case rel =>
        refine ⟨j + 1, v3, rfl, by have := HJ.out; omega, rfl, ?_⟩
        have h3 := HZ3.out
        rw [HX.out] at h3
        rw [take_layAll HJ.out]
        exact h3
    · have hje : j = ws.length := by omega
      subst hje
      rw [List.take_length] at hz
      have d1 : wr.cell? ⟨p, 2, none⟩ = some ov := (cell_of_heap hz.blk 2).trans rfl
      have f1 : wr.frozen? ⟨p, 2, none⟩ = false := frozen_of_heap hz.blk 2
      have hjn : ¬ ((ws.length : Nat) : Int) < (n : Int) := by have := HN.out; omega
      have HF : Hid (∃ sv', (wr.setCell ⟨p, 2, none⟩ (.slice none 0 0)).heap[p]? = some (.cells #[pv, sv', .slice none 0 0] 77 (0, 0)) ∧ (wr.setCell ⟨p, 2, none⟩ (.slice none 0 0)).ownsRow 0 83 256 sv' (layAll st ws).length (pcs (layAll st ws)) ∧ Kf (p :: ob sv) w (wr.setCell ⟨p, 2, none⟩ (.slice none 0 0)) ∧ ∀ g ∈ ob sv', g ≠ p ∧ (g ∈ ob sv ∨ w.heap.size ≤ g)) := hid (by
        refine ⟨v, ?_, ownsRow_same hz.row (fun g hg => Below.heap_setCell _ _ _ _ (hz.own g (mem_ob.2 hg)).1), hz.kf.trans (Kf.set (F := [p]) wr (by simp) _ _) (fun g hg => .inl (by simp at hg; simp [hg])), hz.own⟩
        rw [heap_setCell_same hz.blk 2 _]
        rfl)
      have hov := HOV.out
      clear hz hj hjl
      subst hov
      go_wp2_with fail
      refine bodyPost_end (results_none rfl _ _ _) rfl ?_
      exact ⟨rfl, HF.out⟩
end Go.Proofs.YtojnembakhhgiaaGreat
