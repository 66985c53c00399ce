/- Decode. -/
import Derived.Test.YtdhmmllpioppfaaGreatWEach
namespace Go.Proofs.YtdhmmllpioppfaaGreat.V
open Go.RowKit

/-- a message in memory of one's own -/
structure Mo (B : Nat) (w : World) (nv tv mv : Value) (m : Msg) : Prop where
  ns : w.ownsRow B 2 1 nv m.ns.length (i64s m.ns)
  ts : w.ownsRow B 46 1 tv m.ts.length (m.ts.map St)
  mo : Ro B w mv m.mo
theorem own_get {w : World} {B : Nat} {e : TypeId} {v : Value} {n : Nat} {xs : List Value} (h : w.ownsRow B e 1 v n xs) (hn : 0 < n) : ∃ g cap, v = .slice (some ⟨g, 0, none⟩) n cap ∧ g < w.heap.size ∧ ∀ i, i < n → w.cell? ⟨g, i, none⟩ = xs[i]? := by
  rcases h.2 with ⟨_, h2⟩ | ⟨g, cap, cur, hv, hb, hg, hc1, hc2, hc3, hc4⟩
  · omega
  · refine ⟨g, cap, hv, lt_of_block hg, fun i hi => ?_⟩
    rw [cell_of_heap hg, ← hc4, Nat.mul_one, List.getElem?_take_of_lt hi, Array.getElem?_toList]
theorem own_slice {w : World} {B : Nat} {e : TypeId} {sz : Nat} {v : Value} {n : Nat} {xs : List Value} (h : w.ownsRow B e sz v n xs) : ∃ ao cap, v = .slice ao n cap := by
  rcases h.2 with ⟨h1, h2⟩ | ⟨g, cap, _, h1, _⟩
  · rw [h2]; exact ⟨_, _, h1⟩
  · exact ⟨_, _, h1⟩
theorem Mo.ms {B : Nat} {w : World} {nv tv mv : Value} {m : Msg} (h : Mo B w nv tv mv m) : Ms w nv tv mv m := by
  refine ⟨?_, ?_, h.mo.rcs⟩
  · obtain ⟨ao, cap, e⟩ := own_slice h.ns
    refine ⟨ao, cap, e, fun hne => ?_⟩
    obtain ⟨g, c2, e2, hg, hc⟩ := own_get h.ns (List.length_pos_iff.2 hne)
    rw [e] at e2
    cases e2
    exact ⟨g, 0, rfl, hg, fun i hi => by rw [Nat.zero_add, hc i hi]; simp [hi]⟩
  · obtain ⟨ao, cap, e⟩ := own_slice h.ts
    refine ⟨ao, cap, e, fun hne => ?_⟩
    obtain ⟨g, c2, e2, hg, hc⟩ := own_get h.ts (List.length_pos_iff.2 hne)
    rw [e] at e2
    cases e2
    exact ⟨g, 0, rfl, hg, fun i hi => by rw [Nat.zero_add, hc i hi]; simp [hi]⟩
theorem Mo.below {B : Nat} {w w' : World} {nv tv mv : Value} {m : Msg} (h : Mo B w nv tv mv m) (hb : Below w.heap.size w w') : Mo B w' nv tv mv m :=
  ⟨ownsRow_same h.ns (fun g e => hb.block g (h.ns.lt g e).2), ownsRow_same h.ts (fun g e => hb.block g (h.ts.lt g e).2), h.mo.below hb⟩
theorem Mo.none (B : Nat) (w : World) : Mo B w (.slice none 0 0) (.slice none 0 0) (.slice none 0 0) noM := ⟨World.ownsRow_nil _ _ _ _, World.ownsRow_nil _ _ _ _, Ro.nil _ _⟩
/-- what was read can stand in memory -/
theorem read_len {b : Bs} {m : Msg} (h : readM b = some m) (hb : b.length ≤ 40000) : MLen m := by
  obtain ⟨e, hf, h1, h2⟩ := msg_read h
  have hl : (msgB m).length ≤ 40000 := by rw [e]; exact hb
  unfold msgB headB txt at hl
  simp only [List.length_append] at hl
  refine ⟨hf.k, by omega, by omega, by omega, by omega, by
    have : m.mo.length ≤ 140737488355328 := by
      have h3 : ∀ L : List Rec, L.length ≤ (streamB L).length := by
        intro L
        induction L with
        | nil => simp
        | cons a L ih =>
          have h4 : 1 ≤ (putB a.1).length := by rw [put_len]; exact sizeN_pos _
          unfold streamB at ih ⊢
          simp only [List.map_cons, List.flatten_cons, List.length_append, List.length_cons, recB]
          omega
      have := h3 m.mo
      omega
    exact this, fun i hi => ⟨(hf.mo _ (List.getElem_mem hi)).1, ?_⟩⟩
  have := body_le (List.getElem_mem hi)
  omega
theorem Tryz.size27 : (Tryz.prog.info? 27).map (·.size) = some 6 := by kernel_rfl
theorem load_msg {w : World} {p : Nat} {c0 c1 c2 c3 c4 c5 : Value} (h : w.heap[p]? = some (.cells #[c0, c1, c2, c3, c4, c5] 27 (0, 0))) : (loadVar 27 ⟨p, 0, none⟩).run Tryz.prog w = .ok (.agg #[c0, c1, c2, c3, c4, c5]) w :=
  run_loadVar_row w p 27 27 #[c0, c1, c2, c3, c4, c5] (0, 0) _ h Tryz.underlying27 rfl Tryz.size27
/-- two results, the first of them a variable -/
theorem results_c2 {P : Program} {fn : Func} {tmps : Array Value} {k i : Nat} {t : TypeId} {a : Addr} {v : Value} {w : World} (hr : fn.results = #[.cell k t, .tmp i]) (hk : tmps.getD k undef = .pointer (some a)) (hl : (loadVar t a).run P w = .ok v w) :
    (results fn tmps).run P w = .ok (.tuple #[v, tmps.getD i undef]) w := by
  have hk' : tmps[k]?.getD undef = .pointer (some a) := by simpa using hk
  unfold results
  rw [hr]
  simp [hk', asAddr, hl]
/-- a whole message is stored -/
abbrev set6 (w : World) (x : Nat) (v0 v1 v2 v3 v4 v5 : Value) : World := (((((w.setCell ⟨x, 0, none⟩ v0).setCell ⟨x, 1, none⟩ v1).setCell ⟨x, 2, none⟩ v2).setCell ⟨x, 3, none⟩ v3).setCell ⟨x, 4, none⟩ v4).setCell ⟨x, 5, none⟩ v5
theorem set6_at {w : World} {x : Nat} {a0 a1 a2 a3 a4 a5 : Value} (h : w.heap[x]? = some (.cells #[a0, a1, a2, a3, a4, a5] 27 (0, 0))) (v0 v1 v2 v3 v4 v5 : Value) : (set6 w x v0 v1 v2 v3 v4 v5).heap[x]? = some (.cells #[v0, v1, v2, v3, v4, v5] 27 (0, 0)) :=
  (heap_setCell_same (heap_setCell_same (heap_setCell_same (heap_setCell_same (heap_setCell_same (heap_setCell_same h 0 v0) 1 v1) 2 v2) 3 v3) 4 v4) 5 v5).trans rfl
theorem set6_ne (w : World) (x : Nat) (v0 v1 v2 v3 v4 v5 : Value) (k : Nat) (hk : k ≠ x) : (set6 w x v0 v1 v2 v3 v4 v5).heap[k]? = w.heap[k]? := by
  unfold set6
  rw [Below.heap_setCell _ _ _ _ hk, Below.heap_setCell _ _ _ _ hk, Below.heap_setCell _ _ _ _ hk, Below.heap_setCell _ _ _ _ hk, Below.heap_setCell _ _ _ _ hk, Below.heap_setCell _ _ _ _ hk]
theorem set6_size (w : World) (x : Nat) (v0 v1 v2 v3 v4 v5 : Value) : (set6 w x v0 v1 v2 v3 v4 v5).heap.size = w.heap.size := by simp [World.setCell]
theorem set1_below {B : Nat} {w0 w : World} {x : Nat} (h : Below B w0 w) (hx : B ≤ x) (o : Nat) (v : Value) : Below B w0 (w.setCell ⟨x, o, none⟩ v) :=
  ⟨h.os, h.tape, h.output, by simpa [World.setCell] using h.size, fun k hk => by rw [Below.heap_setCell _ _ _ _ (by show k ≠ x; omega)]; exact h.block k hk⟩
theorem set6_below {B : Nat} {w0 w : World} {x : Nat} (h : Below B w0 w) (hx : B ≤ x) (v0 v1 v2 v3 v4 v5 : Value) : Below B w0 (set6 w x v0 v1 v2 v3 v4 v5) :=
  set1_below (set1_below (set1_below (set1_below (set1_below (set1_below h hx 0 v0) hx 1 v1) hx 2 v2) hx 3 v3) hx 4 v4) hx 5 v5
theorem Mo.set6 {B : Nat} {w : World} {nv tv mv : Value} {m : Msg} (h : Mo B w nv tv mv m) {x : Nat} (hx : x < B) (v0 v1 v2 v3 v4 v5 : Value) : Mo B (set6 w x v0 v1 v2 v3 v4 v5) nv tv mv m := by
  have ne : ∀ {e : TypeId} {sz : Nat} {v : Value} {n : Nat} {xs : List Value}, w.ownsRow B e sz v n xs → (V.set6 w x v0 v1 v2 v3 v4 v5).ownsRow B e sz v n xs := fun ho => ownsRow_same ho (fun g e => set6_ne w x _ _ _ _ _ _ g (by have := (ho.lt g e).1; omega))
  obtain ⟨bs, h1, h2, h3⟩ := h.mo.row
  exact ⟨ne h.ns, ne h.ts, ⟨bs, h1, ne h2, fun i hi hi' => ne (h3 i hi hi')⟩⟩
theorem Mo.lower {B C : Nat} {w : World} {nv tv mv : Value} {m : Msg} (h : Mo B w nv tv mv m) (hb : C ≤ B) : Mo C w nv tv mv m := ⟨own_lower h.ns hb, own_lower h.ts hb, h.mo.lower hb⟩
/-- what Decode answers -/
abbrev decoded (nv tv mv : Value) (d : Msg × Nat) : Ending := .returned (.tuple #[Mv d.1.k d.1.ch nv tv d.1.tx mv, .int .i64 (d.2 : Int)])
set_option maxRecDepth 100000 in
set_option maxHeartbeats 8000000 in
theorem dec_any (w : World) (v : Value) (b : Bs) (hs : Sl w v b) (hm : b.length ≤ 140737488355328) :
    Calls Tryz.prog 13 #[v] w fun e w' => ∃ nv tv mv, e = decoded nv tv mv (decR b) ∧ Mo w.heap.size w' nv tv mv (decR b).1 ∧ Below w.heap.size w w' := by
  obtain ⟨ao, cap, rfl⟩ := hs.shape
  by_cases hq : 32768 < b.length
  · have hd : decR b = (noM, 3) := by unfold decR; rw [if_pos hq]
    rw [hd]
    have hq1 : (32768 : Int) < (b.length : Int) := by omega
    clear hd hs hq
    generalize b.length = q at *
    go_enter Tryz.func13, Tryz.ntmps13
    go_wp2_with fail
    exact bodyPost_ret (results_c2 rfl rfl (load_msg (heap_alloc_new w _))) rfl ⟨_, _, _, rfl, Mo.none _ _, (Below.refl _ _).alloc (Nat.le_refl _) _⟩
  · have hq1 : ¬ (32768 : Int) < (b.length : Int) := by omega
    have hbl : b.length ≤ 40000 := by omega
    have HD : Hid (decR b = match readM b with
      | some m => if mayB m = true then (m, 0) else (noM, 80)
      | none => (noM, 80)) := hid (by unfold decR; rw [if_neg hq]; cases readM b <;> rfl)
    obtain ⟨w0, hw0⟩ : ∃ w0, w0 = w.alloc (.cells #[.int .u16 0, St [], .slice none 0 0, .slice none 0 0, St [], .slice none 0 0] 27) := ⟨_, rfl⟩
    have hb0 : Below w.heap.size w w0 := by rw [hw0]; exact (Below.refl _ _).alloc (Nat.le_refl _) _
    have hx0 : w0.heap[w.heap.size]? = some (.cells #[.int .u16 0, St [], .slice none 0 0, .slice none 0 0, St [], .slice none 0 0] 27 (0, 0)) := by rw [hw0]; exact heap_alloc_new w _
    have hz0 : w0.heap.size = w.heap.size + 1 := by rw [hw0]; simp
    have hs0 := hs.below hb0
    have HMS : Hid (∀ W, W = w0.alloc (.cells #[.slice ao b.length cap, .int .u16 0, St [], .slice none 0 0, .slice none 0 0, St [], .slice none 0 0] 69) → Calls Tryz.prog 26 #[.pointer (some ⟨w0.heap.size, 0, none⟩)] W fun e w' => (∃ m, readM b = some m ∧ e = .returned (.bool true) ∧ Wf w0 w0.heap.size m w') ∨ (readM b = none ∧ e = .returned (.bool false) ∧ Below w0.heap.size w0 w')) := hid (fun W hW => by
      refine message_any w0 W w0.heap.size b ⟨Nat.le_refl _, ⟨_, _, _, by rw [hW]; exact heap_alloc_new w0 _, hs0, World.ownsRow_nil _ _ _ _, World.ownsRow_nil _ _ _ _⟩, by rw [hW]; exact (Below.refl _ _).alloc (Nat.le_refl _) _, fun _ _ h => h⟩ hbl)
    have HX0 := hid hx0
    have HB0 := hid hb0
    have HRL : Hid (∀ m, readM b = some m → MLen m) := hid (fun m h => read_len h hbl)
    rw [hz0] at HMS
    have HZ0 := hid hz0
    have HW0 := hid hw0
    clear hs hq hs0 hx0 hb0 hz0 hbl
    generalize b.length = q at *
    go_enter Tryz.func13, Tryz.ntmps13
    go_wp2_with fail
    rw [← HW0.out]
    clear hw0
    refine (HMS.out _ rfl).mono ?_
    rintro e w1 (⟨m, hr, rfl, hwf⟩ | ⟨hr, rfl, hb1⟩)
    · have hmo : ∃ lv nv tv mv, w1.heap[w.heap.size + 1]? = some (.cells #[lv, .int .u16 (m.k : Int), St m.ch, nv, tv, St m.tx, mv] 69 (0, 0)) ∧ Mo (w.heap.size + 1) w1 nv tv mv m := by
        obtain ⟨lv, nv, tv, mv, h1, h2, h3, h4⟩ := hwf.blk
        rw [HZ0.out] at h2 h3 h4
        exact ⟨lv, nv, tv, mv, h1, h2, h3, h4⟩
      obtain ⟨lv, nv, tv, mv, hbk, hmo⟩ := hmo
      have hb1 := hwf.bel
      rw [HZ0.out] at hb1
      have hx1 := (hb1.block w.heap.size (by omega)).trans HX0.out
      have hml := HRL.out m hr
      have HMY := hid (may_any w1 nv tv mv m hmo.ms hml)
      have HR := hid hr
      have HX1 := hid hx1
      have HB1 := hid hb1
      have HMO := hid hmo
      have HBK := hid hbk
      obtain ⟨an, cn, rfl⟩ := own_slice hmo.ns
      obtain ⟨at', ct, rfl⟩ := own_slice hmo.ts
      obtain ⟨am, cm, rfl⟩ := hmo.mo.shape
      clear hmo hml hb1 hx1 hwf hr HMS HRL
      have d0 : w1.cell? ⟨w.heap.size + 1, 1, none⟩ = some (.int .u16 (m.k : Int)) := by rw [cell_of_heap hbk]; rfl
      have d1 : w1.cell? ⟨w.heap.size + 1, 2, none⟩ = some (St m.ch) := by rw [cell_of_heap hbk]; rfl
      have d2 : w1.cell? ⟨w.heap.size + 1, 3, none⟩ = some (.slice an m.ns.length cn) := by rw [cell_of_heap hbk]; rfl
      have d3 : w1.cell? ⟨w.heap.size + 1, 4, none⟩ = some (.slice at' m.ts.length ct) := by rw [cell_of_heap hbk]; rfl
      have d4 : w1.cell? ⟨w.heap.size + 1, 5, none⟩ = some (St m.tx) := by rw [cell_of_heap hbk]; rfl
      have d5 : w1.cell? ⟨w.heap.size + 1, 6, none⟩ = some (.slice am m.mo.length cm) := by rw [cell_of_heap hbk]; rfl
      clear hbk
      go_wp2_with fail
      refine HMY.out.mono ?_
      rintro e w2 ⟨rfl, hb2⟩
      have hx1 := (hb2.block _ (lt_of_block HX1.out)).trans HX1.out
      have hbk := (hb2.block _ (lt_of_block HBK.out)).trans HBK.out
      have HX2 := hid hx1
      have HM2 := hid (HMO.out.below hb2)
      have HB2 : Hid (Below w.heap.size w w2) := hid (HB0.out.trans ((HB1.out.mono (by omega)).trans (hb2.mono (by have := HB1.out.size; have := HZ0.out; omega))))
      clear d0 d1 d2 d3 d4 d5
      have c0 : w2.cell? ⟨w.heap.size, 0, none⟩ = some (.int .u16 0) := by rw [cell_of_heap hx1]; rfl
      have c1 : w2.cell? ⟨w.heap.size, 1, none⟩ = some (St []) := by rw [cell_of_heap hx1]; rfl
      have c2 : w2.cell? ⟨w.heap.size, 2, none⟩ = some (.slice none 0 0) := by rw [cell_of_heap hx1]; rfl
      have c3 : w2.cell? ⟨w.heap.size, 3, none⟩ = some (.slice none 0 0) := by rw [cell_of_heap hx1]; rfl
      have c4 : w2.cell? ⟨w.heap.size, 4, none⟩ = some (St []) := by rw [cell_of_heap hx1]; rfl
      have c5 : w2.cell? ⟨w.heap.size, 5, none⟩ = some (.slice none 0 0) := by rw [cell_of_heap hx1]; rfl
      have hf : ∀ o, w2.frozen? ⟨w.heap.size, o, none⟩ = false := fun o => frozen_of_heap hx1 o
      have f0 := hf 0
      have f1 := hf 1
      have f2 := hf 2
      have f3 := hf 3
      have f4 := hf 4
      have f5 := hf 5
      cases hmb : mayB m with
      | false =>
        have HDD : Hid (decR b = (noM, 80)) := hid (by rw [HD.out, HR.out]; simp [hmb])
        clear hx1 hbk hf hb2 HMY hmb
        go_wp2_with fail
        refine bodyPost_ret (results_c2 rfl rfl (load_msg (set6_at HX2.out (.int .u16 0) (St []) (.slice none 0 0) (.slice none 0 0) (St []) (.slice none 0 0)))) rfl ⟨_, _, _, by rw [HDD.out]; rfl, by rw [HDD.out]; exact Mo.none _ _, ?_⟩
        exact set6_below HB2.out (Nat.le_refl _) _ _ _ _ _ _
      | true =>
        have HDD : Hid (decR b = (m, 0)) := hid (by rw [HD.out, HR.out]; simp [hmb])
        have d0 : w2.cell? ⟨w.heap.size + 1, 1, none⟩ = some (.int .u16 (m.k : Int)) := by rw [cell_of_heap hbk]; rfl
        have d1 : w2.cell? ⟨w.heap.size + 1, 2, none⟩ = some (St m.ch) := by rw [cell_of_heap hbk]; rfl
        have d2 : w2.cell? ⟨w.heap.size + 1, 3, none⟩ = some (.slice an m.ns.length cn) := by rw [cell_of_heap hbk]; rfl
        have d3 : w2.cell? ⟨w.heap.size + 1, 4, none⟩ = some (.slice at' m.ts.length ct) := by rw [cell_of_heap hbk]; rfl
        have d4 : w2.cell? ⟨w.heap.size + 1, 5, none⟩ = some (St m.tx) := by rw [cell_of_heap hbk]; rfl
        have d5 : w2.cell? ⟨w.heap.size + 1, 6, none⟩ = some (.slice am m.mo.length cm) := by rw [cell_of_heap hbk]; rfl
        clear hx1 hbk hf hb2 HMY hmb
        go_wp2_with fail
        refine bodyPost_ret (results_c2 rfl rfl (load_msg (set6_at HX2.out (.int .u16 (m.k : Int)) (St m.ch) (.slice an m.ns.length cn) (.slice at' m.ts.length ct) (St m.tx) (.slice am m.mo.length cm)))) rfl ⟨.slice an m.ns.length cn, .slice at' m.ts.length ct, .slice am m.mo.length cm, by rw [HDD.out]; rfl, ?_, ?_⟩
        · rw [HDD.out]
          exact (HM2.out.set6 (by omega) _ _ _ _ _ _).lower (by omega)
        · exact set6_below HB2.out (Nat.le_refl _) _ _ _ _ _ _
    · have hd : decR b = (noM, 80) := by rw [HD.out, hr]
      have hx1 := (hb1.block w.heap.size (by omega)).trans HX0.out
      have c0 : w1.cell? ⟨w.heap.size, 0, none⟩ = some (.int .u16 0) := by rw [cell_of_heap hx1]; rfl
      have c1 : w1.cell? ⟨w.heap.size, 1, none⟩ = some (St []) := by rw [cell_of_heap hx1]; rfl
      have c2 : w1.cell? ⟨w.heap.size, 2, none⟩ = some (.slice none 0 0) := by rw [cell_of_heap hx1]; rfl
      have c3 : w1.cell? ⟨w.heap.size, 3, none⟩ = some (.slice none 0 0) := by rw [cell_of_heap hx1]; rfl
      have c4 : w1.cell? ⟨w.heap.size, 4, none⟩ = some (St []) := by rw [cell_of_heap hx1]; rfl
      have c5 : w1.cell? ⟨w.heap.size, 5, none⟩ = some (.slice none 0 0) := by rw [cell_of_heap hx1]; rfl
      have hf : ∀ o, w1.frozen? ⟨w.heap.size, o, none⟩ = false := fun o => frozen_of_heap hx1 o
      have f0 := hf 0
      have f1 := hf 1
      have f2 := hf 2
      have f3 := hf 3
      have f4 := hf 4
      have f5 := hf 5
      have HX1 := hid hx1
      have HB1 := hid hb1
      have HDD := hid hd
      clear hr hd hb1 hx1 hf HMS
      go_wp2_with fail
      refine bodyPost_ret (results_c2 rfl rfl (load_msg (set6_at HX1.out (.int .u16 0) (St []) (.slice none 0 0) (.slice none 0 0) (St []) (.slice none 0 0)))) rfl ⟨_, _, _, by rw [HDD.out]; rfl, by rw [HDD.out]; exact Mo.none _ _, ?_⟩
      exact set6_below (HB0.out.trans (HB1.out.mono (by have := HB0.out.size; omega))) (Nat.le_refl _) _ _ _ _ _ _
end Go.Proofs.YtdhmmllpioppfaaGreat.V
