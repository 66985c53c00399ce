import Derived.Test.YtojnembakhhgiaaGreatOndAll
import Derived.Test.YtojnembakhhgiaaGreatOnF
/- Pages copied. -/
namespace Go.Proofs.YtojnembakhhgiaaGreat
open Go.RowKit

theorem pcs_one (l : List Bs) : ∀ v ∈ pcs l, v.oneCell' = true := fun v hv => by
  unfold pcs at hv
  obtain ⟨c, hc, hv⟩ := List.mem_flatten.1 hv
  obtain ⟨b, _, rfl⟩ := List.mem_map.1 hc
  exact bcs_one b v hv
theorem clone_run {w : World} {g cap : Nat} {l : List Bs} (h : w.ownsRow 0 83 256 (.slice (some ⟨g, 0, none⟩) l.length cap) l.length (pcs l)) (hl : l.length ≤ 100000) :
    ∃ v' w', (∀ ty, (Builtin.append_ #[72, 72] ty #[.slice (some ⟨w.heap.size, 0, none⟩) 0 0, .slice (some ⟨g, 0, none⟩) l.length cap]).run Tryz.prog (w.alloc (.cells #[] 83)) = .ok v' w') ∧ w'.ownsRow 0 83 256 v' l.length (pcs l) ∧ Below w.heap.size w w' ∧ ∀ k ∈ ob v', w.heap.size ≤ k := by
  obtain ⟨i0, hi, hz0, hz1, hz2⟩ := info_get info78
  have hn : (w.alloc (.cells #[] 83)).ownsRow 0 83 256 (.slice (some ⟨w.heap.size, 0, none⟩) 0 0) 0 [] := ⟨rfl, .inr ⟨w.heap.size, 0, #[], rfl, Nat.zero_le _, heap_alloc_new w _, Nat.le_refl _, Nat.zero_le _, rfl, rfl⟩⟩
  have hsrc : ∀ j u, (pcs l)[j]? = some u → (w.alloc (.cells #[] 83)).cell? ((⟨g, 0, none⟩ : Addr).add j) = some u := fun j u hu => by
    rw [Addr.add_mid, Nat.zero_add]
    rcases h.2 with ⟨h1, _⟩ | ⟨g', cap', cur, h1, h2, h3, h4, h5, h6, h7⟩
    · cases h1
    · cases h1
      have hj : j < (pcs l).length := (List.getElem?_eq_some_iff.1 hu).1
      rw [h.1] at hj
      rw [cell_of_heap ((Below.heap_alloc w _ _ (lt_of_block h3)).trans h3), ← Array.getElem?_toList, ← hu, ← h7, List.getElem?_take, if_pos hj]
  obtain ⟨v', w', h4, h5, h6, _, h7⟩ := run_append_own_at (P := Tryz.prog) (w.alloc (.cells #[] 83)) 0 72 72 83 i0 _ 256 256 Tryz.underlying72 hi hz0 hz1 hz2 zero78 (by decide) _ 0 [] hn ⟨g, 0, none⟩ l.length cap (pcs l) h.1 hsrc (pcs_one l) (by simp only [maxLen]; omega) (by omega) (Nat.zero_le _)
  refine ⟨v', w', fun ty => h4, by simpa using h5, ?_, fun k hk => ?_⟩
  · have hb : Below w.heap.size w (w.alloc (.cells #[] 83)) := (Below.refl _ _).alloc (Nat.le_refl _) _
    exact ⟨h6.os.trans hb.os, h6.tape.trans hb.tape, h6.output.trans hb.output, Nat.le_trans hb.size h6.size, fun k hk => (h6.block k (Nat.lt_of_lt_of_le hk hb.size) (fun e => by cases e; exact absurd hk (Nat.lt_irrefl _))).trans (hb.block k hk)⟩
  · rcases h7 with h7 | h7
    · have := mem_ob.1 hk
      rw [h7] at this
      cases this
      exact Nat.le_refl _
    · have := mem_ob.1 hk
      rw [h7] at this
      cases this
      simp
theorem build68e (W : World) : (Instr.buildSlice 72 0 #[]).run Tryz.prog W = .ok (.slice (some ⟨W.heap.size, 0, none⟩) 0 0) (W.alloc (.cells #[] 83)) := by kernel_rfl
set_option maxRecDepth 100000 in
set_option maxHeartbeats 4000000 in
theorem clonep_any (w : World) (v : Value) (l : List Bs) (h : w.ownsRow 0 83 256 v l.length (pcs l)) (hl : l.length ≤ 100000) :
    Calls Tryz.prog 72 #[v] w fun e w' => ∃ v', e = .returned v' ∧ w'.ownsRow 0 83 256 v' l.length (pcs l) ∧ Below w.heap.size w w' ∧ ∀ k ∈ ob v', w.heap.size ≤ k := by
  rcases id h.2 with ⟨h1, h2⟩ | ⟨g, cap, _, h1, _⟩
  · subst h1
    have HF : Hid (w.ownsRow 0 83 256 (.slice none 0 0) l.length (pcs l) ∧ Below w.heap.size w w ∧ ∀ k ∈ ob (Value.slice none 0 0), w.heap.size ≤ k) := hid ⟨h, Below.refl _ _, fun k hk => (by cases hk)⟩
    have he := Lib.run_eql_slice_nil (P := Tryz.prog) w 72 83 none 0 0 0 0 Tryz.underlying72
    clear h hl h2
    go_enter Tryz.func72, Tryz.ntmps72
    go_wp2_with fail
    go_ret
    exact ⟨_, rfl, HF.out⟩
  · subst h1
    obtain ⟨v', w', hrun, h5⟩ := clone_run h hl
    have HF := hid h5
    have HR := hid hrun
    have he := Lib.run_eql_slice_nil (P := Tryz.prog) w 72 83 (some ⟨g, 0, none⟩) l.length cap 0 0 Tryz.underlying72
    have hbe := build68e
    clear h hl h5 hrun
    generalize l.length = n at *
    go_enter Tryz.func72, Tryz.ntmps72
    go_wp2_with (first | (at_builtin; refine wpList_append_run rfl _ _ 72 rfl _ _ v' w' rfl rfl HR.out ?_) | fail)
    go_ret
    exact ⟨_, rfl, HF.out⟩
end Go.Proofs.YtojnembakhhgiaaGreat

/- A content copied. -/
namespace Go.Proofs.YtojnembakhhgiaaGreat
open Go.RowKit

set_option maxRecDepth 100000 in
set_option maxHeartbeats 4000000 in
theorem clonec_any (w : World) (v : Value) (l : List Bs) (h : w.ownsRow 0 83 256 v l.length (pcs l)) (hl : l.length ≤ 100000) :
    Calls Tryz.prog 55 #[.agg #[v]] w fun e w' => ∃ v', e = .returned (.agg #[v']) ∧ w'.ownsRow 0 83 256 v' l.length (pcs l) ∧ Below w.heap.size w w' ∧ ∀ k ∈ ob v', w.heap.size ≤ k := by
  obtain ⟨ao, cap, rfl⟩ := row_shape h
  obtain ⟨w1, hw1⟩ : ∃ w1, w1 = (w.alloc (.cells #[.slice ao l.length cap] 74)).alloc (.cells #[.slice none 0 0] 74) := ⟨_, rfl⟩
  have hb1 : Below w.heap.size w w1 := hw1 ▸ ((Below.refl _ _).alloc (Nat.le_refl _) _).alloc (by simp) _
  have HC := hid (clonep_any w1 (.slice ao l.length cap) l (ownsRow_same h (fun g hg => hb1.block g (h.lt g hg).2)) hl)
  have hs1 : w1.heap.size = w.heap.size + 2 := by rw [hw1]; simp
  have HB1 := hid hb1
  have c2 : w1.heap[w.heap.size + 1]? = some (.cells #[.slice none 0 0] 74 (0, 0)) := by
    have := heap_alloc_new (w.alloc (.cells #[.slice ao l.length cap] 74)) (.cells #[.slice none 0 0] 74)
    rw [hw1]
    simpa using this
  clear h hl hb1
  generalize hL : l.length = n at *
  subst hw1
  go_enter Tryz.func55, Tryz.ntmps55
  go_wp2_with fail
  refine HC.out.mono ?_
  rintro e w2 ⟨v', rfl, h1, h2, h3⟩
  obtain ⟨a2, k2, rfl⟩ := row_shape h1
  have c3 : w2.heap[w.heap.size + 1]? = some (.cells #[.slice none 0 0] 74 (0, 0)) := (h2.block _ (by omega)).trans c2
  have d3 : w2.cell? ⟨w.heap.size + 1, 0, none⟩ = some (.slice none 0 0) := (cell_of_heap c3 0).trans rfl
  have f3 : w2.frozen? ⟨w.heap.size + 1, 0, none⟩ = false := frozen_of_heap c3 0
  obtain ⟨v3, hv3⟩ : ∃ v3, v3 = Value.slice a2 n k2 := ⟨_, rfl⟩
  have HF : Hid ((w2.setCell ⟨w.heap.size + 1, 0, none⟩ (.slice a2 n k2)).heap[w.heap.size + 1]? = some (.cells #[.slice a2 n k2] 74 (0, 0)) ∧ (w2.setCell ⟨w.heap.size + 1, 0, none⟩ (.slice a2 n k2)).ownsRow 0 83 256 (.slice a2 n k2) n (pcs l) ∧ Below w.heap.size w (w2.setCell ⟨w.heap.size + 1, 0, none⟩ (.slice a2 n k2)) ∧ ∀ k ∈ ob (.slice a2 n k2), w.heap.size ≤ k) := hid (by
    have hs := hs1
    refine ⟨by rw [heap_setCell_same c3 0 _]; rfl, ownsRow_same h1 (fun g hg => Below.heap_setCell _ _ _ _ (fun e => ?_)), ?_, fun k hk => Nat.le_trans (by omega) (h3 k hk)⟩
    · have h4 := h3 g (mem_ob.2 hg)
      have e : g = w.heap.size + 1 := e
      omega
    · have h4 := below_comp HB1.out h2
      have h5 := Kf.set (F := [w.heap.size + 1]) (g := w.heap.size + 1) w2 (by simp) 0 (.slice a2 n k2)
      exact ⟨h5.os.trans h4.os, h5.tape.trans h4.tape, h5.output.trans h4.output, Nat.le_trans h4.size h5.size, fun g hg => (h5.blk g (Nat.lt_of_lt_of_le hg h4.size) (by simp; omega)).trans (h4.block g hg)⟩)
  clear h1 h2 h3 c2 c3 hv3 hL hs1
  go_wp2_with fail
  have hi : (Tryz.prog.info? 74).map (·.size) = some 1 := by kernel_rfl
  refine bodyPost_ret (results_cell_row rfl _ _ (w.heap.size + 1) 74 #[.slice a2 n k2] (0, 0) _ rfl HF.out.1 Tryz.underlying74 rfl hi) rfl ?_
  exact ⟨_, rfl, HF.out.2⟩
end Go.Proofs.YtojnembakhhgiaaGreat

/- A file when the power is back. -/
namespace Go.Proofs.YtojnembakhhgiaaGreat
open Go.RowKit

/-- the function that stays hands out, and what it holds -/
structure Sty (w : World) (d xo xd keep : Nat) (v : Value) (l : List Int) (C : Array Value) : Prop where
  hd : w.heap[d]? = some (.cells C 56 (0, 0))
  hc5 : C[5]? = some (.int .u64 (keep : Int))
  hk : keep < 18446744073709551616
  ho : w.cell? ⟨xo, 0, none⟩ = some v
  hxd : w.cell? ⟨xd, 0, none⟩ = some (.pointer (some ⟨d, 0, none⟩))
  hr : w.ownsRow 0 3 1 v l.length (l.map (Value.int .i64))
  hl : l.length < 1000000
  hs : l.Pairwise (· ≤ ·)
abbrev Sty.F (d xo xd : Nat) (v : Value) : List Nat := d :: xo :: xd :: ob v
theorem Sty.lt {w : World} {d xo xd keep : Nat} {v : Value} {l : List Int} {C : Array Value} (h : Sty w d xo xd keep v l C) : ∀ g ∈ Sty.F d xo xd v, g < w.heap.size := fun g hg => by
  simp only [List.mem_cons] at hg
  rcases hg with e | e | e | e
  · rw [e]; exact lt_of_block h.hd
  · rw [e]; exact World.block_lt_of_cell? w ⟨xo, 0, none⟩ h.ho
  · rw [e]; exact World.block_lt_of_cell? w ⟨xd, 0, none⟩ h.hxd
  · exact (h.hr.lt g (mem_ob.1 e)).2
theorem Sty.same {w w' : World} {d xo xd keep : Nat} {v : Value} {l : List Int} {C : Array Value} (h : Sty w d xo xd keep v l C) (hh : ∀ g ∈ Sty.F d xo xd v, w'.heap[g]? = w.heap[g]?) : Sty w' d xo xd keep v l C :=
  ⟨(hh d (by simp)).trans h.hd, h.hc5, h.hk, (World.cell?_of_block (hh xo (by simp))).trans h.ho, (World.cell?_of_block (hh xd (by simp))).trans h.hxd, ownsRow_same h.hr (fun g hg => hh g (by have := mem_ob.2 hg; simp [this])), h.hl, h.hs⟩
/-- does a write stay? -/
def stB (keep : Nat) (l : List Int) (x : Dw) : Bool := bitK keep (l.countP (· < (x.step : Int)))
abbrev fnV (xo xd : Nat) : Value := .func (.func 64) #[] #[.pointer (some ⟨xo, 0, none⟩), .pointer (some ⟨xd, 0, none⟩)]
theorem Sty.asks {w : World} {d xo xd keep : Nat} {v : Value} {l : List Int} {C : Array Value} (h : Sty w d xo xd keep v l C) (xs : Nat) (hxs : w.cell? ⟨xs, 0, none⟩ = some (fnV xo xd)) : Asks (xs :: Sty.F d xo xd v) w xs (fun x => !stB keep l x) := fun W hW x hx => by
  have h' := h.same (w' := W) (fun g hg => hW g (List.mem_cons_of_mem _ hg))
  exact struck_any W d xo xd xs C keep v l x hx h'.hd h'.hc5 h'.hk h'.ho h'.hxd ((World.cell?_of_block (hW xs (by simp))).trans hxs) h'.hr h'.hl h'.hs
/-- what is left of a file's block when the power is back -/
def Rst (w : World) (m : Fm) (S : List Bs) (w' : World) : Prop := ∃ m', m'.p = m.p ∧ FileAt w' S S [] m' ∧ Kf m.blocks w w' ∧ (∀ g ∈ m'.blocks, g ∈ m.blocks ∨ w.heap.size ≤ g) ∧ m'.blocks.Nodup
end Go.Proofs.YtojnembakhhgiaaGreat
