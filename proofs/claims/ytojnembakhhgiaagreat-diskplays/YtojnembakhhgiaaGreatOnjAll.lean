import Derived.Test.YtojnembakhhgiaaGreatOngAll
/- restore: the walk. -/
namespace Go.Proofs.YtojnembakhhgiaaGreat
open Go.RowKit

set_option maxRecDepth 100000 in
set_option maxHeartbeats 8000000 in
theorem restore_any (w : World) (m : Fm) (l st : List Bs) (ws : List Dw) (d xo xd keep : Nat) (v : Value) (L : List Int) (C : Array Value) (hS : Sty w d xo xd keep v L C) (hfa : FileAt w l st ws m) (hnd : m.blocks.Nodup) (hap : ∀ g ∈ Sty.F d xo xd v, g ∉ m.blocks) (hpg : ∀ y ∈ st, y.length = 256) (hwg : ∀ x ∈ ws, x.pg.length = 256) (hl : (layAll st ws).length ≤ 100000) (hws : ws.length ≤ 1000000) :
    Calls Tryz.prog 41 #[.pointer (some ⟨m.p, 0, none⟩), fnV xo xd] w fun e w' => e = .returned (.tuple #[]) ∧ Rst w m (layAll st (ws.filter (stB keep L))) w' := by
  obtain ⟨w0, hw0⟩ : ∃ w0, w0 = w.alloc (.cells #[fnV xo xd] 65) := ⟨_, rfl⟩
  have hb0 : Below w.heap.size w w0 := hw0 ▸ (Below.refl _ _).alloc (Nat.le_refl _) _
  have hx0 : w0.cell? ⟨w.heap.size, 0, none⟩ = some (fnV xo xd) := by rw [hw0]; exact (cell_of_heap (heap_alloc_new w _) 0).trans rfl
  have hfa0 := hfa.same (w' := w0) (fun g hg => hb0.block g (hfa.lt hg))
  have hS0 := hS.same (w' := w0) (fun g hg => hb0.block g (hS.lt g hg))
  have hapB : (m.p :: (ob m.pv ++ (ob m.sv ++ ob m.ov))).Nodup := hnd
  obtain ⟨a1, a2⟩ := List.nodup_cons.1 hapB
  obtain ⟨a3, a4, a5⟩ := List.nodup_append.1 a2
  obtain ⟨a6, a7, a8⟩ := List.nodup_append.1 a4
  have hz0 : w0.heap.size = w.heap.size + 1 := by rw [hw0]; simp
  have hltm : ∀ g ∈ m.blocks, g < w.heap.size := fun g hg => hfa.lt hg
  have hp := hltm m.p (by simp [Fm.blocks])
  have HDEL := hid (delete_any w0 (w.heap.size :: Sty.F d xo xd v) w.heap.size (fun x => !stB keep L x) m.ov ws hfa0.op hwg (hS0.asks _ hx0) (fun g hg => by
    rcases List.mem_cons.1 hg with e | e
    · rw [e]
      exact ⟨by omega, fun hm => by have := hltm w.heap.size (by simp [Fm.blocks, hm]); omega⟩
    · exact ⟨hS0.lt g e, fun hm => hap g e (by simp [Fm.blocks, hm])⟩) hws)
  have hfl : (ws.filter fun x => !(!stB keep L x)) = ws.filter (stB keep L) := by
    congr 1
    funext x
    simp
  rw [hfl] at HDEL
  obtain ⟨kp, hkp⟩ : ∃ kp, kp = ws.filter (stB keep L) := ⟨_, rfl⟩
  rw [← hkp] at HDEL ⊢
  have hkl : kp.length ≤ ws.length := by rw [hkp]; exact List.length_filter_le _ _
  have hkg : ∀ x ∈ kp, x.pg.length = 256 := fun x hx => hwg x (by rw [hkp] at hx; exact (List.mem_filter.1 hx).1)
  have hkS : (layAll st kp).length ≤ 100000 := Nat.le_trans (layAll_len_sub (by rw [hkp]; exact List.filter_sublist) st) hl
  obtain ⟨ao, cap, hov⟩ := row_shape hfa.op
  have c2 : w0.cell? ⟨m.p, 2, none⟩ = some (.slice ao ws.length cap) := by rw [← hov]; exact (cell_of_heap hfa0.blk 2).trans rfl
  rw [hov] at HDEL
  have HOV := hid hov
  obtain ⟨n, hn⟩ : ∃ n, n = ws.length := ⟨_, rfl⟩
  rw [← hn] at c2 HDEL
  have HN := hid hn
  have HFA0 := hid hfa0
  have HA := hid (And.intro a1 (And.intro a5 a8))
  have HB0 := hid hb0
  have HLT := hid hltm
  have HPG := hid hpg
  have HKG := hid hkg
  have HKS := hid hkS
  have HKL : Hid (kp.length ≤ 1000000) := hid (by omega)
  have HZ0 := hid hz0
  have HP := hid hp
  clear hS hfa hnd hap hpg hwg hl hws hfa0 hS0 hapB a1 a2 a3 a4 a5 a6 a7 a8 hltm hkl hkg hkS hkp hfl hb0 hov hx0 hn hp
  obtain ⟨p, hpp⟩ : ∃ p, p = m.p := ⟨_, rfl⟩
  rw [← hpp]
  rw [← hpp] at c2
  have HPP := hid hpp
  clear hpp
  subst hw0
  go_enter Tryz.func41, Tryz.ntmps41
  go_wp2_with fail
  refine HDEL.out.mono ?_
  rintro e w1 ⟨v1, rfl, r1, k1, o1⟩
  obtain ⟨a1, cp1, rfl⟩ := row_shape r1
  have hnA := HA.out
  have hlt := HLT.out
  have hz := HZ0.out
  have hob : ob (Value.slice ao n cap) = ob m.ov := by rw [HOV.out, HN.out]
  rw [hob] at k1 o1
  have hpo : p ∉ ob m.ov := fun hm => hnA.1 (by rw [← HPP.out]; simp [hm])
  have b1 : w1.heap[p]? = some (.cells #[m.pv, m.sv, m.ov] 77 (0, 0)) := (k1.blk p (by have := HP.out; rw [HPP.out]; omega) hpo).trans (by rw [HPP.out]; exact HFA0.out.blk)
  have d2 : w1.cell? ⟨p, 2, none⟩ = some m.ov := (cell_of_heap b1 2).trans rfl
  have f2 : w1.frozen? ⟨p, 2, none⟩ = false := frozen_of_heap b1 2
  obtain ⟨W1, hW1⟩ : ∃ W1, W1 = w1.setCell ⟨p, 2, none⟩ (.slice a1 kp.length cp1) := ⟨_, rfl⟩
  have hset : ∀ g, g ≠ p → W1.heap[g]? = w1.heap[g]? := fun g hg => by rw [hW1]; exact Below.heap_setCell _ _ _ _ hg
  have B1 : W1.heap[p]? = some (.cells #[m.pv, m.sv, .slice a1 kp.length cp1] 77 (0, 0)) := by rw [hW1, heap_setCell_same b1 2 _]; rfl
  have hsz1 : w.heap.size + 1 ≤ W1.heap.size := by
    have := k1.size
    rw [hW1]
    simp [World.setCell]
    omega
  have hsv : ∀ g, g ∈ ob m.sv → W1.heap[g]? = (w.alloc (.cells #[fnV xo xd] 65)).heap[g]? := fun g hg => by
    rw [hset g (fun e => hnA.1 (by rw [← HPP.out, ← e]; simp [hg]))]
    exact k1.blk g (by have := hlt g (by simp [Fm.blocks, hg]); omega) (fun hm => hnA.2.2 g hg g hm rfl)
  have HSY := hid (fsync_any W1 p m.pv m.sv (.slice a1 kp.length cp1) st kp B1 (ownsRow_same HFA0.out.st (fun g hg => hsv g (mem_ob.2 hg))) (ownsRow_same r1 (fun g hg => hset g (fun e => hpo (by rw [← e]; exact o1 g (mem_ob.2 hg))))) (fun g hg e => hnA.1 (by rw [← HPP.out, ← e]; simp [hg])) (fun g hg => ⟨fun e => hpo (by rw [← e]; exact o1 g hg), fun hm => hnA.2.2 g hm g (o1 g hg) rfl⟩) HPG.out HKG.out HKS.out HKL.out)
  have K1 : Kf m.blocks w W1 := by
    have q1 : Kf m.blocks w w1 := (below_kf HB0.out).trans k1 (fun g hg => .inl (by simp [Fm.blocks, hg]))
    rw [hW1]
    exact q1.trans (Kf.set (F := [p]) w1 (by simp) _ _) (fun g hg => .inl (by simp at hg; rw [hg, HPP.out]; simp [Fm.blocks]))
  have HK1 := hid K1
  have HS1 := hid hsz1
  have HW := hid hW1
  have hov := HOV.out
  rw [hov] at d2
  clear r1 k1 o1 hnA hlt hz hob hpo b1 hset B1 hsz1 hsv K1 hov hW1
  generalize kp.length = kl at *
  generalize ws.length = wl at *
  go_wp2_with fail
  rw [← HW.out]
  go_wp2_with fail
  refine HSY.out.mono ?_
  rintro e w2 ⟨rfl, sv2, b2, r2, k2, o2⟩
  obtain ⟨a3, cp3, rfl⟩ := row_shape r2
  have e1 : w2.cell? ⟨p, 1, none⟩ = some (.slice a3 (layAll st kp).length cp3) := (cell_of_heap b2 1).trans rfl
  have HCL := hid (clonec_any w2 (.slice a3 (layAll st kp).length cp3) (layAll st kp) r2 HKS.out)
  obtain ⟨sl, hsl⟩ : ∃ sl, sl = (layAll st kp).length := ⟨_, rfl⟩
  rw [← hsl] at e1
  have HSL := hid hsl
  rw [← hsl] at HCL
  have HB2 := hid b2
  have HR2 := hid r2
  have HK2 := hid k2
  have HO2 := hid o2
  clear b2 r2 k2 o2 hsl
  go_wp2_with fail
  refine HCL.out.mono ?_
  rintro e w3 ⟨v3, rfl, r3, b3, o3⟩
  obtain ⟨a4, cp4, rfl⟩ := row_shape r3
  have hpw : p < w2.heap.size := lt_of_block HB2.out
  have B3 : w3.heap[p]? = some (.cells #[m.pv, .slice a3 (layAll st kp).length cp3, .slice none 0 0] 77 (0, 0)) := (b3.block p hpw).trans HB2.out
  have d0 : w3.cell? ⟨p, 0, none⟩ = some m.pv := (cell_of_heap B3 0).trans rfl
  have f0 : w3.frozen? ⟨p, 0, none⟩ = false := frozen_of_heap B3 0
  have HF : Hid (Rst w m (layAll st kp) (w3.setCell ⟨p, 0, none⟩ (.slice a4 sl cp4))) := hid (by
    have hsl := HSL.out
    have hset : ∀ g, g ≠ p → (w3.setCell ⟨p, 0, none⟩ (.slice a4 sl cp4)).heap[g]? = w3.heap[g]? := fun g hg => Below.heap_setCell _ _ _ _ hg
    have hs2 := HR2.out
    have h2lt : ∀ g, g ∈ ob (Value.slice a3 (layAll st kp).length cp3) → g < w2.heap.size := fun g hg => (hs2.lt g (mem_ob.1 hg)).2
    refine ⟨⟨p, .slice a4 sl cp4, .slice a3 (layAll st kp).length cp3, .slice none 0 0⟩, HPP.out, ⟨?_, ?_, ?_, World.ownsRow_nil _ _ _ _⟩, ?_, fun g hg => ?_, ?_⟩
    · rw [heap_setCell_same B3 0 _]
      rfl
    · rw [← hsl]
      refine ownsRow_same r3 (fun g hg => hset g (fun e => ?_))
      have := o3 g (mem_ob.2 hg)
      omega
    · refine ownsRow_same hs2 (fun g hg => (hset g (HO2.out g (mem_ob.2 hg)).1).trans (b3.block g (h2lt g (mem_ob.2 hg))))
    · have q1 : Kf m.blocks w w2 := HK1.out.trans HK2.out (fun g hg => by
        rcases List.mem_cons.1 hg with e | e
        · exact .inl (by rw [e, HPP.out]; simp [Fm.blocks])
        · exact .inl (by simp [Fm.blocks, e]))
      exact (q1.trans (below_kf (F := []) b3) (fun g hg => (by cases hg))).trans (Kf.set (F := [p]) w3 (by simp) _ _) (fun g hg => .inl (by simp at hg; rw [hg, HPP.out]; simp [Fm.blocks]))
    · have hs1 := HS1.out
      have hk2 := HK2.out.size
      have hg' : g ∈ (p :: (ob (Value.slice a4 sl cp4) ++ (ob (Value.slice a3 (layAll st kp).length cp3) ++ []))) := hg
      simp only [List.mem_cons, List.mem_append, List.append_nil] at hg'
      rcases hg' with e | e | e
      · exact .inl (by rw [e, HPP.out]; simp [Fm.blocks])
      · exact .inr (by have := o3 g e; omega)
      · rcases (HO2.out g e).2 with h | h
        · exact .inl (by simp [Fm.blocks, h])
        · exact .inr (by omega)
    · show (p :: (ob (Value.slice a4 sl cp4) ++ (ob (Value.slice a3 (layAll st kp).length cp3) ++ []))).Nodup
      have hone : ∀ v : Value, (ob v).Nodup := fun v => by unfold ob; cases v.ownBlock <;> simp
      rw [List.append_nil, List.nodup_cons, List.nodup_append]
      refine ⟨fun hm => ?_, hone _, hone _, fun a ha c hc e => ?_⟩
      · rcases List.mem_append.1 hm with e | e
        · have := o3 p e
          omega
        · exact (HO2.out p e).1 rfl
      · subst e
        have h5 := o3 a ha
        have h6 := h2lt a hc
        omega)
  clear r3 b3 o3 B3 hpw
  generalize hpv : m.pv = pv0 at *
  go_wp2_with fail
  refine bodyPost_end (results_none rfl _ _ _) rfl ?_
  exact ⟨rfl, HF.out⟩
end Go.Proofs.YtojnembakhhgiaaGreat

/- stays: what is gathered. -/
namespace Go.Proofs.YtojnembakhhgiaaGreat
open Go.RowKit Go.Maps Go.WideElems

theorem ranges_same {w w' : World} {b r n : Nat} {D : DataW Unit} {left : Lit → Bool} {cnt : Nat} (h : w.ranges Tryz.prog 9 ptrR b r n D left cnt) (hb : w'.heap[b]? = w.heap[b]?) (hr : w'.heap[r]? = w.heap[r]?) : w'.ranges Tryz.prog 9 ptrR b r n D left cnt := by
  obtain ⟨es, clock, since, seen, c0, h1, h2, h3, h4, h5, h6⟩ := h
  exact ⟨es, clock, since, seen, c0, hb.trans h1, h2, h3, h4, hr.trans h5, h6⟩
theorem info3 : (Tryz.prog.info? 3).map (fun i => (i.zero, i.size, i.bytes)) = some (some (.int .i64 0), 1, 8) := by kernel_rfl
/-- one number more -/
theorem append_int (W : World) (base : Nat) (v : Value) (l : List Int) (x : Int) (hown : W.ownsRow base 3 1 v l.length (l.map (Value.int .i64))) (hl : l.length < 1000000000) (hb : base ≤ W.heap.size) :
    ∃ v' w', (∀ ty, (Builtin.append_ #[97, 97] ty #[v, .slice (some ⟨W.heap.size, 0, none⟩) 1 1]).run Tryz.prog (W.alloc (.cells #[.int .i64 x] 3)) = .ok v' w') ∧ w'.ownsRow base 3 1 v' (l ++ [x]).length ((l ++ [x]).map (Value.int .i64)) ∧ W.grownBy w' v.ownBlock := by
  obtain ⟨i0, hi, hz0, hz1, hz2⟩ := info_get info3
  obtain ⟨v', w', h1, h2, h3, _⟩ := run_append_own_at (P := Tryz.prog) (W.alloc (.cells #[.int .i64 x] 3)) base 97 97 3 i0 _ 1 8 Tryz.underlying97 hi hz0 hz1 hz2 rfl (by decide) v l.length (l.map (Value.int .i64)) (hown.alloc _) ⟨W.heap.size, 0, none⟩ 1 1 [.int .i64 x] rfl (fun j u hu => by
    rw [Addr.add_mid, Nat.zero_add, cell_of_heap (heap_alloc_new W _), List.getElem?_toArray]
    exact hu) (fun u hu => by simp at hu; subst hu; rfl) (by unfold maxLen; omega) (by omega) (by simp; omega)
  refine ⟨v', w', fun ty => h1, by simpa using h2, (World.grownBy_alloc W _ v.ownBlock).trans h3⟩
/-- while the steps are gathered -/
structure Sx (w : World) (d : Nat) (wr : World) (v : Value) (l : List Int) : Prop where
  box : wr.heap[w.heap.size]? = some (.cells #[.pointer (some ⟨d, 0, none⟩)] 24 (0, 0))
  cell : wr.heap[w.heap.size + 1]? = some (.cells #[v] 97 (0, 0))
  row : wr.ownsRow (w.heap.size + 3) 3 1 v l.length (l.map (Value.int .i64))
  low : Below w.heap.size w wr
  size : w.heap.size + 3 ≤ wr.heap.size
theorem own_ge {w : World} {base : Nat} {e : TypeId} {sz : Nat} {v : Value} {n : Nat} {xs : List Value} (h : w.ownsRow base e sz v n xs) {g : Nat} (hg : v.ownBlock = some g) : base ≤ g ∧ g < w.heap.size := by
  rcases h.2 with ⟨h1, h2⟩ | ⟨k, cap, cur, h1, h2, h3, _⟩
  · subst h1; cases hg
  · subst h1; cases hg; exact ⟨h2, lt_of_block h3⟩
theorem Sx.keep {w : World} {d : Nat} {wr w' : World} {v : Value} {l : List Int} (h : Sx w d wr v l) (hb : Below wr.heap.size wr w') : Sx w d w' v l := by
  have hs := h.size
  exact ⟨(hb.block _ (by omega)).trans h.box, (hb.block _ (by omega)).trans h.cell, ownsRow_same h.row (fun g hg => hb.block g (own_ge h.row hg).2), below_comp h.low hb, Nat.le_trans hs hb.size⟩
/-- one step more -/
theorem Sx.more {w : World} {d : Nat} {wr : World} {v : Value} {l : List Int} (h : Sx w d wr v l) (x : Int) (hl : l.length < 1000000) :
    ∃ v' w', (∀ ty, (Builtin.append_ #[97, 97] ty #[v, .slice (some ⟨wr.heap.size, 0, none⟩) 1 1]).run Tryz.prog (wr.alloc (.cells #[.int .i64 x] 3)) = .ok v' w') ∧ w'.cell? ⟨w.heap.size + 1, 0, none⟩ = some v ∧ w'.frozen? ⟨w.heap.size + 1, 0, none⟩ = false ∧ Sx w d (w'.setCell ⟨w.heap.size + 1, 0, none⟩ v') v' (l ++ [x]) ∧ ∀ g, g < w.heap.size + 3 → g ≠ w.heap.size + 1 → (w'.setCell ⟨w.heap.size + 1, 0, none⟩ v').heap[g]? = wr.heap[g]? := by
  have hs := h.size
  obtain ⟨v', w', h1, h2, h3⟩ := append_int wr (w.heap.size + 3) v l x h.row (by omega) hs
  have hk : ∀ g, g < w.heap.size + 3 → w'.heap[g]? = wr.heap[g]? := fun g hg => h3.block g (by omega) (fun e => by have := (own_ge h.row e.symm).1; omega)
  have hc := (hk (w.heap.size + 1) (by omega)).trans h.cell
  have hset : ∀ g, g ≠ w.heap.size + 1 → (w'.setCell ⟨w.heap.size + 1, 0, none⟩ v').heap[g]? = w'.heap[g]? := fun g hg => Below.heap_setCell _ _ _ _ hg
  refine ⟨v', w', h1, (cell_of_heap hc 0).trans rfl, frozen_of_heap hc 0, ⟨?_, ?_, ?_, ?_, ?_⟩, fun g hg hne => (hset g hne).trans (hk g hg)⟩
  · rw [hset _ (by omega), hk _ (by omega)]
    exact h.box
  · rw [heap_setCell_same hc 0 _]
    rfl
  · exact ownsRow_same h2 (fun g hg => hset g (fun e => by have := (own_ge h2 hg).1; omega))
  · have hz : (w'.setCell ⟨w.heap.size + 1, 0, none⟩ v').heap.size = w'.heap.size := by simp [World.setCell]
    refine ⟨h3.os.trans h.low.os, h3.tape.trans h.low.tape, h3.output.trans h.low.output, ?_, fun g hg => ?_⟩
    · rw [hz]
      exact Nat.le_trans h.low.size h3.size
    · rw [hset g (by omega), hk g (by omega)]
      exact h.low.block g hg
  · have := h3.size
    simp [World.setCell]
    omega
/-- the steps of the open writes of the file of a name -/
def stepsOf (s : Ds) (t : Bs) : List Int := match findF s t with
  | none => []
  | some f => (ofNo s.opn f.no).map fun x => (x.step : Int)
theorem isort_all (w : World) (base : Nat) (v : Value) (l : List Int) (h : w.ownsRow base 3 1 v l.length (l.map (Value.int .i64))) (hl : l.length < 1000000000) :
    Calls Tryz.prog 63 #[v] w fun e w' => e = .returned (.tuple #[]) ∧ w'.ownsRow base 3 1 v (isorted l).length ((isorted l).map (Value.int .i64)) ∧ w.grownBy w' v.ownBlock := by
  by_cases h0 : 0 < l.length
  · exact isort_any w base v l h h0 (by omega)
  · have hl0 : l = [] := List.eq_nil_of_length_eq_zero (by omega)
    subst hl0
    obtain ⟨ao, cap, rfl⟩ : ∃ ao cap, v = .slice ao 0 cap := by
      rcases h.2 with ⟨h1, _⟩ | ⟨g, cap, _, h1, _⟩
      · exact ⟨_, _, h1⟩
      · exact ⟨_, _, h1⟩
    refine (isort_zero ao cap w).mono ?_
    rintro e w' ⟨rfl, rfl⟩
    have e0 : isorted [] = [] := by simp [isorted]
    rw [e0]
    exact ⟨rfl, h, rfl, rfl, rfl, Nat.le_refl _, fun _ _ _ => rfl⟩
end Go.Proofs.YtojnembakhhgiaaGreat
