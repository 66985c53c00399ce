/- next. -/
import Derived.Test.YtdhmmllpioppfaaGreatVCut
import Derived.Deep.Cut
namespace Go.Proofs.YtdhmmllpioppfaaGreat.V
open Go.RowKit

theorem Tryz.size43 : (Tryz.prog.info? 43).map (·.size) = some 2 := by kernel_rfl
theorem load_rec {w : World} {p : Nat} {c0 c1 : Value} (h : w.heap[p]? = some (.cells #[c0, c1] 43 (0, 0))) : (loadVar 43 ⟨p, 0, none⟩).run Tryz.prog w = .ok (.agg #[c0, c1]) w :=
  run_loadVar_row w p 43 43 #[c0, c1] (0, 0) _ h Tryz.underlying43 rfl Tryz.size43
/-- three results, the first of them a variable -/
theorem results_c3 {P : Program} {fn : Func} {tmps : Array Value} {k i j : Nat} {t : TypeId} {a : Addr} {v : Value} {w : World} (hr : fn.results = #[.cell k t, .tmp i, .tmp j]) (hk : tmps.getD k undef = .pointer (some a)) (hl : (loadVar t a).run P w = .ok v w) :
    (results fn tmps).run P w = .ok (.tuple #[v, tmps.getD i undef, tmps.getD j undef]) w := by
  have hk' : tmps[k]?.getD undef = .pointer (some a) := by simpa using hk
  unfold results
  rw [hr]
  simp [hk', asAddr, hl]
theorem own_low {w : World} {B C : Nat} {e : TypeId} {size : Nat} {v : Value} {n : Nat} {xs : List Value} (h : w.ownsRow C e size v n xs) (hB : B ≤ C) : w.ownsRow B e size v n xs := by
  refine ⟨h.1, ?_⟩
  rcases h.2 with h | ⟨g, cap, cur, e1, e2, e3⟩
  · exact Or.inl h
  · exact Or.inr ⟨g, cap, cur, e1, Nat.le_trans hB e2, e3⟩
/-- what next answers -/
def Nx (w : World) (u : Value) (b : Bs) (nb : Rec × Bs × Nat) (e : Ending) (w' : World) : Prop :=
  ∃ ab cb ar cr, e = .returned (.tuple #[.agg #[.int .u64 (nb.1.1 : Int), .slice ab nb.1.2.length cb], .slice ar nb.2.1.length cr, .int .i64 (nb.2.2 : Int)]) ∧ w'.ownsRow (w.heap.size + 1) 5 1 (.slice ab nb.1.2.length cb) nb.1.2.length (bcs nb.1.2) ∧ (∀ W, Sl W u b → Sl W (.slice ar nb.2.1.length cr) nb.2.1) ∧ Below w.heap.size w w'

theorem nx_err (w : World) (u : Value) (b : Bs) (e : Nat) : Nx w u b ((0, []), [], e) (.returned (.tuple #[.agg #[.int .u64 0, .slice none 0 0], .slice none 0 0, .int .i64 (e : Int)])) (w.alloc (.cells #[.int .u64 0, .slice none 0 0] 43)) :=
  ⟨none, 0, none, 0, rfl, own_none _ _, fun _ _ => Sl.nil _, (Below.refl _ _).alloc (Nat.le_refl _) _⟩

set_option maxRecDepth 100000 in
set_option maxHeartbeats 4000000 in
theorem next_any (w : World) (v u : Value) (A : List Rec) (b : Bs) (hA : Rcs w v A) (hb : Sl w u b) (hAm : A.length ≤ 140737488355328) (hbm : b.length ≤ 140737488355328) : Calls Tryz.prog 80 #[v, u] w (Nx w u b (nextB A b)) := by
  obtain ⟨av, cv, rfl⟩ := hA.shape
  obtain ⟨au, cu, rfl⟩ := hb.shape
  have HA := hid hA
  have HB := hid hb
  have HG := hid (fun W hb' => get_any b W (.slice au b.length cu) (hb.below hb') hbm)
  unfold nextB
  generalize hg : getB b = gg at *
  have HGE := hid hg
  obtain ⟨t, k, e⟩ := gg
  simp only at *
  clear hA hb hg
  by_cases he : e = 0
  · subst he
    obtain ⟨ho1, ho2, ho3, ho4⟩ := get_ok HGE.out
    obtain ⟨a1, c1, hs1, hb1⟩ := cutRun au b.length cu b k ho4 rfl
    have hs1' := hs1 .i64
    have HB1 := hid (hb1 w HB.out)
    have HX1 := hid hb1
    have HG2 := hid (fun W hb' => get_any (b.drop k) W (.slice a1 (b.length - k) c1) (HB1.out.below hb') (by simp; omega))
    clear hs1 hb1
    have HRI := hid (fun W hb' => rises_any W (.slice av A.length cv) A (HA.out.below hb') t hAm)
    have HBL : Hid ((b.drop k).length = b.length - k) := hid (by simp)
    rw [if_neg (by simp)]
    generalize hg2 : getB (b.drop k) = g2 at *
    have HGE2 := hid hg2
    obtain ⟨s, k2, e2⟩ := g2
    simp only at *
    clear hg2 ho1 ho2
    generalize hm : b.length = m at *
    have HM := hid hm
    obtain ⟨m1, hm1⟩ : ∃ m1, m1 = m - k := ⟨_, rfl⟩
    rw [← hm1] at hs1' HB1 HG2 HBL HX1
    have HM1 := hid hm1
    clear hm1
    generalize hn : A.length = n at *
    have HN := hid hn
    clear hm hn
    generalize hrb : risesB A t = rb at *
    clear hrb
    cases rb with
    | false =>
      rw [if_pos rfl]
      go_enter Tryz.func80, Tryz.ntmps80
      go_wp2_with fail
      refine (HG.out _ ((Below.refl _ _).alloc (Nat.le_refl _) _)).mono ?_
      rintro e w1 ⟨rfl, hw1⟩
      subst hw1
      go_wp2_with fail
      refine (HRI.out _ ((Below.refl _ _).alloc (Nat.le_refl _) _)).mono ?_
      rintro e w1 ⟨rfl, hw1⟩
      subst hw1
      go_wp2_with fail
      exact bodyPost_ret (results_c3 rfl rfl (load_rec (heap_alloc_new w _))) rfl (nx_err w _ _ 50)
    | true =>
      rw [if_neg (by simp)]
      by_cases h64 : 64 ≤ n
      · rw [if_pos h64]
        have h64' : (64 : Int) ≤ (n : Int) := by omega
        go_enter Tryz.func80, Tryz.ntmps80
        go_wp2_with fail
        refine (HG.out _ ((Below.refl _ _).alloc (Nat.le_refl _) _)).mono ?_
        rintro e w1 ⟨rfl, hw1⟩
        subst hw1
        go_wp2_with fail
        refine (HRI.out _ ((Below.refl _ _).alloc (Nat.le_refl _) _)).mono ?_
        rintro e w1 ⟨rfl, hw1⟩
        subst hw1
        go_wp2_with fail
        exact bodyPost_ret (results_c3 rfl rfl (load_rec (heap_alloc_new w _))) rfl (nx_err w _ _ 3)
      · rw [if_neg h64]
        have h64' : ¬ (64 : Int) ≤ (n : Int) := by omega
        by_cases he2 : e2 = 0
        · subst he2
          obtain ⟨hq1, hq2, hp3, hp4⟩ := get_ok HGE2.out
          clear hq1 hq2
          rw [if_neg (by simp)]
          obtain ⟨a2, c2, hs2, hb2⟩ := cutRun a1 m1 c1 (b.drop k) k2 hp4 HBL.out.symm
          have hs2' := hs2 .i64
          have HB2 := hid (hb2 w HB1.out)
          have HX2 : Hid (∀ W, Sl W (.slice au m cu) b → Sl W (.slice a2 (m1 - k2) c2) ((b.drop k).drop k2)) := hid (fun W h => hb2 W (HX1.out W h))
          rw [HBL.out] at hp4
          have HCL : Hid (((b.drop k).drop k2).length = m1 - k2) := hid (by rw [List.length_drop, HBL.out])
          rw [HCL.out]
          obtain ⟨m2, hm2⟩ : ∃ m2, m2 = m1 - k2 := ⟨_, rfl⟩
          rw [← hm2] at hs2' HB2 HCL HX2 ⊢
          have hm2b : m2 ≤ 140737488355328 := by have := HM1.out; omega
          clear hm2 hs2 hb2
          have hsl := get_lt HGE2.out
          generalize hc : (b.drop k).drop k2 = c at *
          clear hc
          by_cases hsh : m2 < s
          · rw [if_pos hsh]
            have hsh' : (m2 : Int) < (s : Int) := by omega
            have hmw : IntKind.u64.wrap (m2 : Int) = (m2 : Int) := by rw [IntKind.wrap_u64]; omega
            go_enter Tryz.func80, Tryz.ntmps80
            go_wp2_with fail
            refine (HG.out _ ((Below.refl _ _).alloc (Nat.le_refl _) _)).mono ?_
            rintro e w1 ⟨rfl, hw1⟩
            subst hw1
            go_wp2_with fail
            refine (HRI.out _ ((Below.refl _ _).alloc (Nat.le_refl _) _)).mono ?_
            rintro e w1 ⟨rfl, hw1⟩
            subst hw1
            go_wp2_with fail
            refine (HG2.out _ ((Below.refl _ _).alloc (Nat.le_refl _) _)).mono ?_
            rintro e w1 ⟨rfl, hw1⟩
            subst hw1
            go_wp2_with fail
            exact bodyPost_ret (results_c3 rfl rfl (load_rec (heap_alloc_new w _))) rfl (nx_err w _ _ 51)
          · rw [if_neg hsh]
            have hsh' : ¬ (m2 : Int) < (s : Int) := by omega
            have hmw : IntKind.u64.wrap (m2 : Int) = (m2 : Int) := by rw [IntKind.wrap_u64]; omega
            go_enter Tryz.func80, Tryz.ntmps80
            go_wp2_with fail
            refine (HG.out _ ((Below.refl _ _).alloc (Nat.le_refl _) _)).mono ?_
            rintro e w1 ⟨rfl, hw1⟩
            subst hw1
            go_wp2_with fail
            refine (HRI.out _ ((Below.refl _ _).alloc (Nat.le_refl _) _)).mono ?_
            rintro e w1 ⟨rfl, hw1⟩
            subst hw1
            go_wp2_with fail
            refine (HG2.out _ ((Below.refl _ _).alloc (Nat.le_refl _) _)).mono ?_
            rintro e w1 ⟨rfl, hw1⟩
            subst hw1
            go_upto_region 15 with (fail)
            obtain ⟨hs3, hb3⟩ := HB2.out.takeRun s (by rw [HCL.out]; omega) HCL.out.symm
            obtain ⟨a4, c4, hs4, hb4⟩ := cutRun a2 m2 c2 c s (by rw [HCL.out]; omega) HCL.out.symm
            have hs3' := hs3 .u64
            have hs4' := hs4 .u64
            have HB4 : Hid (∀ W, Sl W (.slice au m cu) b → Sl W (.slice a4 (m2 - s) c4) (c.drop s)) := hid (fun W h => hb4 W (HX2.out W h))
            have HTL : Hid ((c.take s).length = s) := hid (by rw [List.length_take, HCL.out]; omega)
            have HDL : Hid ((c.drop s).length = m2 - s) := hid (by rw [List.length_drop, HCL.out])
            have HW0 := hid ((Below.refl w.heap.size w).alloc (Nat.le_refl _) (.cells #[.int .u64 0, .slice none 0 0] 43))
            have HC0 := hid (heap_alloc_new w (.cells #[.int .u64 0, .slice none 0 0] 43))
            have HWS : Hid (w.heap.size < (w.alloc (.cells #[.int .u64 0, .slice none 0 0] 43)).heap.size) := hid (by simp)
            have HCO : Hid (∀ W, Below (w.alloc (.cells #[.int .u64 0, .slice none 0 0] 43)).heap.size (w.alloc (.cells #[.int .u64 0, .slice none 0 0] 43)) W → Calls Tryz.prog 89 #[.slice a2 s c2] W fun e w' => ∃ ao cap, e = .returned (.slice ao s cap) ∧ w'.ownsRow (w.heap.size + 1) 5 1 (.slice ao s cap) s (bcs (c.take s)) ∧ w'.heap[w.heap.size]? = some (.cells #[.int .u64 0, .slice none 0 0] 43 (0, 0)) ∧ Below w.heap.size w w') := hid (fun W hb => by
              have hsl2 : Sl W (.slice a2 s c2) (c.take s) := (hb3.below HW0.out).below hb
              have hh := hb.size
              have h1 := HWS.out
              have := clone_any W (.slice a2 s c2) (c.take s) hsl2 (by rw [HTL.out]; omega)
              rw [HTL.out] at this
              refine this.mono ?_
              rintro e w' ⟨ao, cap, rfl, ho, hb'⟩
              exact ⟨ao, cap, rfl, own_low ho (by omega), by rw [hb'.block _ (by omega), hb.block _ h1]; exact HC0.out, HW0.out.trans ((hb.mono (by omega)).trans (hb'.mono (by omega)))⟩)
            generalize hm3 : m2 - s = m3 at *
            clear hs3 hs4 hb3 hb4 hs1' hs2' hm3
            generalize w.alloc (.cells #[.int .u64 0, .slice none 0 0] 43) = w0 at *
            have HD0 : Hid (w0.cell? ⟨w.heap.size, 0, none⟩ = some (.int .u64 0)) := hid (by rw [cell_of_heap HC0.out]; rfl)
            go_region_with (first | (go_at_call 89; refine (HCO.out _ (by first | exact Below.refl _ _ | exact below_drewN (Below.refl _ _) _)).mono ?_; rintro e w5 ⟨ao5, cap5, rfl, ho5, hc5, hb5⟩; have HO5 := hid ho5; have HC5 := hid hc5; have HB5 := hid hb5; have c50 : w5.cell? ⟨w.heap.size, 0, none⟩ = some (.int .u64 0) := (by rw [cell_of_heap hc5]; rfl); have c51 : w5.cell? ⟨w.heap.size, 1, none⟩ = some (.slice none 0 0) := (by rw [cell_of_heap hc5]; rfl); have rf := fun o => frozen_of_heap hc5 o; clear ho5 hc5 hb5))
            go_wp2_with fail
            have hblk : ((w5.setCell ⟨w.heap.size, 0, none⟩ (.int .u64 (t : Int))).setCell ⟨w.heap.size, 1, none⟩ (.slice ao5 s cap5)).heap[w.heap.size]? = some (.cells #[.int .u64 (t : Int), .slice ao5 s cap5] 43 (0, 0)) := by
              rw [heap_setCell_same (heap_setCell_same HC5.out 0 _)]
              rfl
            have hfr : Below w.heap.size w ((w5.setCell ⟨w.heap.size, 0, none⟩ (.int .u64 (t : Int))).setCell ⟨w.heap.size, 1, none⟩ (.slice ao5 s cap5)) := by
              refine ⟨HB5.out.os, HB5.out.tape, HB5.out.output, by have := HB5.out.size; simpa [World.setCell] using this, fun k hk => ?_⟩
              rw [Below.heap_setCell _ _ _ _ (by show k ≠ w.heap.size; omega), Below.heap_setCell _ _ _ _ (by show k ≠ w.heap.size; omega)]
              exact HB5.out.block k hk
            refine bodyPost_ret (results_c3 rfl rfl (load_rec hblk)) rfl ?_
            refine ⟨ao5, cap5, a4, c4, ?_, ?_, ?_, hfr⟩
            · simp only [HTL.out, HDL.out]
              rfl
            · simp only [HTL.out]
              refine ownsRow_same HO5.out (fun g e => ?_)
              have hge := (HO5.out.lt g e).1
              rw [Below.heap_setCell _ _ _ _ (by show g ≠ w.heap.size; omega), Below.heap_setCell _ _ _ _ (by show g ≠ w.heap.size; omega)]
            · simp only [HDL.out]
              exact HB4.out
        · rw [if_pos he2]
          have he' : ((e2 : Int) == 0) = false := by simpa using he2
          go_enter Tryz.func80, Tryz.ntmps80
          go_wp2_with fail
          refine (HG.out _ ((Below.refl _ _).alloc (Nat.le_refl _) _)).mono ?_
          rintro e w1 ⟨rfl, hw1⟩
          subst hw1
          go_wp2_with fail
          refine (HRI.out _ ((Below.refl _ _).alloc (Nat.le_refl _) _)).mono ?_
          rintro e w1 ⟨rfl, hw1⟩
          subst hw1
          go_wp2_with fail
          refine (HG2.out _ ((Below.refl _ _).alloc (Nat.le_refl _) _)).mono ?_
          rintro e w1 ⟨rfl, hw1⟩
          subst hw1
          go_wp2_with fail
          exact bodyPost_ret (results_c3 rfl rfl (load_rec (heap_alloc_new w _))) rfl (nx_err w _ _ _)
  · rw [if_pos he]
    have he' : ((e : Int) == 0) = false := by simpa using he
    generalize b.length = m at *
    generalize A.length = n at *
    go_enter Tryz.func80, Tryz.ntmps80
    go_wp2_with fail
    refine (HG.out _ ((Below.refl _ _).alloc (Nat.le_refl _) _)).mono ?_
    rintro e w1 ⟨rfl, hw1⟩
    subst hw1
    go_wp2_with fail
    exact bodyPost_ret (results_c3 rfl rfl (load_rec (heap_alloc_new w _))) rfl (nx_err w _ _ _)
end Go.Proofs.YtdhmmllpioppfaaGreat.V
