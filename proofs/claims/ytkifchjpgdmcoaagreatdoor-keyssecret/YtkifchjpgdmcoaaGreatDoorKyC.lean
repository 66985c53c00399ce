/- Keys: five public keys; a commitment's keys. -/
import Derived.Test.YtkifchjpgdmcoaaGreatDoorKyP
import Derived.Test.YtkifchjpgdmcoaaGreatDoorKyS
namespace Go.Proofs.YtkifchjpgdmcoaaGreatDoor
open Go.RowKit
structure K5 where
 f : Bs
 r : Bs
 p : Bs
 l : Bs
 h : Bs
def K5.v (k : K5) : Value := .agg #[St k.f, St k.r, St k.p, St k.l, St k.h]
def zK : K5 := ⟨[], [], [], [], []⟩
set_option maxRecDepth 100000 in
theorem lit49 (s : Nat → Value) : (#[s 0, s 1, s 2, s 3, s 4, s 5, s 6, s 7, s 8, s 9, s 10, s 11, s 12, s 13, s 14, s 15, s 16, s 17, s 18, s 19, s 20, s 21, s 22, s 23, s 24, s 25, s 26, s 27, s 28, s 29, s 30, s 31, s 32, s 33, s 34, s 35, s 36, s 37, s 38, s 39, s 40, s 41, s 42, s 43, s 44, s 45, s 46, s 47, s 48] : Array Value) = ((List.range 49).map s).toArray := by rfl
theorem act49 (a : Act) (h : a.tmps.size = 49) (hd : a.defers = []) : a = ⟨(#[gt a 0, gt a 1, gt a 2, gt a 3, gt a 4, gt a 5, gt a 6, gt a 7, gt a 8, gt a 9, gt a 10, gt a 11, gt a 12, gt a 13, gt a 14, gt a 15, gt a 16, gt a 17, gt a 18, gt a 19, gt a 20, gt a 21, gt a 22, gt a 23, gt a 24, gt a 25, gt a 26, gt a 27, gt a 28, gt a 29, gt a 30, gt a 31, gt a 32, gt a 33, gt a 34, gt a 35, gt a 36, gt a 37, gt a 38, gt a 39, gt a 40, gt a 41, gt a 42, gt a 43, gt a 44, gt a 45, gt a 46, gt a 47, gt a 48] : Array Value), []⟩ := by
 cases a with
 | mk t d =>
   have h' : t.size = 49 := h
   obtain rfl : d = [] := hd
   congr 1
   refine Eq.trans ?_ (lit49 (fun i => gt ⟨t, []⟩ i)).symm
   apply Array.ext
   · simp [h']
   · intro i h1 h2
     simp [gt, h1]
set_option maxRecDepth 100000 in
theorem lit57 (s : Nat → Value) : (#[s 0, s 1, s 2, s 3, s 4, s 5, s 6, s 7, s 8, s 9, s 10, s 11, s 12, s 13, s 14, s 15, s 16, s 17, s 18, s 19, s 20, s 21, s 22, s 23, s 24, s 25, s 26, s 27, s 28, s 29, s 30, s 31, s 32, s 33, s 34, s 35, s 36, s 37, s 38, s 39, s 40, s 41, s 42, s 43, s 44, s 45, s 46, s 47, s 48, s 49, s 50, s 51, s 52, s 53, s 54, s 55, s 56] : Array Value) = ((List.range 57).map s).toArray := by rfl
theorem act57 (a : Act) (h : a.tmps.size = 57) (hd : a.defers = []) : a = ⟨(#[gt a 0, gt a 1, gt a 2, gt a 3, gt a 4, gt a 5, gt a 6, gt a 7, gt a 8, gt a 9, gt a 10, gt a 11, gt a 12, gt a 13, gt a 14, gt a 15, gt a 16, gt a 17, gt a 18, gt a 19, gt a 20, gt a 21, gt a 22, gt a 23, gt a 24, gt a 25, gt a 26, gt a 27, gt a 28, gt a 29, gt a 30, gt a 31, gt a 32, gt a 33, gt a 34, gt a 35, gt a 36, gt a 37, gt a 38, gt a 39, gt a 40, gt a 41, gt a 42, gt a 43, gt a 44, gt a 45, gt a 46, gt a 47, gt a 48, gt a 49, gt a 50, gt a 51, gt a 52, gt a 53, gt a 54, gt a 55, gt a 56] : Array Value), []⟩ := by
 cases a with
 | mk t d =>
   have h' : t.size = 57 := h
   obtain rfl : d = [] := hd
   congr 1
   refine Eq.trans ?_ (lit57 (fun i => gt ⟨t, []⟩ i)).symm
   apply Array.ext
   · simp [h']
   · intro i h1 h2
     simp [gt, h1]
def pubErr (s : S6) : Nat := errsAll (pbE s.f s.r s.p s.l s.h) pbC 0
def pubs5 (s : S6) : K5 × Nat := if pubErr s = 0 then (⟨(pubRes s.f).1, (pubRes s.r).1, (pubRes s.p).1, (pubRes s.l).1, (pubRes s.h).1⟩, 0) else (zK, pubErr s)
set_option maxHeartbeats 2000000 in
set_option maxRecDepth 100000 in
theorem public_any (s : S6) (w : World) : Calls Tryz.prog 7 #[s.v] w fun en w' => en = .returned (.tuple #[(pubs5 s).1.v, .int .i64 ((pubs5 s).2 : Int)]) ∧ Below w.heap.size w w' := by
 obtain ⟨x0, x1, x2, x3, x4, x5⟩ := s
 have HP : Hid (∀ e, pubErr ⟨x0, x1, x2, x3, x4, x5⟩ = e → pubs5 ⟨x0, x1, x2, x3, x4, x5⟩ = if e = 0 then (⟨(pubRes x0).1, (pubRes x1).1, (pubRes x2).1, (pubRes x3).1, (pubRes x4).1⟩, 0) else (zK, e)) := hid (fun e he => by unfold pubs5; rw [he])
 obtain ⟨R, hR⟩ : ∃ R, pubs5 ⟨x0, x1, x2, x3, x4, x5⟩ = R := ⟨_, rfl⟩
 rw [hR] at HP ⊢
 clear hR
 unfold S6.v
 obtain ⟨w0, hw0⟩ : ∃ w0, w0 = (w.alloc (.cells #[St x0, St x1, St x2, St x3, St x4, St x5] 24)).alloc (.cells #[St [], St [], St [], St [], St []] 33) := ⟨_, rfl⟩
 have hs0 : w0.heap.size = w.heap.size + 2 := by rw [hw0]; simp
 have hb0 : w0.heap[w.heap.size]? = some (.cells #[St x0, St x1, St x2, St x3, St x4, St x5] 24 (0, 0)) := by
   rw [hw0, (bel_alloc (w.alloc (.cells #[St x0, St x1, St x2, St x3, St x4, St x5] 24)) _).block _ (by simp)]; exact heap_alloc_new w _
 have hr0 : w0.heap[w.heap.size + 1]? = some (.cells #[St [], St [], St [], St [], St []] 33 (0, 0)) := by
   rw [hw0]
   have := heap_alloc_new (w.alloc (.cells #[St x0, St x1, St x2, St x3, St x4, St x5] 24)) (.cells #[St [], St [], St [], St [], St []] 33)
   simpa using this
 have hbl0 : Below w.heap.size w w0 := by rw [hw0]; exact (bel_alloc w _).alloc (by simp) _
 have hke : Ke w0 (w.heap.size + 3) (w.heap.size + 2) 0 ((w0.alloc (.cells #[.int .i64 0] 29)).alloc (.cells #[.pointer (some ⟨w.heap.size + 2, 0, none⟩)] 58)) := by
   refine ⟨(bel_alloc w0 _).alloc (by simp) _, by omega, by omega, by omega, ?_, ?_⟩
   · have := heap_alloc_new (w0.alloc (.cells #[.int .i64 0] 29)) (.cells #[.pointer (some ⟨w.heap.size + 2, 0, none⟩)] 58)
     have e : (w0.alloc (.cells #[.int .i64 0] 29)).heap.size = w.heap.size + 3 := by simp [hs0]
     rw [e] at this; exact this
   · rw [(bel_alloc (w0.alloc (.cells #[.int .i64 0] 29)) _).block _ (by simp [hs0])]
     have := heap_alloc_new w0 (.cells #[.int .i64 0] 29)
     rw [hs0] at this; exact this
 have HKE := hid hke
 have HB := hid hb0
 have HR0 := hid hr0
 have HBL := hid hbl0
 have HS := hid hs0
 have HW := hid hw0
 clear hke hb0 hr0 hbl0 hs0 hw0
 go_enter Tryz.func7, Tryz.ntmps7
 go_wp2_with (go_at_call 25; refine (keeping_any _ _).mono ?_; rintro e w1 ⟨rfl, rfl⟩)
 rename_i hK
 have HK := hid hK
 clear hK
 refine pbreg (x0 := x0) (x1 := x1) (x2 := x2) (x3 := x3) (x4 := x4) (x5 := x5) (sb := w.heap.size) (bx := w.heap.size + 3) (eb := w.heap.size + 2) (w0 := w0) rfl rfl HB.out (by show 44 ≤ 49; decide) (by have h := HKE.out; rw [HW.out] at h ⊢; exact h) ?_
 intro a W g ho hg h1 h2 h3 hk hb
 have e2 : gt a 2 = .pointer (some ⟨w.heap.size + 1, 0, none⟩) := (ho.slot (by decide)).trans rfl
 have e4 : gt a 4 = .pointer (some ⟨w.heap.size + 2, 0, none⟩) := (ho.slot (by decide)).trans rfl
 have e6 : gt a 6 = .pointer (some ⟨g, 0, none⟩) := hg
 have hP2 := HP.out _ rfl
 have hpe : pubErr ⟨x0, x1, x2, x3, x4, x5⟩ = errsAll (pbE x0 x1 x2 x3 x4) pbC 0 := rfl
 rw [hpe] at hP2
 clear hpe
 refine HK.out a W ?_
 rw [act49 a (ho.size.trans rfl) (ho.defers.trans rfl), e2, e4, e6]
 clear e2 e4 e6 hg HKE HK ho
 generalize errsAll (pbE x0 x1 x2 x3 x4) pbC 0 = er at hk hP2
 have hrb : W.heap[w.heap.size + 1]? = some (.cells #[St [], St [], St [], St [], St []] 33 (0, 0)) := (hk.bel.block _ (heap_lt HR0.out)).trans HR0.out
 have v1 : W.cell? ⟨w.heap.size + 2, 0, none⟩ = some (.int .i64 (er : Int)) := hk.vcell
 have hlt := heap_lt hrb
 have cr : ∀ o, W.cell? ⟨w.heap.size + 1, o, none⟩ = (#[St [], St [], St [], St [], St []] : Array Value)[o]? := fun o => cell_of_heap hrb o
 have c0 : W.cell? ⟨w.heap.size + 1, 0, none⟩ = some (St []) := cr 0
 have c1 : W.cell? ⟨w.heap.size + 1, 1, none⟩ = some (St []) := cr 1
 have c2 : W.cell? ⟨w.heap.size + 1, 2, none⟩ = some (St []) := cr 2
 have c3 : W.cell? ⟨w.heap.size + 1, 3, none⟩ = some (St []) := cr 3
 have c4 : W.cell? ⟨w.heap.size + 1, 4, none⟩ = some (St []) := cr 4
 have fr : ∀ o, W.frozen? ⟨w.heap.size + 1, o, none⟩ = false := fun o => frozen_of_heap hrb o
 have cg : ∀ o, W.cell? ⟨g, o, none⟩ = (#[St (pubRes x0).1, St (pubRes x1).1, St (pubRes x2).1, St (pubRes x3).1, St (pubRes x4).1] : Array Value)[o]? := fun o => cell_of_heap hb o
 have g0 : W.cell? ⟨g, 0, none⟩ = some (St (pubRes x0).1) := cg 0
 have g1 : W.cell? ⟨g, 1, none⟩ = some (St (pubRes x1).1) := cg 1
 have g2 : W.cell? ⟨g, 2, none⟩ = some (St (pubRes x2).1) := cg 2
 have g3 : W.cell? ⟨g, 3, none⟩ = some (St (pubRes x3).1) := cg 3
 have g4 : W.cell? ⟨g, 4, none⟩ = some (St (pubRes x4).1) := cg 4
 have HBW := hid (HBL.out.trans (hk.bel.mono HBL.out.size))
 clear cr cg hrb hb hk HP HB HR0 HBL HS HW h1 h2 h3
 have hm : ((er : Int) == 0) = decide (er = 0) := by
   by_cases h : er = 0
   · subst h; rfl
   · rw [decide_eq_false h]; simpa using h
 by_cases he : er = 0
 · subst he
   have HP2 : Hid (R = (⟨(pubRes x0).1, (pubRes x1).1, (pubRes x2).1, (pubRes x3).1, (pubRes x4).1⟩, 0)) := hid (by rw [hP2]; rfl)
   clear hP2 hm
   go_wp2_with fail
   refine bodyPost_ret (v := .tuple #[.agg #[St (pubRes x0).1, St (pubRes x1).1, St (pubRes x2).1, St (pubRes x3).1, St (pubRes x4).1], .int .i64 0]) (by simp [results, Tryz.results7, go_sem, c0, c1, c2, c3, c4]) rfl ⟨by rw [HP2.out]; rfl, ?_⟩
   exact ((((HBW.out.setCell (by simp) _).setCell (by simp) _).setCell (by simp) _).setCell (by simp) _).setCell (by simp) _
 · have HP2 : Hid (R = (zK, er)) := hid (by rw [hP2, if_neg he])
   have q1 : ((er : Int) == 0) = false := by rw [hm, decide_eq_false he]
   have q2 : ¬ (er : Int) = 0 := by omega
   clear hP2 hm he
   go_wp2_with fail
   go_region
   all_goals (try go_wp2_with fail)
   all_goals refine bodyPost_ret (v := .tuple #[.agg #[St [], St [], St [], St [], St []], .int .i64 (er : Int)]) (by simp [results, Tryz.results7, go_sem, c0, c1, c2, c3, c4]) rfl ⟨by rw [HP2.out]; rfl, ?_⟩
   all_goals exact (((((HBW.out.setCell (by simp) _).setCell (by simp) _).setCell (by simp) _).setCell (by simp) _).setCell (by simp) _).drew
def setErr (own oth : K5) (pt : Bs) : Nat := errsAll (sbE own.l own.h oth.r oth.p oth.h pt) sbC 0
def setRes (own oth : K5) (pt : Bs) : K5 × Nat := if setErr own oth pt = 0 then (⟨(jointRes oth.r pt).1, (boundRes own.l pt).1, (boundRes own.h pt).1, (boundRes oth.h pt).1, (pkRes oth.p).1⟩, 0) else (zK, setErr own oth pt)
set_option maxHeartbeats 2000000 in
set_option maxRecDepth 100000 in
theorem set_any (own oth : K5) (pt : Bs) (w : World) : Calls Tryz.prog 23 #[own.v, oth.v, St pt] w fun en w' => en = .returned (.tuple #[(setRes own oth pt).1.v, .int .i64 ((setRes own oth pt).2 : Int)]) ∧ Below w.heap.size w w' := by
 obtain ⟨o0, o1, o2, o3, o4⟩ := own
 obtain ⟨q0, q1, q2, q3, q4⟩ := oth
 have HP : Hid (∀ e, setErr ⟨o0, o1, o2, o3, o4⟩ ⟨q0, q1, q2, q3, q4⟩ pt = e → setRes ⟨o0, o1, o2, o3, o4⟩ ⟨q0, q1, q2, q3, q4⟩ pt = if e = 0 then (⟨(jointRes q1 pt).1, (boundRes o3 pt).1, (boundRes o4 pt).1, (boundRes q4 pt).1, (pkRes q2).1⟩, 0) else (zK, e)) := hid (fun e he => by unfold setRes; rw [he])
 obtain ⟨R, hR⟩ : ∃ R, setRes ⟨o0, o1, o2, o3, o4⟩ ⟨q0, q1, q2, q3, q4⟩ pt = R := ⟨_, rfl⟩
 rw [hR] at HP ⊢
 clear hR
 unfold K5.v
 obtain ⟨wa, hwa⟩ : ∃ wa, wa = w.alloc (.cells #[St o0, St o1, St o2, St o3, St o4] 33) := ⟨_, rfl⟩
 obtain ⟨wb, hwb⟩ : ∃ wb, wb = wa.alloc (.cells #[St q0, St q1, St q2, St q3, St q4] 33) := ⟨_, rfl⟩
 obtain ⟨w0, hw0⟩ : ∃ w0, w0 = wb.alloc (.cells #[St [], St [], St [], St [], St []] 26) := ⟨_, rfl⟩
 have hsa : wa.heap.size = w.heap.size + 1 := by rw [hwa]; simp
 have hsb : wb.heap.size = w.heap.size + 2 := by rw [hwb]; simp [hsa]
 have hs0 : w0.heap.size = w.heap.size + 3 := by rw [hw0]; simp [hsb]
 have ba : wa.heap[w.heap.size]? = some (.cells #[St o0, St o1, St o2, St o3, St o4] 33 (0, 0)) := by rw [hwa]; exact heap_alloc_new w _
 have bb : wb.heap[w.heap.size + 1]? = some (.cells #[St q0, St q1, St q2, St q3, St q4] 33 (0, 0)) := by rw [hwb, ← hsa]; exact heap_alloc_new wa _
 have la : Below wa.heap.size wa wb := by rw [hwb]; exact bel_alloc wa _
 have lb : Below wb.heap.size wb w0 := by rw [hw0]; exact bel_alloc wb _
 have hb0 : w0.heap[w.heap.size]? = some (.cells #[St o0, St o1, St o2, St o3, St o4] 33 (0, 0)) := (lb.block _ (by omega)).trans ((la.block _ (by omega)).trans ba)
 have hb1 : w0.heap[w.heap.size + 1]? = some (.cells #[St q0, St q1, St q2, St q3, St q4] 33 (0, 0)) := (lb.block _ (by omega)).trans bb
 have hr0 : w0.heap[w.heap.size + 2]? = some (.cells #[St [], St [], St [], St [], St []] 26 (0, 0)) := by rw [hw0, ← hsb]; exact heap_alloc_new wb _
 have hbl0 : Below w.heap.size w w0 := (by rw [hwa]; exact bel_alloc w _ : Below w.heap.size w wa).trans ((la.trans (lb.mono (by omega))).mono (by omega))
 have hke : Ke w0 (w.heap.size + 4) (w.heap.size + 3) 0 ((w0.alloc (.cells #[.int .i64 0] 29)).alloc (.cells #[.pointer (some ⟨w.heap.size + 3, 0, none⟩)] 58)) := by
   refine ⟨(bel_alloc w0 _).alloc (by simp) _, by omega, by omega, by omega, ?_, ?_⟩
   · have := heap_alloc_new (w0.alloc (.cells #[.int .i64 0] 29)) (.cells #[.pointer (some ⟨w.heap.size + 3, 0, none⟩)] 58)
     have e : (w0.alloc (.cells #[.int .i64 0] 29)).heap.size = w.heap.size + 4 := by simp [hs0]
     rw [e] at this; exact this
   · rw [(bel_alloc (w0.alloc (.cells #[.int .i64 0] 29)) _).block _ (by simp [hs0])]
     have := heap_alloc_new w0 (.cells #[.int .i64 0] 29)
     rw [hs0] at this; exact this
 have HW : Hid (w0 = ((w.alloc (.cells #[St o0, St o1, St o2, St o3, St o4] 33)).alloc (.cells #[St q0, St q1, St q2, St q3, St q4] 33)).alloc (.cells #[St [], St [], St [], St [], St []] 26)) := hid (by rw [hw0, hwb, hwa])
 have HKE := hid hke
 have HB := hid hb0
 have HB1 := hid hb1
 have HR0 := hid hr0
 have HBL := hid hbl0
 clear hke hb0 hb1 hr0 hbl0 hs0 hw0 hwb hwa hsa hsb ba bb la lb wa wb
 go_enter Tryz.func23, Tryz.ntmps23
 go_wp2_with (go_at_call 25; refine (keeping_any _ _).mono ?_; rintro e w1 ⟨rfl, rfl⟩)
 rename_i hK
 have HK := hid hK
 clear hK
 refine sbreg (o0 := o0) (o1 := o1) (o2 := o2) (o3 := o3) (o4 := o4) (q0 := q0) (q1 := q1) (q2 := q2) (q3 := q3) (q4 := q4) (pt := pt) (sb := w.heap.size) (tb := w.heap.size + 1) (bx := w.heap.size + 4) (eb := w.heap.size + 3) (w0 := w0) rfl rfl rfl rfl HB.out HB1.out (by show 52 ≤ 57; decide) (by have h := HKE.out; rw [HW.out] at h ⊢; exact h) ?_
 intro a W g ho hg h1 h2 h3 hk hb
 have e2 : gt a 6 = .pointer (some ⟨w.heap.size + 2, 0, none⟩) := (ho.slot (by decide)).trans rfl
 have e4 : gt a 8 = .pointer (some ⟨w.heap.size + 3, 0, none⟩) := (ho.slot (by decide)).trans rfl
 have e6 : gt a 10 = .pointer (some ⟨g, 0, none⟩) := hg
 have hP2 := HP.out _ rfl
 have hpe : setErr ⟨o0, o1, o2, o3, o4⟩ ⟨q0, q1, q2, q3, q4⟩ pt = errsAll (sbE o3 o4 q1 q2 q4 pt) sbC 0 := rfl
 rw [hpe] at hP2
 clear hpe
 refine HK.out a W ?_
 rw [act57 a (ho.size.trans rfl) (ho.defers.trans rfl), e2, e4, e6]
 clear e2 e4 e6 hg HKE HK ho
 generalize errsAll (sbE o3 o4 q1 q2 q4 pt) sbC 0 = er at hk hP2
 have hrb : W.heap[w.heap.size + 2]? = some (.cells #[St [], St [], St [], St [], St []] 26 (0, 0)) := (hk.bel.block _ (heap_lt HR0.out)).trans HR0.out
 have v1 : W.cell? ⟨w.heap.size + 3, 0, none⟩ = some (.int .i64 (er : Int)) := hk.vcell
 have hlt := heap_lt hrb
 have cr : ∀ o, W.cell? ⟨w.heap.size + 2, o, none⟩ = (#[St [], St [], St [], St [], St []] : Array Value)[o]? := fun o => cell_of_heap hrb o
 have c0 : W.cell? ⟨w.heap.size + 2, 0, none⟩ = some (St []) := cr 0
 have c1 : W.cell? ⟨w.heap.size + 2, 1, none⟩ = some (St []) := cr 1
 have c2 : W.cell? ⟨w.heap.size + 2, 2, none⟩ = some (St []) := cr 2
 have c3 : W.cell? ⟨w.heap.size + 2, 3, none⟩ = some (St []) := cr 3
 have c4 : W.cell? ⟨w.heap.size + 2, 4, none⟩ = some (St []) := cr 4
 have fr : ∀ o, W.frozen? ⟨w.heap.size + 2, o, none⟩ = false := fun o => frozen_of_heap hrb o
 have cg : ∀ o, W.cell? ⟨g, o, none⟩ = (#[St (jointRes q1 pt).1, St (boundRes o3 pt).1, St (boundRes o4 pt).1, St (boundRes q4 pt).1, St (pkRes q2).1] : Array Value)[o]? := fun o => cell_of_heap hb o
 have g0 : W.cell? ⟨g, 0, none⟩ = some (St (jointRes q1 pt).1) := cg 0
 have g1 : W.cell? ⟨g, 1, none⟩ = some (St (boundRes o3 pt).1) := cg 1
 have g2 : W.cell? ⟨g, 2, none⟩ = some (St (boundRes o4 pt).1) := cg 2
 have g3 : W.cell? ⟨g, 3, none⟩ = some (St (boundRes q4 pt).1) := cg 3
 have g4 : W.cell? ⟨g, 4, none⟩ = some (St (pkRes q2).1) := cg 4
 have HBW := hid (HBL.out.trans (hk.bel.mono HBL.out.size))
 clear cr cg hrb hb hk HP HB HB1 HR0 HBL HW h1 h2 h3
 have hm : ((er : Int) == 0) = decide (er = 0) := by
   by_cases h : er = 0
   · subst h; rfl
   · rw [decide_eq_false h]; simpa using h
 by_cases he : er = 0
 · subst he
   have HP2 : Hid (R = (⟨(jointRes q1 pt).1, (boundRes o3 pt).1, (boundRes o4 pt).1, (boundRes q4 pt).1, (pkRes q2).1⟩, 0)) := hid (by rw [hP2]; rfl)
   clear hP2 hm
   go_wp2_with fail
   refine bodyPost_ret (v := .tuple #[.agg #[St (jointRes q1 pt).1, St (boundRes o3 pt).1, St (boundRes o4 pt).1, St (boundRes q4 pt).1, St (pkRes q2).1], .int .i64 0]) (by simp [results, Tryz.results23, go_sem, c0, c1, c2, c3, c4]) rfl ⟨by rw [HP2.out]; rfl, ?_⟩
   exact ((((HBW.out.setCell (by simp) _).setCell (by simp) _).setCell (by simp) _).setCell (by simp) _).setCell (by simp) _
 · have HP2 : Hid (R = (zK, er)) := hid (by rw [hP2, if_neg he])
   have q1 : ((er : Int) == 0) = false := by rw [hm, decide_eq_false he]
   have q2 : ¬ (er : Int) = 0 := by omega
   clear hP2 hm he
   go_wp2_with fail
   go_region
   all_goals (try go_wp2_with fail)
   all_goals refine bodyPost_ret (v := .tuple #[.agg #[St [], St [], St [], St [], St []], .int .i64 (er : Int)]) (by simp [results, Tryz.results23, go_sem, c0, c1, c2, c3, c4]) rfl ⟨by rw [HP2.out]; rfl, ?_⟩
   all_goals exact (((((HBW.out.setCell (by simp) _).setCell (by simp) _).setCell (by simp) _).setCell (by simp) _).setCell (by simp) _).drew
end Go.Proofs.YtkifchjpgdmcoaaGreatDoor
