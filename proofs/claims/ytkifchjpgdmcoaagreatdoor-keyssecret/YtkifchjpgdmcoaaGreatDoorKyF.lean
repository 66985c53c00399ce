/- Keys: the document's five public keys. -/
import Derived.Test.YtkifchjpgdmcoaaGreatDoorKyEAll
import Derived.Test.YtkifchjpgdmcoaaGreatDoorKyUAll
import Derived.Test.YtkifchjpgdmcoaaGreatDoorKyC
namespace Go.Proofs.YtkifchjpgdmcoaaGreatDoor
open Go.RowKit
def fe (er : Nat → Nat) (e : Nat) : Nat → Nat
 | 0 => e
 | k + 1 => firstN (fe er e k) (er k)
theorem fe_zero (er : Nat → Nat) : ∀ n, (∀ j, j < n → er j = 0) → fe er 0 n = 0 := by
 intro n
 induction n with
 | zero => intro _; rfl
 | succ n ih => intro h; rw [fe, ih (fun j hj => h j (by omega)), h n (by omega)]; rfl
theorem fe_stays (er : Nat → Nat) (e : Nat) (he : e ≠ 0) : ∀ n, fe er e n = e := by
 intro n
 induction n with
 | zero => rfl
 | succ n ih => rw [fe, ih, firstN, if_neg he]
theorem fe_at (er : Nat → Nat) {i : Nat} (h0 : ∀ j, j < i → er j = 0) (h1 : er i ≠ 0) : ∀ n, i < n → fe er 0 n = er i := by
 intro n
 induction n with
 | zero => intro h; omega
 | succ n ih =>
   intro h
   by_cases e : i = n
   · subst e
     rw [fe, fe_zero er i h0]
     rfl
   · rw [fe, ih (by omega), firstN, if_neg h1]
theorem below_own {w0 w w' : World} {e : TypeId} {size : Nat} {v : Value} {n : Nat} {xs : List Value} (hb : Below w0.heap.size w0 w) (ho : w.ownsRow w0.heap.size e size v n xs) (hg : w.grownBy w' v.ownBlock) : Below w0.heap.size w0 w' :=
 ⟨hg.os.trans hb.os, hg.tape.trans hb.tape, hg.output.trans hb.output, Nat.le_trans hb.size hg.size, fun k hk => (hg.block k (Nat.lt_of_lt_of_le hk hb.size) (fun e => by have := (ho.lt k e.symm).1; omega)).trans (hb.block k hk)⟩
abbrev TR (base : Nat) (v : Value) (ts : List Bs) (w : World) : Prop := w.ownsRow base 22 1 v ts.length (ts.map St)
theorem TR.below {base : Nat} {v : Value} {ts : List Bs} {w w' : World} (h : TR base v ts w) (hb : Below w.heap.size w w') : TR base v ts w' := ownsRow_of_heap h (fun k hk => hb.block k hk)
theorem TR.nil (base : Nat) (w : World) : TR base (.slice none 0 0) [] w := World.ownsRow_nil w base 22 1
theorem TR.cells {base : Nat} {v : Value} {ts : List Bs} {w : World} (h : TR base v ts w) (hn : ts ≠ []) : ∃ g cap, v = .slice (some ⟨g, 0, none⟩) ts.length cap ∧ base ≤ g ∧ g < w.heap.size ∧ ∀ i (hi : i < ts.length), w.cell? ⟨g, i, none⟩ = some (St ts[i]) := by
 obtain ⟨ao, kc, rfl, _, hk⟩ := own_row h
 obtain ⟨g, cur, rfl, hb, hg, hc, hh⟩ := hk hn
 exact ⟨g, kc, rfl, hb, hg, fun i hi => by rw [cell_of_heap hc]; exact hh i hi⟩
set_option maxRecDepth 100000 in
theorem lit55 (s : Nat → Value) : (#[s 0, s 1, s 2, s 3, s 4, s 5, s 6, s 7, s 8, s 9, s 10, s 11, s 12, s 13, s 14, s 15, s 16, s 17, s 18, s 19, s 20, s 21, s 22, s 23, s 24, s 25, s 26, s 27, s 28, s 29, s 30, s 31, s 32, s 33, s 34, s 35, s 36, s 37, s 38, s 39, s 40, s 41, s 42, s 43, s 44, s 45, s 46, s 47, s 48, s 49, s 50, s 51, s 52, s 53, s 54] : Array Value) = ((List.range 55).map s).toArray := by rfl
theorem act55 (a : Act) (h : a.tmps.size = 55) (hd : a.defers = []) : a = ⟨(#[gt a 0, gt a 1, gt a 2, gt a 3, gt a 4, gt a 5, gt a 6, gt a 7, gt a 8, gt a 9, gt a 10, gt a 11, gt a 12, gt a 13, gt a 14, gt a 15, gt a 16, gt a 17, gt a 18, gt a 19, gt a 20, gt a 21, gt a 22, gt a 23, gt a 24, gt a 25, gt a 26, gt a 27, gt a 28, gt a 29, gt a 30, gt a 31, gt a 32, gt a 33, gt a 34, gt a 35, gt a 36, gt a 37, gt a 38, gt a 39, gt a 40, gt a 41, gt a 42, gt a 43, gt a 44, gt a 45, gt a 46, gt a 47, gt a 48, gt a 49, gt a 50, gt a 51, gt a 52, gt a 53, gt a 54] : Array Value), []⟩ := by
 cases a with
 | mk t d =>
   have h' : t.size = 55 := h
   obtain rfl : d = [] := hd
   congr 1
   refine Eq.trans ?_ (lit55 (fun i => gt ⟨t, []⟩ i)).symm
   apply Array.ext
   · simp [h']
   · intro i h1 h2
     simp [gt, h1]
set_option maxRecDepth 100000 in
theorem lit66 (s : Nat → Value) : (#[s 0, s 1, s 2, s 3, s 4, s 5, s 6, s 7, s 8, s 9, s 10, s 11, s 12, s 13, s 14, s 15, s 16, s 17, s 18, s 19, s 20, s 21, s 22, s 23, s 24, s 25, s 26, s 27, s 28, s 29, s 30, s 31, s 32, s 33, s 34, s 35, s 36, s 37, s 38, s 39, s 40, s 41, s 42, s 43, s 44, s 45, s 46, s 47, s 48, s 49, s 50, s 51, s 52, s 53, s 54, s 55, s 56, s 57, s 58, s 59, s 60, s 61, s 62, s 63, s 64, s 65] : Array Value) = ((List.range 66).map s).toArray := by rfl
theorem act66 (a : Act) (h : a.tmps.size = 66) (hd : a.defers = []) : a = ⟨(#[gt a 0, gt a 1, gt a 2, gt a 3, gt a 4, gt a 5, gt a 6, gt a 7, gt a 8, gt a 9, gt a 10, gt a 11, gt a 12, gt a 13, gt a 14, gt a 15, gt a 16, gt a 17, gt a 18, gt a 19, gt a 20, gt a 21, gt a 22, gt a 23, gt a 24, gt a 25, gt a 26, gt a 27, gt a 28, gt a 29, gt a 30, gt a 31, gt a 32, gt a 33, gt a 34, gt a 35, gt a 36, gt a 37, gt a 38, gt a 39, gt a 40, gt a 41, gt a 42, gt a 43, gt a 44, gt a 45, gt a 46, gt a 47, gt a 48, gt a 49, gt a 50, gt a 51, gt a 52, gt a 53, gt a 54, gt a 55, gt a 56, gt a 57, gt a 58, gt a 59, gt a 60, gt a 61, gt a 62, gt a 63, gt a 64, gt a 65] : Array Value), []⟩ := by
 cases a with
 | mk t d =>
   have h' : t.size = 66 := h
   obtain rfl : d = [] := hd
   congr 1
   refine Eq.trans ?_ (lit66 (fun i => gt ⟨t, []⟩ i)).symm
   apply Array.ext
   · simp [h']
   · intro i h1 h2
     simp [gt, h1]
def S6.at (s : S6) : Nat → Bs
 | 0 => s.f
 | 1 => s.r
 | 2 => s.p
 | 3 => s.l
 | _ => s.h
def pubsL (s : S6) : Nat → List Bs
 | 0 => []
 | k + 1 => pubsL s k ++ [(pubRes (s.at k)).1]
theorem pubsL_len (s : S6) : ∀ k, (pubsL s k).length = k := by
 intro k
 induction k with
 | zero => rfl
 | succ k ih => simp [pubsL, ih]
theorem pubErr_fe (s : S6) : pubErr s = fe (fun j => (pubRes (s.at j)).2) 0 5 := rfl
theorem pubs5_ok {s : S6} (h : ∀ j, j < 5 → (pubRes (s.at j)).2 = 0) : pubs5 s = (⟨(pubRes s.f).1, (pubRes s.r).1, (pubRes s.p).1, (pubRes s.l).1, (pubRes s.h).1⟩, 0) := by
 unfold pubs5
 rw [pubErr_fe, fe_zero _ 5 h, if_pos rfl]
theorem pubs5_no {s : S6} {i : Nat} (hi : i < 5) (h0 : ∀ j, j < i → (pubRes (s.at j)).2 = 0) (h1 : (pubRes (s.at i)).2 ≠ 0) : pubs5 s = (zK, (pubRes (s.at i)).2) := by
 unfold pubs5
 rw [pubErr_fe, fe_at _ (i := i) h0 h1 5 hi, if_neg h1]
set_option maxHeartbeats 4000000 in
set_option maxRecDepth 100000 in
theorem rpublic5_any (s : S6) (w : World) : Calls Tryz.prog 40 #[s.v] w fun en w' => en = .returned (.tuple #[(pubs5 s).1.v, .int .i64 ((pubs5 s).2 : Int)]) ∧ Below w.heap.size w w' := by
 obtain ⟨R, hR⟩ : ∃ R, pubs5 s = R := ⟨_, rfl⟩
 have HNO : Hid (∀ i, i < 5 → (∀ j, j < i → (pubRes (s.at j)).2 = 0) → (pubRes (s.at i)).2 ≠ 0 → R = (zK, (pubRes (s.at i)).2)) := hid (fun i hi h0 h1 => by rw [← hR]; exact pubs5_no hi h0 h1)
 have HOK : Hid ((∀ j, j < 5 → (pubRes (s.at j)).2 = 0) → R = (⟨(pubRes s.f).1, (pubRes s.r).1, (pubRes s.p).1, (pubRes s.l).1, (pubRes s.h).1⟩, 0)) := hid (fun h => by rw [← hR]; exact pubs5_ok h)
 rw [hR]
 clear hR
 obtain ⟨wa, hwa⟩ : ∃ wa, wa = w.alloc (.cells #[St s.f, St s.r, St s.p, St s.l, St s.h, St s.s] 24) := ⟨_, rfl⟩
 obtain ⟨wb, hwb⟩ : ∃ wb, wb = wa.alloc (.cells #[St [], St [], St [], St [], St []] 33) := ⟨_, rfl⟩
 obtain ⟨w0, hw0⟩ : ∃ w0, w0 = wb.alloc (.cells #[St s.f, St s.r, St s.p, St s.l, St s.h] 22) := ⟨_, rfl⟩
 have sa : wa.heap.size = w.heap.size + 1 := by rw [hwa]; simp
 have sb : wb.heap.size = w.heap.size + 2 := by rw [hwb]; simp [sa]
 have s0 : w0.heap.size = w.heap.size + 3 := by rw [hw0]; simp [sb]
 have la : Below w.heap.size w wa := by rw [hwa]; exact bel_alloc w _
 have lb' : Below wa.heap.size wa wb := by rw [hwb]; exact bel_alloc wa _
 have lc : Below wb.heap.size wb w0 := by rw [hw0]; exact bel_alloc wb _
 have hr0 : w0.heap[w.heap.size + 1]? = some (.cells #[St [], St [], St [], St [], St []] 33 (0, 0)) := by rw [lc.block _ (by omega), hwb, ← sa]; exact heap_alloc_new wa _
 have ht0 : w0.heap[w.heap.size + 2]? = some (.cells #[St s.f, St s.r, St s.p, St s.l, St s.h] 22 (0, 0)) := by rw [hw0, ← sb]; exact heap_alloc_new wb _
 have hbl : Below w.heap.size w w0 := la.trans ((lb'.trans (lc.mono (by omega))).mono (by omega))
 have HW : Hid (w0 = ((w.alloc (.cells #[St s.f, St s.r, St s.p, St s.l, St s.h, St s.s] 24)).alloc (.cells #[St [], St [], St [], St [], St []] 33)).alloc (.cells #[St s.f, St s.r, St s.p, St s.l, St s.h] 22)) := hid (by rw [hw0, hwb, hwa])
 have HR0 := hid hr0
 have HT0 := hid ht0
 have HBL := hid hbl
 have HS0 := hid s0
 clear hr0 ht0 hbl s0 sa sb la lb' lc hw0 hwb hwa wa wb
 unfold S6.v
 go_enter Tryz.func40, Tryz.ntmps40
 go_wp2_with fail
 obtain ⟨wz, hwz⟩ : ∃ wz, wz = w0 := ⟨_, rfl⟩
 have HWZ := hid hwz
 clear hwz
 go_loopg [4, 21] 5 (fun gg v4 v21 wr => ∃ i : Nat, i ≤ 5 ∧ gg = 5 - i ∧ v21 = .int .i64 (i : Int) ∧ Below w0.heap.size w0 wr ∧ TR w0.heap.size v4 (pubsL s i) wr ∧ ∀ j, j < i → (pubRes (s.at j)).2 = 0)
 case atStart => exact ⟨0, by omega, by omega, rfl, by rw [HW.out]; exact Below.refl _ _, TR.nil _ _, fun j hj => by omega⟩
 case round =>
   obtain ⟨i, hi, rfl, rfl, hbel, htr, hz0⟩ := hrel
   have HBE := hid hbel
   have HTR := hid htr
   have HZ := hid hz0
   clear hbel htr hz0
   by_cases hil : i < 5
   · rcases (show i = 0 ∨ i = 1 ∨ i = 2 ∨ i = 3 ∨ i = 4 by omega) with h | h | h | h | h
     · obtain rfl : i = 0 := by omega
       generalize hz : ((0 : Nat) : Int) = z
       obtain rfl : (0 : Int) = z := hz
       have hcl : wr.cell? ⟨w.heap.size + 2, 0, none⟩ = some (St (s.at 0)) := by rw [cell_of_heap ((HBE.out.block _ (heap_lt HT0.out)).trans HT0.out)]; rfl
       have HPU := hid (rpubs_any (s.at 0) wr)
       obtain ⟨⟨t, m⟩, hx⟩ : ∃ r, pubRes (s.at 0) = r := ⟨_, rfl⟩
       have HX := hid hx
       rw [hx] at HPU
       clear hx hi hil
       generalize s.at 0 = x at hcl HPU
       by_cases he : m = 0
       · have hlen := pubsL_len s 0
         obtain ⟨i0, hi0, hz0, hz1, hz2⟩ := info_parts Tryz.info22
         have HPL : Hid (pubsL s (0 + 1) = pubsL s 0 ++ [t]) := hid (by show pubsL s 0 ++ [(pubRes (s.at 0)).1] = _; rw [HX.out])
         have HT2 := hid (fun (W : World) (hb : Below wr.heap.size wr W) => (HTR.out.below hb).below (bel_alloc W (.cells #[St t] 22)))
         have HB2 := hid (fun (W : World) (hb : Below wr.heap.size wr W) => (HBE.out.trans (hb.mono HBE.out.size)).trans ((bel_alloc W (.cells #[St t] 22)).mono (Nat.le_trans HBE.out.size hb.size)))
         have HLEN := hid hlen
         generalize pubsL s 0 = ts at HT2 HLEN HPL
         subst he
         clear hlen HTR HNO HOK
         go_wp2_with (first | (go_at_call 66; refine HPU.out.mono ?_; rintro _ w3 ⟨rfl, hb3⟩; have HB3 := hid hb3; have HTT := hid (HT2.out w3 hb3); have HBB := hid (HB2.out w3 hb3); clear hb3) | (at_builtin; refine wpList_append_own _ rfl (.tmp 34) (.tmp 36) 39 rfl w0.heap.size 22 i0 (.string ⟨#[]⟩) 1 16 Tryz.underlying39 hi0 hz0 hz1 hz2 rfl (by decide) u4 ts.length (ts.map St) rfl HTT.out ⟨w3.heap.size, 0, none⟩ 1 1 [St t] rfl rfl (cell_one_new _ _ _) (by intro u hu; simp at hu; subst hu; rfl) (by have := HLEN.out; unfold maxLen; omega) (by have := HLEN.out; omega) HBB.out.size ?_; intro v4 w4 hown4 hg4 _; have HN4 := hid hown4; have HG4 := hid (below_own HBB.out HTT.out hg4); clear hown4 hg4))
         go_roundg (5 - (0 + 1))
         case measure => omega
         case rel => exact ⟨0 + 1, by omega, rfl, rfl, HG4.out, by rw [HPL.out]; unfold TR; simpa using HN4.out, fun j hj => by rcases Nat.lt_or_ge j 0 with h | h; exact HZ.out j h; rw [show j = 0 by omega, HX.out]⟩
       · have HRR : Hid (R = (zK, m)) := hid (by have := HNO.out 0 (by omega) HZ.out (by rw [HX.out]; exact he); rw [HX.out] at this; exact this)
         have q1 : ((m : Int) == 0) = false := by simpa using he
         have q2 : ¬ (m : Int) = 0 := by omega
         have hrb : wr.heap[w.heap.size + 1]? = some (.cells #[St [], St [], St [], St [], St []] 33 (0, 0)) := (HBE.out.block _ (heap_lt HR0.out)).trans HR0.out
         have HRB := hid hrb
         have HRC := hid (fun (W : World) (hb : Below wr.heap.size wr W) => (⟨fun o => cell_of_heap ((hb.block _ (heap_lt hrb)).trans hrb) o, fun o => frozen_of_heap ((hb.block _ (heap_lt hrb)).trans hrb) o⟩ : (∀ o, W.cell? ⟨w.heap.size + 1, o, none⟩ = (#[St [], St [], St [], St [], St []] : Array Value)[o]?) ∧ ∀ o, W.frozen? ⟨w.heap.size + 1, o, none⟩ = false))
         clear hrb he HNO HOK HTR
         go_wp2_with (go_at_call 66; refine HPU.out.mono ?_; rintro _ w3 ⟨rfl, hb3⟩; have c0 : w3.cell? ⟨w.heap.size + 1, 0, none⟩ = some (St []) := (HRC.out w3 hb3).1 0; have c1 : w3.cell? ⟨w.heap.size + 1, 1, none⟩ = some (St []) := (HRC.out w3 hb3).1 1; have c2 : w3.cell? ⟨w.heap.size + 1, 2, none⟩ = some (St []) := (HRC.out w3 hb3).1 2; have c3 : w3.cell? ⟨w.heap.size + 1, 3, none⟩ = some (St []) := (HRC.out w3 hb3).1 3; have c4 : w3.cell? ⟨w.heap.size + 1, 4, none⟩ = some (St []) := (HRC.out w3 hb3).1 4; have fr := (HRC.out w3 hb3).2; have HB3 := hid (HBL.out.trans ((HBE.out.trans (hb3.mono HBE.out.size)).mono HBL.out.size)); clear hb3)
         refine bodyPost_ret (v := .tuple #[.agg #[St [], St [], St [], St [], St []], .int .i64 (m : Int)]) (by simp [results, Tryz.results40, go_sem, c0, c1, c2, c3, c4]) rfl ⟨by rw [HRR.out]; rfl, ?_⟩
         exact ((((HB3.out.setCell (by simp) _).setCell (by simp) _).setCell (by simp) _).setCell (by simp) _).setCell (by simp) _
     · obtain rfl : i = 1 := by omega
       generalize hz : ((1 : Nat) : Int) = z
       obtain rfl : (1 : Int) = z := hz
       have hcl : wr.cell? ⟨w.heap.size + 2, 1, none⟩ = some (St (s.at 1)) := by rw [cell_of_heap ((HBE.out.block _ (heap_lt HT0.out)).trans HT0.out)]; rfl
       have HPU := hid (rpubs_any (s.at 1) wr)
       obtain ⟨⟨t, m⟩, hx⟩ : ∃ r, pubRes (s.at 1) = r := ⟨_, rfl⟩
       have HX := hid hx
       rw [hx] at HPU
       clear hx hi hil
       generalize s.at 1 = x at hcl HPU
       by_cases he : m = 0
       · have hlen := pubsL_len s 1
         obtain ⟨i0, hi0, hz0, hz1, hz2⟩ := info_parts Tryz.info22
         have HPL : Hid (pubsL s (1 + 1) = pubsL s 1 ++ [t]) := hid (by show pubsL s 1 ++ [(pubRes (s.at 1)).1] = _; rw [HX.out])
         have HT2 := hid (fun (W : World) (hb : Below wr.heap.size wr W) => (HTR.out.below hb).below (bel_alloc W (.cells #[St t] 22)))
         have HB2 := hid (fun (W : World) (hb : Below wr.heap.size wr W) => (HBE.out.trans (hb.mono HBE.out.size)).trans ((bel_alloc W (.cells #[St t] 22)).mono (Nat.le_trans HBE.out.size hb.size)))
         have HLEN := hid hlen
         generalize pubsL s 1 = ts at HT2 HLEN HPL
         subst he
         clear hlen HTR HNO HOK
         go_wp2_with (first | (go_at_call 66; refine HPU.out.mono ?_; rintro _ w3 ⟨rfl, hb3⟩; have HB3 := hid hb3; have HTT := hid (HT2.out w3 hb3); have HBB := hid (HB2.out w3 hb3); clear hb3) | (at_builtin; refine wpList_append_own _ rfl (.tmp 34) (.tmp 36) 39 rfl w0.heap.size 22 i0 (.string ⟨#[]⟩) 1 16 Tryz.underlying39 hi0 hz0 hz1 hz2 rfl (by decide) u4 ts.length (ts.map St) rfl HTT.out ⟨w3.heap.size, 0, none⟩ 1 1 [St t] rfl rfl (cell_one_new _ _ _) (by intro u hu; simp at hu; subst hu; rfl) (by have := HLEN.out; unfold maxLen; omega) (by have := HLEN.out; omega) HBB.out.size ?_; intro v4 w4 hown4 hg4 _; have HN4 := hid hown4; have HG4 := hid (below_own HBB.out HTT.out hg4); clear hown4 hg4))
         go_roundg (5 - (1 + 1))
         case measure => omega
         case rel => exact ⟨1 + 1, by omega, rfl, rfl, HG4.out, by rw [HPL.out]; unfold TR; simpa using HN4.out, fun j hj => by rcases Nat.lt_or_ge j 1 with h | h; exact HZ.out j h; rw [show j = 1 by omega, HX.out]⟩
       · have HRR : Hid (R = (zK, m)) := hid (by have := HNO.out 1 (by omega) HZ.out (by rw [HX.out]; exact he); rw [HX.out] at this; exact this)
         have q1 : ((m : Int) == 0) = false := by simpa using he
         have q2 : ¬ (m : Int) = 0 := by omega
         have hrb : wr.heap[w.heap.size + 1]? = some (.cells #[St [], St [], St [], St [], St []] 33 (0, 0)) := (HBE.out.block _ (heap_lt HR0.out)).trans HR0.out
         have HRB := hid hrb
         have HRC := hid (fun (W : World) (hb : Below wr.heap.size wr W) => (⟨fun o => cell_of_heap ((hb.block _ (heap_lt hrb)).trans hrb) o, fun o => frozen_of_heap ((hb.block _ (heap_lt hrb)).trans hrb) o⟩ : (∀ o, W.cell? ⟨w.heap.size + 1, o, none⟩ = (#[St [], St [], St [], St [], St []] : Array Value)[o]?) ∧ ∀ o, W.frozen? ⟨w.heap.size + 1, o, none⟩ = false))
         clear hrb he HNO HOK HTR
         go_wp2_with (go_at_call 66; refine HPU.out.mono ?_; rintro _ w3 ⟨rfl, hb3⟩; have c0 : w3.cell? ⟨w.heap.size + 1, 0, none⟩ = some (St []) := (HRC.out w3 hb3).1 0; have c1 : w3.cell? ⟨w.heap.size + 1, 1, none⟩ = some (St []) := (HRC.out w3 hb3).1 1; have c2 : w3.cell? ⟨w.heap.size + 1, 2, none⟩ = some (St []) := (HRC.out w3 hb3).1 2; have c3 : w3.cell? ⟨w.heap.size + 1, 3, none⟩ = some (St []) := (HRC.out w3 hb3).1 3; have c4 : w3.cell? ⟨w.heap.size + 1, 4, none⟩ = some (St []) := (HRC.out w3 hb3).1 4; have fr := (HRC.out w3 hb3).2; have HB3 := hid (HBL.out.trans ((HBE.out.trans (hb3.mono HBE.out.size)).mono HBL.out.size)); clear hb3)
         refine bodyPost_ret (v := .tuple #[.agg #[St [], St [], St [], St [], St []], .int .i64 (m : Int)]) (by simp [results, Tryz.results40, go_sem, c0, c1, c2, c3, c4]) rfl ⟨by rw [HRR.out]; rfl, ?_⟩
         exact ((((HB3.out.setCell (by simp) _).setCell (by simp) _).setCell (by simp) _).setCell (by simp) _).setCell (by simp) _
     · obtain rfl : i = 2 := by omega
       generalize hz : ((2 : Nat) : Int) = z
       obtain rfl : (2 : Int) = z := hz
       have hcl : wr.cell? ⟨w.heap.size + 2, 2, none⟩ = some (St (s.at 2)) := by rw [cell_of_heap ((HBE.out.block _ (heap_lt HT0.out)).trans HT0.out)]; rfl
       have HPU := hid (rpubs_any (s.at 2) wr)
       obtain ⟨⟨t, m⟩, hx⟩ : ∃ r, pubRes (s.at 2) = r := ⟨_, rfl⟩
       have HX := hid hx
       rw [hx] at HPU
       clear hx hi hil
       generalize s.at 2 = x at hcl HPU
       by_cases he : m = 0
       · have hlen := pubsL_len s 2
         obtain ⟨i0, hi0, hz0, hz1, hz2⟩ := info_parts Tryz.info22
         have HPL : Hid (pubsL s (2 + 1) = pubsL s 2 ++ [t]) := hid (by show pubsL s 2 ++ [(pubRes (s.at 2)).1] = _; rw [HX.out])
         have HT2 := hid (fun (W : World) (hb : Below wr.heap.size wr W) => (HTR.out.below hb).below (bel_alloc W (.cells #[St t] 22)))
         have HB2 := hid (fun (W : World) (hb : Below wr.heap.size wr W) => (HBE.out.trans (hb.mono HBE.out.size)).trans ((bel_alloc W (.cells #[St t] 22)).mono (Nat.le_trans HBE.out.size hb.size)))
         have HLEN := hid hlen
         generalize pubsL s 2 = ts at HT2 HLEN HPL
         subst he
         clear hlen HTR HNO HOK
         go_wp2_with (first | (go_at_call 66; refine HPU.out.mono ?_; rintro _ w3 ⟨rfl, hb3⟩; have HB3 := hid hb3; have HTT := hid (HT2.out w3 hb3); have HBB := hid (HB2.out w3 hb3); clear hb3) | (at_builtin; refine wpList_append_own _ rfl (.tmp 34) (.tmp 36) 39 rfl w0.heap.size 22 i0 (.string ⟨#[]⟩) 1 16 Tryz.underlying39 hi0 hz0 hz1 hz2 rfl (by decide) u4 ts.length (ts.map St) rfl HTT.out ⟨w3.heap.size, 0, none⟩ 1 1 [St t] rfl rfl (cell_one_new _ _ _) (by intro u hu; simp at hu; subst hu; rfl) (by have := HLEN.out; unfold maxLen; omega) (by have := HLEN.out; omega) HBB.out.size ?_; intro v4 w4 hown4 hg4 _; have HN4 := hid hown4; have HG4 := hid (below_own HBB.out HTT.out hg4); clear hown4 hg4))
         go_roundg (5 - (2 + 1))
         case measure => omega
         case rel => exact ⟨2 + 1, by omega, rfl, rfl, HG4.out, by rw [HPL.out]; unfold TR; simpa using HN4.out, fun j hj => by rcases Nat.lt_or_ge j 2 with h | h; exact HZ.out j h; rw [show j = 2 by omega, HX.out]⟩
       · have HRR : Hid (R = (zK, m)) := hid (by have := HNO.out 2 (by omega) HZ.out (by rw [HX.out]; exact he); rw [HX.out] at this; exact this)
         have q1 : ((m : Int) == 0) = false := by simpa using he
         have q2 : ¬ (m : Int) = 0 := by omega
         have hrb : wr.heap[w.heap.size + 1]? = some (.cells #[St [], St [], St [], St [], St []] 33 (0, 0)) := (HBE.out.block _ (heap_lt HR0.out)).trans HR0.out
         have HRB := hid hrb
         have HRC := hid (fun (W : World) (hb : Below wr.heap.size wr W) => (⟨fun o => cell_of_heap ((hb.block _ (heap_lt hrb)).trans hrb) o, fun o => frozen_of_heap ((hb.block _ (heap_lt hrb)).trans hrb) o⟩ : (∀ o, W.cell? ⟨w.heap.size + 1, o, none⟩ = (#[St [], St [], St [], St [], St []] : Array Value)[o]?) ∧ ∀ o, W.frozen? ⟨w.heap.size + 1, o, none⟩ = false))
         clear hrb he HNO HOK HTR
         go_wp2_with (go_at_call 66; refine HPU.out.mono ?_; rintro _ w3 ⟨rfl, hb3⟩; have c0 : w3.cell? ⟨w.heap.size + 1, 0, none⟩ = some (St []) := (HRC.out w3 hb3).1 0; have c1 : w3.cell? ⟨w.heap.size + 1, 1, none⟩ = some (St []) := (HRC.out w3 hb3).1 1; have c2 : w3.cell? ⟨w.heap.size + 1, 2, none⟩ = some (St []) := (HRC.out w3 hb3).1 2; have c3 : w3.cell? ⟨w.heap.size + 1, 3, none⟩ = some (St []) := (HRC.out w3 hb3).1 3; have c4 : w3.cell? ⟨w.heap.size + 1, 4, none⟩ = some (St []) := (HRC.out w3 hb3).1 4; have fr := (HRC.out w3 hb3).2; have HB3 := hid (HBL.out.trans ((HBE.out.trans (hb3.mono HBE.out.size)).mono HBL.out.size)); clear hb3)
         refine bodyPost_ret (v := .tuple #[.agg #[St [], St [], St [], St [], St []], .int .i64 (m : Int)]) (by simp [results, Tryz.results40, go_sem, c0, c1, c2, c3, c4]) rfl ⟨by rw [HRR.out]; rfl, ?_⟩
         exact ((((HB3.out.setCell (by simp) _).setCell (by simp) _).setCell (by simp) _).setCell (by simp) _).setCell (by simp) _
     · obtain rfl : i = 3 := by omega
       generalize hz : ((3 : Nat) : Int) = z
       obtain rfl : (3 : Int) = z := hz
       have hcl : wr.cell? ⟨w.heap.size + 2, 3, none⟩ = some (St (s.at 3)) := by rw [cell_of_heap ((HBE.out.block _ (heap_lt HT0.out)).trans HT0.out)]; rfl
       have HPU := hid (rpubs_any (s.at 3) wr)
       obtain ⟨⟨t, m⟩, hx⟩ : ∃ r, pubRes (s.at 3) = r := ⟨_, rfl⟩
       have HX := hid hx
       rw [hx] at HPU
       clear hx hi hil
       generalize s.at 3 = x at hcl HPU
       by_cases he : m = 0
       · have hlen := pubsL_len s 3
         obtain ⟨i0, hi0, hz0, hz1, hz2⟩ := info_parts Tryz.info22
         have HPL : Hid (pubsL s (3 + 1) = pubsL s 3 ++ [t]) := hid (by show pubsL s 3 ++ [(pubRes (s.at 3)).1] = _; rw [HX.out])
         have HT2 := hid (fun (W : World) (hb : Below wr.heap.size wr W) => (HTR.out.below hb).below (bel_alloc W (.cells #[St t] 22)))
         have HB2 := hid (fun (W : World) (hb : Below wr.heap.size wr W) => (HBE.out.trans (hb.mono HBE.out.size)).trans ((bel_alloc W (.cells #[St t] 22)).mono (Nat.le_trans HBE.out.size hb.size)))
         have HLEN := hid hlen
         generalize pubsL s 3 = ts at HT2 HLEN HPL
         subst he
         clear hlen HTR HNO HOK
         go_wp2_with (first | (go_at_call 66; refine HPU.out.mono ?_; rintro _ w3 ⟨rfl, hb3⟩; have HB3 := hid hb3; have HTT := hid (HT2.out w3 hb3); have HBB := hid (HB2.out w3 hb3); clear hb3) | (at_builtin; refine wpList_append_own _ rfl (.tmp 34) (.tmp 36) 39 rfl w0.heap.size 22 i0 (.string ⟨#[]⟩) 1 16 Tryz.underlying39 hi0 hz0 hz1 hz2 rfl (by decide) u4 ts.length (ts.map St) rfl HTT.out ⟨w3.heap.size, 0, none⟩ 1 1 [St t] rfl rfl (cell_one_new _ _ _) (by intro u hu; simp at hu; subst hu; rfl) (by have := HLEN.out; unfold maxLen; omega) (by have := HLEN.out; omega) HBB.out.size ?_; intro v4 w4 hown4 hg4 _; have HN4 := hid hown4; have HG4 := hid (below_own HBB.out HTT.out hg4); clear hown4 hg4))
         go_roundg (5 - (3 + 1))
         case measure => omega
         case rel => exact ⟨3 + 1, by omega, rfl, rfl, HG4.out, by rw [HPL.out]; unfold TR; simpa using HN4.out, fun j hj => by rcases Nat.lt_or_ge j 3 with h | h; exact HZ.out j h; rw [show j = 3 by omega, HX.out]⟩
       · have HRR : Hid (R = (zK, m)) := hid (by have := HNO.out 3 (by omega) HZ.out (by rw [HX.out]; exact he); rw [HX.out] at this; exact this)
         have q1 : ((m : Int) == 0) = false := by simpa using he
         have q2 : ¬ (m : Int) = 0 := by omega
         have hrb : wr.heap[w.heap.size + 1]? = some (.cells #[St [], St [], St [], St [], St []] 33 (0, 0)) := (HBE.out.block _ (heap_lt HR0.out)).trans HR0.out
         have HRB := hid hrb
         have HRC := hid (fun (W : World) (hb : Below wr.heap.size wr W) => (⟨fun o => cell_of_heap ((hb.block _ (heap_lt hrb)).trans hrb) o, fun o => frozen_of_heap ((hb.block _ (heap_lt hrb)).trans hrb) o⟩ : (∀ o, W.cell? ⟨w.heap.size + 1, o, none⟩ = (#[St [], St [], St [], St [], St []] : Array Value)[o]?) ∧ ∀ o, W.frozen? ⟨w.heap.size + 1, o, none⟩ = false))
         clear hrb he HNO HOK HTR
         go_wp2_with (go_at_call 66; refine HPU.out.mono ?_; rintro _ w3 ⟨rfl, hb3⟩; have c0 : w3.cell? ⟨w.heap.size + 1, 0, none⟩ = some (St []) := (HRC.out w3 hb3).1 0; have c1 : w3.cell? ⟨w.heap.size + 1, 1, none⟩ = some (St []) := (HRC.out w3 hb3).1 1; have c2 : w3.cell? ⟨w.heap.size + 1, 2, none⟩ = some (St []) := (HRC.out w3 hb3).1 2; have c3 : w3.cell? ⟨w.heap.size + 1, 3, none⟩ = some (St []) := (HRC.out w3 hb3).1 3; have c4 : w3.cell? ⟨w.heap.size + 1, 4, none⟩ = some (St []) := (HRC.out w3 hb3).1 4; have fr := (HRC.out w3 hb3).2; have HB3 := hid (HBL.out.trans ((HBE.out.trans (hb3.mono HBE.out.size)).mono HBL.out.size)); clear hb3)
         refine bodyPost_ret (v := .tuple #[.agg #[St [], St [], St [], St [], St []], .int .i64 (m : Int)]) (by simp [results, Tryz.results40, go_sem, c0, c1, c2, c3, c4]) rfl ⟨by rw [HRR.out]; rfl, ?_⟩
         exact ((((HB3.out.setCell (by simp) _).setCell (by simp) _).setCell (by simp) _).setCell (by simp) _).setCell (by simp) _
     · obtain rfl : i = 4 := by omega
       generalize hz : ((4 : Nat) : Int) = z
       obtain rfl : (4 : Int) = z := hz
       have hcl : wr.cell? ⟨w.heap.size + 2, 4, none⟩ = some (St (s.at 4)) := by rw [cell_of_heap ((HBE.out.block _ (heap_lt HT0.out)).trans HT0.out)]; rfl
       have HPU := hid (rpubs_any (s.at 4) wr)
       obtain ⟨⟨t, m⟩, hx⟩ : ∃ r, pubRes (s.at 4) = r := ⟨_, rfl⟩
       have HX := hid hx
       rw [hx] at HPU
       clear hx hi hil
       generalize s.at 4 = x at hcl HPU
       by_cases he : m = 0
       · have hlen := pubsL_len s 4
         obtain ⟨i0, hi0, hz0, hz1, hz2⟩ := info_parts Tryz.info22
         have HPL : Hid (pubsL s (4 + 1) = pubsL s 4 ++ [t]) := hid (by show pubsL s 4 ++ [(pubRes (s.at 4)).1] = _; rw [HX.out])
         have HT2 := hid (fun (W : World) (hb : Below wr.heap.size wr W) => (HTR.out.below hb).below (bel_alloc W (.cells #[St t] 22)))
         have HB2 := hid (fun (W : World) (hb : Below wr.heap.size wr W) => (HBE.out.trans (hb.mono HBE.out.size)).trans ((bel_alloc W (.cells #[St t] 22)).mono (Nat.le_trans HBE.out.size hb.size)))
         have HLEN := hid hlen
         generalize pubsL s 4 = ts at HT2 HLEN HPL
         subst he
         clear hlen HTR HNO HOK
         go_wp2_with (first | (go_at_call 66; refine HPU.out.mono ?_; rintro _ w3 ⟨rfl, hb3⟩; have HB3 := hid hb3; have HTT := hid (HT2.out w3 hb3); have HBB := hid (HB2.out w3 hb3); clear hb3) | (at_builtin; refine wpList_append_own _ rfl (.tmp 34) (.tmp 36) 39 rfl w0.heap.size 22 i0 (.string ⟨#[]⟩) 1 16 Tryz.underlying39 hi0 hz0 hz1 hz2 rfl (by decide) u4 ts.length (ts.map St) rfl HTT.out ⟨w3.heap.size, 0, none⟩ 1 1 [St t] rfl rfl (cell_one_new _ _ _) (by intro u hu; simp at hu; subst hu; rfl) (by have := HLEN.out; unfold maxLen; omega) (by have := HLEN.out; omega) HBB.out.size ?_; intro v4 w4 hown4 hg4 _; have HN4 := hid hown4; have HG4 := hid (below_own HBB.out HTT.out hg4); clear hown4 hg4))
         go_roundg (5 - (4 + 1))
         case measure => omega
         case rel => exact ⟨4 + 1, by omega, rfl, rfl, HG4.out, by rw [HPL.out]; unfold TR; simpa using HN4.out, fun j hj => by rcases Nat.lt_or_ge j 4 with h | h; exact HZ.out j h; rw [show j = 4 by omega, HX.out]⟩
       · have HRR : Hid (R = (zK, m)) := hid (by have := HNO.out 4 (by omega) HZ.out (by rw [HX.out]; exact he); rw [HX.out] at this; exact this)
         have q1 : ((m : Int) == 0) = false := by simpa using he
         have q2 : ¬ (m : Int) = 0 := by omega
         have hrb : wr.heap[w.heap.size + 1]? = some (.cells #[St [], St [], St [], St [], St []] 33 (0, 0)) := (HBE.out.block _ (heap_lt HR0.out)).trans HR0.out
         have HRB := hid hrb
         have HRC := hid (fun (W : World) (hb : Below wr.heap.size wr W) => (⟨fun o => cell_of_heap ((hb.block _ (heap_lt hrb)).trans hrb) o, fun o => frozen_of_heap ((hb.block _ (heap_lt hrb)).trans hrb) o⟩ : (∀ o, W.cell? ⟨w.heap.size + 1, o, none⟩ = (#[St [], St [], St [], St [], St []] : Array Value)[o]?) ∧ ∀ o, W.frozen? ⟨w.heap.size + 1, o, none⟩ = false))
         clear hrb he HNO HOK HTR
         go_wp2_with (go_at_call 66; refine HPU.out.mono ?_; rintro _ w3 ⟨rfl, hb3⟩; have c0 : w3.cell? ⟨w.heap.size + 1, 0, none⟩ = some (St []) := (HRC.out w3 hb3).1 0; have c1 : w3.cell? ⟨w.heap.size + 1, 1, none⟩ = some (St []) := (HRC.out w3 hb3).1 1; have c2 : w3.cell? ⟨w.heap.size + 1, 2, none⟩ = some (St []) := (HRC.out w3 hb3).1 2; have c3 : w3.cell? ⟨w.heap.size + 1, 3, none⟩ = some (St []) := (HRC.out w3 hb3).1 3; have c4 : w3.cell? ⟨w.heap.size + 1, 4, none⟩ = some (St []) := (HRC.out w3 hb3).1 4; have fr := (HRC.out w3 hb3).2; have HB3 := hid (HBL.out.trans ((HBE.out.trans (hb3.mono HBE.out.size)).mono HBL.out.size)); clear hb3)
         refine bodyPost_ret (v := .tuple #[.agg #[St [], St [], St [], St [], St []], .int .i64 (m : Int)]) (by simp [results, Tryz.results40, go_sem, c0, c1, c2, c3, c4]) rfl ⟨by rw [HRR.out]; rfl, ?_⟩
         exact ((((HB3.out.setCell (by simp) _).setCell (by simp) _).setCell (by simp) _).setCell (by simp) _).setCell (by simp) _
   · obtain rfl : i = 5 := by omega
     generalize hz : ((5 : Nat) : Int) = z
     obtain rfl : (5 : Int) = z := hz
     have HRR := hid (HOK.out (fun j hj => HZ.out j hj))
     obtain ⟨g, cap, hv, hgb, hgl, hcs⟩ := HTR.out.cells (by intro h; have := pubsL_len s 5; rw [h] at this; cases this)
     rw [pubsL_len] at hv
     subst hv
     have t0 : wr.cell? ⟨g, 0, none⟩ = some (St (pubRes s.f).1) := hcs 0 (by rw [pubsL_len]; decide)
     have t1 : wr.cell? ⟨g, 1, none⟩ = some (St (pubRes s.r).1) := hcs 1 (by rw [pubsL_len]; decide)
     have t2 : wr.cell? ⟨g, 2, none⟩ = some (St (pubRes s.p).1) := hcs 2 (by rw [pubsL_len]; decide)
     have t3 : wr.cell? ⟨g, 3, none⟩ = some (St (pubRes s.l).1) := hcs 3 (by rw [pubsL_len]; decide)
     have t4 : wr.cell? ⟨g, 4, none⟩ = some (St (pubRes s.h).1) := hcs 4 (by rw [pubsL_len]; decide)
     have HAT : Hid (rpAt (pubRes s.f).1 (pubRes s.r).1 (pubRes s.p).1 (pubRes s.l).1 (pubRes s.h).1 g wr) := hid ⟨t0, t1, t2, t3, t4⟩
     have hrb : wr.heap[w.heap.size + 1]? = some (.cells #[St [], St [], St [], St [], St []] 33 (0, 0)) := (HBE.out.block _ (heap_lt HR0.out)).trans HR0.out
     have HRB := hid hrb
     have HNE : Hid (g ≠ w.heap.size + 1) := hid (by have := HS0.out; omega)
     clear hcs t0 t1 t2 t3 t4 hrb hgb hgl HNO HOK HTR HZ hi hil
     go_wp2_with fail
     rename_i hK
     have HK := hid hK
     clear hK
     refine rpreg (t0 := (pubRes s.f).1) (t1 := (pubRes s.r).1) (t2 := (pubRes s.p).1) (t3 := (pubRes s.l).1) (t4 := (pubRes s.h).1) (g := g) (c := cap) (rb := w.heap.size + 1) rfl rfl (by show 55 ≤ 55; decide) HNE.out HAT.out HRB.out ?_
     intro a ho hv
     have e2 : gt a 2 = .pointer (some ⟨w.heap.size + 1, 0, none⟩) := (ho.slot (by decide)).trans rfl
     have e3 : gt a 3 = .int .i64 0 := hv 17 (by decide) (by decide)
     refine HK.out a _ ?_
     rw [act55 a (ho.size.trans rfl) (ho.defers.trans rfl), e2, e3]
     clear e2 e3 HK ho hv
     have c0 : ∀ o, wr.cell? ⟨w.heap.size + 1, o, none⟩ = (#[St [], St [], St [], St [], St []] : Array Value)[o]? := fun o => cell_of_heap HRB.out o
     have d0 : wr.cell? ⟨w.heap.size + 1, 0, none⟩ = some (St []) := c0 0
     have d1 : wr.cell? ⟨w.heap.size + 1, 1, none⟩ = some (St []) := c0 1
     have d2 : wr.cell? ⟨w.heap.size + 1, 2, none⟩ = some (St []) := c0 2
     have d3 : wr.cell? ⟨w.heap.size + 1, 3, none⟩ = some (St []) := c0 3
     have d4 : wr.cell? ⟨w.heap.size + 1, 4, none⟩ = some (St []) := c0 4
     clear c0
     go_wp2_with fail
     refine bodyPost_ret (v := .tuple #[.agg #[St (pubRes s.f).1, St (pubRes s.r).1, St (pubRes s.p).1, St (pubRes s.l).1, St (pubRes s.h).1], .int .i64 0]) (by simp [results, Tryz.results40, go_sem, d0, d1, d2, d3, d4]) rfl ⟨by rw [HRR.out]; rfl, ?_⟩
     have HBB := hid (HBL.out.trans (HBE.out.mono HBL.out.size))
     exact (((((HBB.out.setCell (by simp) _).setCell (by simp) _).setCell (by simp) _).setCell (by simp) _).setCell (by simp) _).drew
end Go.Proofs.YtkifchjpgdmcoaaGreatDoor
