/- Keys: the document's keys of a commitment. -/
import Derived.Test.YtkifchjpgdmcoaaGreatDoorKyG
import Derived.Test.YtkifchjpgdmcoaaGreatDoorRAskAll
namespace Go.Proofs.YtkifchjpgdmcoaaGreatDoor
open Go.RowKit
def setE (own oth : K5) (pt : Bs) : Nat → Nat
 | 0 => (jointRes oth.r pt).2
 | 1 => (boundRes own.l pt).2
 | 2 => (boundRes own.h pt).2
 | 3 => (boundRes oth.h pt).2
 | _ => (pkRes oth.p).2
theorem setErr_fe (own oth : K5) (pt : Bs) : setErr own oth pt = fe (setE own oth pt) 0 5 := rfl
theorem setRes_ok {own oth : K5} {pt : Bs} (h : ∀ j, j < 5 → setE own oth pt j = 0) : setRes own oth pt = (⟨(jointRes oth.r pt).1, (boundRes own.l pt).1, (boundRes own.h pt).1, (boundRes oth.h pt).1, (pkRes oth.p).1⟩, 0) := by
 unfold setRes
 rw [setErr_fe, fe_zero _ 5 h, if_pos rfl]
theorem setRes_no {own oth : K5} {pt : Bs} {i : Nat} (hi : i < 5) (h0 : ∀ j, j < i → setE own oth pt j = 0) (h1 : setE own oth pt i ≠ 0) : setRes own oth pt = (zK, setE own oth pt i) := by
 unfold setRes
 rw [setErr_fe, fe_at _ (i := i) h0 h1 5 hi, if_neg h1]
theorem toNat_ne {c d : UInt8} (h : c ≠ d) : ((c.toNat : Int) == (d.toNat : Int)) = false := by
 have h1 : c.toNat ≠ d.toNat := fun e => h (UInt8.toNat_inj.1 e)
 have h2 : (c.toNat : Int) ≠ (d.toNat : Int) := fun e => h1 (by omega)
 simpa using h2
set_option maxHeartbeats 2000000 in
set_option maxRecDepth 100000 in
theorem rset_none (o0 o1 o2 o3 o4 q0 q1 q3 q4 pt : Bs) (q2 : Bs) (hd : Tm.deep q2 = 0) (w : World) : Calls Tryz.prog 43 #[.agg #[St o0, St o1, St o2, St o3, St o4], .agg #[St q0, St q1, St q2, St q3, St q4], St pt] w fun en w' => en = .returned (.tuple #[(setRes ⟨o0, o1, o2, o3, o4⟩ ⟨q0, q1, q2, q3, q4⟩ pt).1.v, .int .i64 ((setRes ⟨o0, o1, o2, o3, o4⟩ ⟨q0, q1, q2, q3, q4⟩ pt).2 : Int)]) ∧ Below w.heap.size w w' := by
 have HJ := hid (fun W => rjoints_any q1 pt W)
 have HB3' := hid (fun W => rbounds_any o3 pt W)
 have HB4' := hid (fun W => rbounds_any o4 pt W)
 have HBq := hid (fun W => rbounds_any q4 pt W)
 have HRI := hid (fun W => rright_any (q2) W)
 have HPK : Hid (pkRes q2 = ([], 10)) := hid (by unfold pkRes; rw [if_neg (fun h => h.1 hd)])
 have HDB : Hid ((Tm.deep q2 != 0) = false) := hid (by rw [hd]; rfl)
 clear hd
 obtain ⟨er, her⟩ : ∃ er, setE ⟨o0, o1, o2, o3, o4⟩ ⟨q0, q1, q2, q3, q4⟩ pt = er := ⟨_, rfl⟩
 obtain ⟨R, hR⟩ : ∃ R, setRes ⟨o0, o1, o2, o3, o4⟩ ⟨q0, q1, q2, q3, q4⟩ pt = R := ⟨_, rfl⟩
 have HNO : Hid (∀ i, i < 5 → (∀ j, j < i → er j = 0) → er i ≠ 0 → R = (zK, er i)) := hid (fun i hi g0 g1 => by subst her; rw [← hR]; exact setRes_no hi g0 g1)
 have HOK : Hid ((∀ j, j < 5 → er j = 0) → R = (⟨(jointRes q1 pt).1, (boundRes o3 pt).1, (boundRes o4 pt).1, (boundRes q4 pt).1, (pkRes (q2)).1⟩, 0)) := hid (fun h => by subst her; rw [← hR]; exact setRes_ok h)
 rw [HPK.out] at HOK
 have h1 : er 0 = (jointRes q1 pt).2 := by subst her; rfl
 have h2 : er 1 = (boundRes o3 pt).2 := by subst her; rfl
 have h3 : er 2 = (boundRes o4 pt).2 := by subst her; rfl
 have h4 : er 3 = (boundRes q4 pt).2 := by subst her; rfl
 have H5 : Hid (er 4 = 10) := hid (by subst her; show (pkRes (q2)).2 = _; rw [HPK.out])
 rw [hR]
 clear hR her HPK
 generalize jointRes q1 pt = r1 at HJ HOK h1
 generalize boundRes o3 pt = r2 at HB3' HOK h2
 generalize boundRes o4 pt = r3 at HB4' HOK h3
 generalize boundRes q4 pt = r4 at HBq HOK h4
 obtain ⟨t1, n1⟩ := r1
 obtain ⟨t2, n2⟩ := r2
 obtain ⟨t3, n3⟩ := r3
 obtain ⟨t4, n4⟩ := r4
 obtain rfl : n1 = er 0 := h1.symm
 obtain rfl : n2 = er 1 := h2.symm
 obtain rfl : n3 = er 2 := h3.symm
 obtain rfl : n4 = er 3 := h4.symm
 clear h1 h2 h3 h4
 obtain ⟨wa, hwa⟩ : ∃ wa, wa = w.alloc (.cells #[St o0, St o1, St o2, St o3, St o4] 33) := ⟨_, rfl⟩
 obtain ⟨wb, hwb⟩ : ∃ wb, wb = wa.alloc (.cells #[St q0, St q1, St q2, St q3, St q4] 33) := ⟨_, rfl⟩
 obtain ⟨w0, hw0⟩ : ∃ w0, w0 = wb.alloc (.cells #[St [], St [], St [], St [], St []] 26) := ⟨_, rfl⟩
 have hsa : wa.heap.size = w.heap.size + 1 := by rw [hwa]; simp
 have hsb : wb.heap.size = w.heap.size + 2 := by rw [hwb]; simp [hsa]
 have hs0 : w0.heap.size = w.heap.size + 3 := by rw [hw0]; simp [hsb]
 have ba : wa.heap[w.heap.size]? = some (.cells #[St o0, St o1, St o2, St o3, St o4] 33 (0, 0)) := by rw [hwa]; exact heap_alloc_new w _
 have bb : wb.heap[w.heap.size + 1]? = some (.cells #[St q0, St q1, St q2, St q3, St q4] 33 (0, 0)) := by rw [hwb, ← hsa]; exact heap_alloc_new wa _
 have la : Below wa.heap.size wa wb := by rw [hwb]; exact bel_alloc wa _
 have lb' : Below wb.heap.size wb w0 := by rw [hw0]; exact bel_alloc wb _
 have HB0 := hid ((lb'.block _ (by omega)).trans ((la.block _ (by omega)).trans ba) : w0.heap[w.heap.size]? = some (.cells #[St o0, St o1, St o2, St o3, St o4] 33 (0, 0)))
 have HB1 := hid ((lb'.block _ (by omega)).trans bb : w0.heap[w.heap.size + 1]? = some (.cells #[St q0, St q1, St q2, St q3, St q4] 33 (0, 0)))
 have HR0' : Hid (w0.heap[w.heap.size + 2]? = some (.cells #[St [], St [], St [], St [], St []] 26 (0, 0))) := hid (by rw [hw0, ← hsb]; exact heap_alloc_new wb _)
 have HBL0 : Hid (Below w.heap.size w w0) := hid ((by rw [hwa]; exact bel_alloc w _ : Below w.heap.size w wa).trans ((la.trans (lb'.mono (by omega))).mono (by omega)))
 have HW : Hid (w0 = ((w.alloc (.cells #[St o0, St o1, St o2, St o3, St o4] 33)).alloc (.cells #[St q0, St q1, St q2, St q3, St q4] 33)).alloc (.cells #[St [], St [], St [], St [], St []] 26)) := hid (by rw [hw0, hwb, hwa])
 have HS0 := hid hs0
 have cells : ∀ W, Below w0.heap.size w0 W → W.cell? ⟨w.heap.size, 3, none⟩ = some (St o3) ∧ W.cell? ⟨w.heap.size, 4, none⟩ = some (St o4) ∧ W.cell? ⟨w.heap.size + 1, 1, none⟩ = some (St q1) ∧ W.cell? ⟨w.heap.size + 1, 4, none⟩ = some (St q4) ∧ W.cell? ⟨w.heap.size + 1, 2, none⟩ = some (St q2) := fun W hb =>
   ⟨by rw [cell_of_heap ((hb.block _ (heap_lt HB0.out)).trans HB0.out)]; rfl, by rw [cell_of_heap ((hb.block _ (heap_lt HB0.out)).trans HB0.out)]; rfl, by rw [cell_of_heap ((hb.block _ (heap_lt HB1.out)).trans HB1.out)]; rfl, by rw [cell_of_heap ((hb.block _ (heap_lt HB1.out)).trans HB1.out)]; rfl, by rw [cell_of_heap ((hb.block _ (heap_lt HB1.out)).trans HB1.out)]; rfl⟩
 have HC := hid cells
 have HJJ := hid (HJ.out w0)
 rw [HW.out] at HJJ
 clear hs0 hw0 hwb hwa hsa hsb ba bb la lb' wa wb cells
 go_enter Tryz.func43, Tryz.ntmps43
 go_wp2_with fail
 refine HJJ.out.mono ?_
 clear HJJ HJ
 rintro _ w1 ⟨rfl, hb1⟩
 rw [← HW.out] at hb1
 have HL1 := hid hb1
 clear hb1
 obtain ⟨k1, k2, k3, k4, k5⟩ := HC.out w1 HL1.out
 go_wp2_with fail
 refine (HB3'.out _).mono ?_
 rintro _ w2 ⟨rfl, hb2⟩
 have HL2 := hid (HL1.out.trans (hb2.mono HL1.out.size))
 clear hb2 k1 k2 k3 k4 k5 HB3'
 obtain ⟨k1, k2, k3, k4, k5⟩ := HC.out w2 HL2.out
 go_wp2_with fail
 refine (HB4'.out _).mono ?_
 rintro _ w3 ⟨rfl, hb3⟩
 have HL3 := hid (HL2.out.trans (hb3.mono HL2.out.size))
 clear hb3 k1 k2 k3 k4 k5 HB4'
 obtain ⟨k1, k2, k3, k4, k5⟩ := HC.out w3 HL3.out
 go_wp2_with fail
 refine (HBq.out _).mono ?_
 rintro _ w4 ⟨rfl, hb4⟩
 have HL4 := hid (HL3.out.trans (hb4.mono HL3.out.size))
 clear hb4 k1 k2 k3 k4 k5 HBq
 obtain ⟨k1, k2, k3, k4, k5⟩ := HC.out w4 HL4.out
 go_wp2_with fail
 refine (HRI.out _).mono ?_
 rintro _ w5 ⟨rfl, hb5⟩
 have HL5 := hid (HL4.out.trans (hb5.mono HL4.out.size))
 clear hb5 k1 k2 k3 k4 k5 HRI
 obtain ⟨k1, k2, k3, k4, k5⟩ := HC.out w5 HL5.out
 rw [HDB.out]
 obtain ⟨rowb, hrow⟩ : ∃ rowb, rowb = w5.heap.size := ⟨_, rfl⟩
 obtain ⟨w6, hw6⟩ : ∃ w6, w6 = w5.alloc (.cells #[.int .i64 (er 0 : Int), .int .i64 (er 1 : Int), .int .i64 (er 2 : Int), .int .i64 (er 3 : Int), .int .i64 10] 29) := ⟨_, rfl⟩
 have HT0 : Hid (w6.heap[rowb]? = some (.cells #[.int .i64 (er 0 : Int), .int .i64 (er 1 : Int), .int .i64 (er 2 : Int), .int .i64 (er 3 : Int), .int .i64 10] 29 (0, 0))) := hid (by rw [hw6, hrow]; exact heap_alloc_new w5 _)
 have HL6 : Hid (Below w0.heap.size w0 w6) := hid (HL5.out.trans ((by rw [hw6]; exact bel_alloc w5 _ : Below w5.heap.size w5 w6).mono HL5.out.size))
 have HR0 := hid ((HL6.out.block _ (heap_lt HR0'.out)).trans HR0'.out)
 have HBL := hid (HBL0.out.trans (HL6.out.mono HBL0.out.size))
 have HW6 := hid hw6
 have HROW := hid hrow
 have HB1' := HB1
 clear hw6 hrow HB1
 have HB1 := hid ((HL6.out.block _ (heap_lt HB1'.out)).trans HB1'.out)
 clear HB1' HR0' HB0 HL6 HC HW HBL0
 go_wp2_with fail
 have hro := HROW.out
 rw [← hro]
 clear hro k1 k2 k3 k4 k5
 go_loopg [75] 5 (fun gg v75 wr => ∃ i : Nat, i ≤ 5 ∧ gg = 5 - i ∧ v75 = .int .i64 (i : Int) ∧ Below w6.heap.size w6 wr ∧ ∀ j, j < i → er j = 0)
 case atStart => exact ⟨0, by omega, by omega, rfl, by rw [HW6.out]; exact Below.refl _ _, fun j hj => by omega⟩
 case round =>
   obtain ⟨i, hi, rfl, rfl, hbel, hz0⟩ := hrel
   have HBE := hid hbel
   have HZ := hid hz0
   clear hbel hz0
   by_cases hil : i < 5
   · rcases (show i = 0 ∨ i = 1 ∨ i = 2 ∨ i = 3 ∨ i = 4 by omega) with h | h | h | h | h
     · obtain rfl : i = 0 := by omega
       generalize hz : ((0 : Nat) : Int) = z
       obtain rfl : (0 : Int) = z := hz
       have hcl : wr.cell? ⟨rowb, 0, none⟩ = some (.int .i64 (er 0 : Int)) := by rw [cell_of_heap ((HBE.out.block _ (heap_lt HT0.out)).trans HT0.out)]; rfl
       by_cases he : er 0 = 0
       · have HHE := hid he
         have q1' : (((er 0 : Nat) : Int) == 0) = true := by rw [he]; rfl
         clear he hi hil
         go_wp2_with fail
         go_roundg (5 - (0 + 1))
         case measure => omega
         case rel => exact ⟨0 + 1, by omega, rfl, rfl, HBE.out, fun j hj => by rcases Nat.lt_or_ge j 0 with h | h; exact HZ.out j h; rw [show j = 0 by omega]; exact HHE.out⟩
       · have HRR : Hid (R = (zK, er 0)) := hid (HNO.out 0 (by omega) HZ.out he)
         have q1' : (((er 0 : Nat) : Int) == 0) = false := by simpa using he
         have q2' : ¬ ((er 0 : Nat) : Int) = 0 := by omega
         have hrb : wr.heap[w.heap.size + 2]? = some (.cells #[St [], St [], St [], St [], St []] 26 (0, 0)) := (HBE.out.block _ (heap_lt HR0.out)).trans HR0.out
         have cr : ∀ o, wr.cell? ⟨w.heap.size + 2, o, none⟩ = (#[St [], St [], St [], St [], St []] : Array Value)[o]? := fun o => cell_of_heap hrb o
         have fr : ∀ o, wr.frozen? ⟨w.heap.size + 2, o, none⟩ = false := fun o => frozen_of_heap hrb o
         have c0 : wr.cell? ⟨w.heap.size + 2, 0, none⟩ = some (St []) := cr 0
         have c1 : wr.cell? ⟨w.heap.size + 2, 1, none⟩ = some (St []) := cr 1
         have c2 : wr.cell? ⟨w.heap.size + 2, 2, none⟩ = some (St []) := cr 2
         have c3 : wr.cell? ⟨w.heap.size + 2, 3, none⟩ = some (St []) := cr 3
         have c4 : wr.cell? ⟨w.heap.size + 2, 4, none⟩ = some (St []) := cr 4
         clear cr hrb he HNO HOK hi hil
         go_wp2_with fail
         refine bodyPost_ret (v := .tuple #[.agg #[St [], St [], St [], St [], St []], .int .i64 (er 0 : Int)]) (by simp [results, Tryz.results43, go_sem, c0, c1, c2, c3, c4]) rfl ⟨by rw [HRR.out]; rfl, ?_⟩
         have HB3 := hid (HBL.out.trans (HBE.out.mono HBL.out.size))
         exact ((((HB3.out.setCell (by show w.heap.size ≤ w.heap.size + 2; omega) _).setCell (by show w.heap.size ≤ w.heap.size + 2; omega) _).setCell (by show w.heap.size ≤ w.heap.size + 2; omega) _).setCell (by show w.heap.size ≤ w.heap.size + 2; omega) _).setCell (by show w.heap.size ≤ w.heap.size + 2; omega) _
     · obtain rfl : i = 1 := by omega
       generalize hz : ((1 : Nat) : Int) = z
       obtain rfl : (1 : Int) = z := hz
       have hcl : wr.cell? ⟨rowb, 1, none⟩ = some (.int .i64 (er 1 : Int)) := by rw [cell_of_heap ((HBE.out.block _ (heap_lt HT0.out)).trans HT0.out)]; rfl
       by_cases he : er 1 = 0
       · have HHE := hid he
         have q1' : (((er 1 : Nat) : Int) == 0) = true := by rw [he]; rfl
         clear he hi hil
         go_wp2_with fail
         go_roundg (5 - (1 + 1))
         case measure => omega
         case rel => exact ⟨1 + 1, by omega, rfl, rfl, HBE.out, fun j hj => by rcases Nat.lt_or_ge j 1 with h | h; exact HZ.out j h; rw [show j = 1 by omega]; exact HHE.out⟩
       · have HRR : Hid (R = (zK, er 1)) := hid (HNO.out 1 (by omega) HZ.out he)
         have q1' : (((er 1 : Nat) : Int) == 0) = false := by simpa using he
         have q2' : ¬ ((er 1 : Nat) : Int) = 0 := by omega
         have hrb : wr.heap[w.heap.size + 2]? = some (.cells #[St [], St [], St [], St [], St []] 26 (0, 0)) := (HBE.out.block _ (heap_lt HR0.out)).trans HR0.out
         have cr : ∀ o, wr.cell? ⟨w.heap.size + 2, o, none⟩ = (#[St [], St [], St [], St [], St []] : Array Value)[o]? := fun o => cell_of_heap hrb o
         have fr : ∀ o, wr.frozen? ⟨w.heap.size + 2, o, none⟩ = false := fun o => frozen_of_heap hrb o
         have c0 : wr.cell? ⟨w.heap.size + 2, 0, none⟩ = some (St []) := cr 0
         have c1 : wr.cell? ⟨w.heap.size + 2, 1, none⟩ = some (St []) := cr 1
         have c2 : wr.cell? ⟨w.heap.size + 2, 2, none⟩ = some (St []) := cr 2
         have c3 : wr.cell? ⟨w.heap.size + 2, 3, none⟩ = some (St []) := cr 3
         have c4 : wr.cell? ⟨w.heap.size + 2, 4, none⟩ = some (St []) := cr 4
         clear cr hrb he HNO HOK hi hil
         go_wp2_with fail
         refine bodyPost_ret (v := .tuple #[.agg #[St [], St [], St [], St [], St []], .int .i64 (er 1 : Int)]) (by simp [results, Tryz.results43, go_sem, c0, c1, c2, c3, c4]) rfl ⟨by rw [HRR.out]; rfl, ?_⟩
         have HB3 := hid (HBL.out.trans (HBE.out.mono HBL.out.size))
         exact ((((HB3.out.setCell (by show w.heap.size ≤ w.heap.size + 2; omega) _).setCell (by show w.heap.size ≤ w.heap.size + 2; omega) _).setCell (by show w.heap.size ≤ w.heap.size + 2; omega) _).setCell (by show w.heap.size ≤ w.heap.size + 2; omega) _).setCell (by show w.heap.size ≤ w.heap.size + 2; omega) _
     · obtain rfl : i = 2 := by omega
       generalize hz : ((2 : Nat) : Int) = z
       obtain rfl : (2 : Int) = z := hz
       have hcl : wr.cell? ⟨rowb, 2, none⟩ = some (.int .i64 (er 2 : Int)) := by rw [cell_of_heap ((HBE.out.block _ (heap_lt HT0.out)).trans HT0.out)]; rfl
       by_cases he : er 2 = 0
       · have HHE := hid he
         have q1' : (((er 2 : Nat) : Int) == 0) = true := by rw [he]; rfl
         clear he hi hil
         go_wp2_with fail
         go_roundg (5 - (2 + 1))
         case measure => omega
         case rel => exact ⟨2 + 1, by omega, rfl, rfl, HBE.out, fun j hj => by rcases Nat.lt_or_ge j 2 with h | h; exact HZ.out j h; rw [show j = 2 by omega]; exact HHE.out⟩
       · have HRR : Hid (R = (zK, er 2)) := hid (HNO.out 2 (by omega) HZ.out he)
         have q1' : (((er 2 : Nat) : Int) == 0) = false := by simpa using he
         have q2' : ¬ ((er 2 : Nat) : Int) = 0 := by omega
         have hrb : wr.heap[w.heap.size + 2]? = some (.cells #[St [], St [], St [], St [], St []] 26 (0, 0)) := (HBE.out.block _ (heap_lt HR0.out)).trans HR0.out
         have cr : ∀ o, wr.cell? ⟨w.heap.size + 2, o, none⟩ = (#[St [], St [], St [], St [], St []] : Array Value)[o]? := fun o => cell_of_heap hrb o
         have fr : ∀ o, wr.frozen? ⟨w.heap.size + 2, o, none⟩ = false := fun o => frozen_of_heap hrb o
         have c0 : wr.cell? ⟨w.heap.size + 2, 0, none⟩ = some (St []) := cr 0
         have c1 : wr.cell? ⟨w.heap.size + 2, 1, none⟩ = some (St []) := cr 1
         have c2 : wr.cell? ⟨w.heap.size + 2, 2, none⟩ = some (St []) := cr 2
         have c3 : wr.cell? ⟨w.heap.size + 2, 3, none⟩ = some (St []) := cr 3
         have c4 : wr.cell? ⟨w.heap.size + 2, 4, none⟩ = some (St []) := cr 4
         clear cr hrb he HNO HOK hi hil
         go_wp2_with fail
         refine bodyPost_ret (v := .tuple #[.agg #[St [], St [], St [], St [], St []], .int .i64 (er 2 : Int)]) (by simp [results, Tryz.results43, go_sem, c0, c1, c2, c3, c4]) rfl ⟨by rw [HRR.out]; rfl, ?_⟩
         have HB3 := hid (HBL.out.trans (HBE.out.mono HBL.out.size))
         exact ((((HB3.out.setCell (by show w.heap.size ≤ w.heap.size + 2; omega) _).setCell (by show w.heap.size ≤ w.heap.size + 2; omega) _).setCell (by show w.heap.size ≤ w.heap.size + 2; omega) _).setCell (by show w.heap.size ≤ w.heap.size + 2; omega) _).setCell (by show w.heap.size ≤ w.heap.size + 2; omega) _
     · obtain rfl : i = 3 := by omega
       generalize hz : ((3 : Nat) : Int) = z
       obtain rfl : (3 : Int) = z := hz
       have hcl : wr.cell? ⟨rowb, 3, none⟩ = some (.int .i64 (er 3 : Int)) := by rw [cell_of_heap ((HBE.out.block _ (heap_lt HT0.out)).trans HT0.out)]; rfl
       by_cases he : er 3 = 0
       · have HHE := hid he
         have q1' : (((er 3 : Nat) : Int) == 0) = true := by rw [he]; rfl
         clear he hi hil
         go_wp2_with fail
         go_roundg (5 - (3 + 1))
         case measure => omega
         case rel => exact ⟨3 + 1, by omega, rfl, rfl, HBE.out, fun j hj => by rcases Nat.lt_or_ge j 3 with h | h; exact HZ.out j h; rw [show j = 3 by omega]; exact HHE.out⟩
       · have HRR : Hid (R = (zK, er 3)) := hid (HNO.out 3 (by omega) HZ.out he)
         have q1' : (((er 3 : Nat) : Int) == 0) = false := by simpa using he
         have q2' : ¬ ((er 3 : Nat) : Int) = 0 := by omega
         have hrb : wr.heap[w.heap.size + 2]? = some (.cells #[St [], St [], St [], St [], St []] 26 (0, 0)) := (HBE.out.block _ (heap_lt HR0.out)).trans HR0.out
         have cr : ∀ o, wr.cell? ⟨w.heap.size + 2, o, none⟩ = (#[St [], St [], St [], St [], St []] : Array Value)[o]? := fun o => cell_of_heap hrb o
         have fr : ∀ o, wr.frozen? ⟨w.heap.size + 2, o, none⟩ = false := fun o => frozen_of_heap hrb o
         have c0 : wr.cell? ⟨w.heap.size + 2, 0, none⟩ = some (St []) := cr 0
         have c1 : wr.cell? ⟨w.heap.size + 2, 1, none⟩ = some (St []) := cr 1
         have c2 : wr.cell? ⟨w.heap.size + 2, 2, none⟩ = some (St []) := cr 2
         have c3 : wr.cell? ⟨w.heap.size + 2, 3, none⟩ = some (St []) := cr 3
         have c4 : wr.cell? ⟨w.heap.size + 2, 4, none⟩ = some (St []) := cr 4
         clear cr hrb he HNO HOK hi hil
         go_wp2_with fail
         refine bodyPost_ret (v := .tuple #[.agg #[St [], St [], St [], St [], St []], .int .i64 (er 3 : Int)]) (by simp [results, Tryz.results43, go_sem, c0, c1, c2, c3, c4]) rfl ⟨by rw [HRR.out]; rfl, ?_⟩
         have HB3 := hid (HBL.out.trans (HBE.out.mono HBL.out.size))
         exact ((((HB3.out.setCell (by show w.heap.size ≤ w.heap.size + 2; omega) _).setCell (by show w.heap.size ≤ w.heap.size + 2; omega) _).setCell (by show w.heap.size ≤ w.heap.size + 2; omega) _).setCell (by show w.heap.size ≤ w.heap.size + 2; omega) _).setCell (by show w.heap.size ≤ w.heap.size + 2; omega) _
     · obtain rfl : i = 4 := by omega
       generalize hz : ((4 : Nat) : Int) = z
       obtain rfl : (4 : Int) = z := hz
       have hcl : wr.cell? ⟨rowb, 4, none⟩ = some (.int .i64 10) := by rw [cell_of_heap ((HBE.out.block _ (heap_lt HT0.out)).trans HT0.out)]; rfl
       have HRR : Hid (R = (zK, 10)) := hid (by have := HNO.out 4 (by omega) HZ.out (by show er 4 ≠ 0; rw [H5.out]; decide); rw [H5.out] at this; exact this)
       have hrb : wr.heap[w.heap.size + 2]? = some (.cells #[St [], St [], St [], St [], St []] 26 (0, 0)) := (HBE.out.block _ (heap_lt HR0.out)).trans HR0.out
       have cr : ∀ o, wr.cell? ⟨w.heap.size + 2, o, none⟩ = (#[St [], St [], St [], St [], St []] : Array Value)[o]? := fun o => cell_of_heap hrb o
       have fr : ∀ o, wr.frozen? ⟨w.heap.size + 2, o, none⟩ = false := fun o => frozen_of_heap hrb o
       have c0 : wr.cell? ⟨w.heap.size + 2, 0, none⟩ = some (St []) := cr 0
       have c1 : wr.cell? ⟨w.heap.size + 2, 1, none⟩ = some (St []) := cr 1
       have c2 : wr.cell? ⟨w.heap.size + 2, 2, none⟩ = some (St []) := cr 2
       have c3 : wr.cell? ⟨w.heap.size + 2, 3, none⟩ = some (St []) := cr 3
       have c4 : wr.cell? ⟨w.heap.size + 2, 4, none⟩ = some (St []) := cr 4
       clear cr hrb HNO HOK hi hil
       go_wp2_with fail
       refine bodyPost_ret (v := .tuple #[.agg #[St [], St [], St [], St [], St []], .int .i64 10]) (by simp [results, Tryz.results43, go_sem, c0, c1, c2, c3, c4]) rfl ⟨by rw [HRR.out]; rfl, ?_⟩
       have HB3 := hid (HBL.out.trans (HBE.out.mono HBL.out.size))
       exact ((((HB3.out.setCell (by show w.heap.size ≤ w.heap.size + 2; omega) _).setCell (by show w.heap.size ≤ w.heap.size + 2; omega) _).setCell (by show w.heap.size ≤ w.heap.size + 2; omega) _).setCell (by show w.heap.size ≤ w.heap.size + 2; omega) _).setCell (by show w.heap.size ≤ w.heap.size + 2; omega) _
   · obtain rfl : i = 5 := by omega
     generalize hz : ((5 : Nat) : Int) = z
     obtain rfl : (5 : Int) = z := hz
     have h4 := HZ.out 4 (by omega)
     rw [H5.out] at h4
     exact absurd h4 (by decide)
set_option maxHeartbeats 2000000 in
set_option maxRecDepth 100000 in
theorem rset_80 (o0 o1 o2 o3 o4 q0 q1 q3 q4 pt : Bs) (l : Bs) (hd : Tm.deep (80 :: l) ≠ 0) (w : World) : Calls Tryz.prog 43 #[.agg #[St o0, St o1, St o2, St o3, St o4], .agg #[St q0, St q1, St (80 :: l), St q3, St q4], St pt] w fun en w' => en = .returned (.tuple #[(setRes ⟨o0, o1, o2, o3, o4⟩ ⟨q0, q1, 80 :: l, q3, q4⟩ pt).1.v, .int .i64 ((setRes ⟨o0, o1, o2, o3, o4⟩ ⟨q0, q1, 80 :: l, q3, q4⟩ pt).2 : Int)]) ∧ Below w.heap.size w w' := by
 have HJ := hid (fun W => rjoints_any q1 pt W)
 have HB3' := hid (fun W => rbounds_any o3 pt W)
 have HB4' := hid (fun W => rbounds_any o4 pt W)
 have HBq := hid (fun W => rbounds_any q4 pt W)
 have HRI := hid (fun W => rright_any (80 :: l) W)
 have HPK : Hid (pkRes (80 :: l) = (80 :: l, 0)) := hid (by unfold pkRes; rw [if_pos ⟨hd, rfl⟩])
 have HDB : Hid ((Tm.deep (80 :: l) != 0) = true) := hid (by simpa using hd)
 have hsz : 0 < ((⟨(80 :: l).toArray⟩ : ByteArray)).size := by rw [st_size]; simp
 have hix : ∀ h, (⟨((80 : UInt8) :: l).toArray⟩ : ByteArray)[0]'h = 80 := fun _ => rfl
 clear hd
 obtain ⟨er, her⟩ : ∃ er, setE ⟨o0, o1, o2, o3, o4⟩ ⟨q0, q1, 80 :: l, q3, q4⟩ pt = er := ⟨_, rfl⟩
 obtain ⟨R, hR⟩ : ∃ R, setRes ⟨o0, o1, o2, o3, o4⟩ ⟨q0, q1, 80 :: l, q3, q4⟩ pt = R := ⟨_, rfl⟩
 have HNO : Hid (∀ i, i < 5 → (∀ j, j < i → er j = 0) → er i ≠ 0 → R = (zK, er i)) := hid (fun i hi g0 g1 => by subst her; rw [← hR]; exact setRes_no hi g0 g1)
 have HOK : Hid ((∀ j, j < 5 → er j = 0) → R = (⟨(jointRes q1 pt).1, (boundRes o3 pt).1, (boundRes o4 pt).1, (boundRes q4 pt).1, (pkRes (80 :: l)).1⟩, 0)) := hid (fun h => by subst her; rw [← hR]; exact setRes_ok h)
 rw [HPK.out] at HOK
 have h1 : er 0 = (jointRes q1 pt).2 := by subst her; rfl
 have h2 : er 1 = (boundRes o3 pt).2 := by subst her; rfl
 have h3 : er 2 = (boundRes o4 pt).2 := by subst her; rfl
 have h4 : er 3 = (boundRes q4 pt).2 := by subst her; rfl
 have H5 : Hid (er 4 = 0) := hid (by subst her; show (pkRes (80 :: l)).2 = _; rw [HPK.out])
 rw [hR]
 clear hR her HPK
 generalize jointRes q1 pt = r1 at HJ HOK h1
 generalize boundRes o3 pt = r2 at HB3' HOK h2
 generalize boundRes o4 pt = r3 at HB4' HOK h3
 generalize boundRes q4 pt = r4 at HBq HOK h4
 obtain ⟨t1, n1⟩ := r1
 obtain ⟨t2, n2⟩ := r2
 obtain ⟨t3, n3⟩ := r3
 obtain ⟨t4, n4⟩ := r4
 obtain rfl : n1 = er 0 := h1.symm
 obtain rfl : n2 = er 1 := h2.symm
 obtain rfl : n3 = er 2 := h3.symm
 obtain rfl : n4 = er 3 := h4.symm
 clear h1 h2 h3 h4
 obtain ⟨wa, hwa⟩ : ∃ wa, wa = w.alloc (.cells #[St o0, St o1, St o2, St o3, St o4] 33) := ⟨_, rfl⟩
 obtain ⟨wb, hwb⟩ : ∃ wb, wb = wa.alloc (.cells #[St q0, St q1, St (80 :: l), St q3, St q4] 33) := ⟨_, rfl⟩
 obtain ⟨w0, hw0⟩ : ∃ w0, w0 = wb.alloc (.cells #[St [], St [], St [], St [], St []] 26) := ⟨_, rfl⟩
 have hsa : wa.heap.size = w.heap.size + 1 := by rw [hwa]; simp
 have hsb : wb.heap.size = w.heap.size + 2 := by rw [hwb]; simp [hsa]
 have hs0 : w0.heap.size = w.heap.size + 3 := by rw [hw0]; simp [hsb]
 have ba : wa.heap[w.heap.size]? = some (.cells #[St o0, St o1, St o2, St o3, St o4] 33 (0, 0)) := by rw [hwa]; exact heap_alloc_new w _
 have bb : wb.heap[w.heap.size + 1]? = some (.cells #[St q0, St q1, St (80 :: l), St q3, St q4] 33 (0, 0)) := by rw [hwb, ← hsa]; exact heap_alloc_new wa _
 have la : Below wa.heap.size wa wb := by rw [hwb]; exact bel_alloc wa _
 have lb' : Below wb.heap.size wb w0 := by rw [hw0]; exact bel_alloc wb _
 have HB0 := hid ((lb'.block _ (by omega)).trans ((la.block _ (by omega)).trans ba) : w0.heap[w.heap.size]? = some (.cells #[St o0, St o1, St o2, St o3, St o4] 33 (0, 0)))
 have HB1 := hid ((lb'.block _ (by omega)).trans bb : w0.heap[w.heap.size + 1]? = some (.cells #[St q0, St q1, St (80 :: l), St q3, St q4] 33 (0, 0)))
 have HR0' : Hid (w0.heap[w.heap.size + 2]? = some (.cells #[St [], St [], St [], St [], St []] 26 (0, 0))) := hid (by rw [hw0, ← hsb]; exact heap_alloc_new wb _)
 have HBL0 : Hid (Below w.heap.size w w0) := hid ((by rw [hwa]; exact bel_alloc w _ : Below w.heap.size w wa).trans ((la.trans (lb'.mono (by omega))).mono (by omega)))
 have HW : Hid (w0 = ((w.alloc (.cells #[St o0, St o1, St o2, St o3, St o4] 33)).alloc (.cells #[St q0, St q1, St (80 :: l), St q3, St q4] 33)).alloc (.cells #[St [], St [], St [], St [], St []] 26)) := hid (by rw [hw0, hwb, hwa])
 have HS0 := hid hs0
 have cells : ∀ W, Below w0.heap.size w0 W → W.cell? ⟨w.heap.size, 3, none⟩ = some (St o3) ∧ W.cell? ⟨w.heap.size, 4, none⟩ = some (St o4) ∧ W.cell? ⟨w.heap.size + 1, 1, none⟩ = some (St q1) ∧ W.cell? ⟨w.heap.size + 1, 4, none⟩ = some (St q4) ∧ W.cell? ⟨w.heap.size + 1, 2, none⟩ = some (St (80 :: l)) := fun W hb =>
   ⟨by rw [cell_of_heap ((hb.block _ (heap_lt HB0.out)).trans HB0.out)]; rfl, by rw [cell_of_heap ((hb.block _ (heap_lt HB0.out)).trans HB0.out)]; rfl, by rw [cell_of_heap ((hb.block _ (heap_lt HB1.out)).trans HB1.out)]; rfl, by rw [cell_of_heap ((hb.block _ (heap_lt HB1.out)).trans HB1.out)]; rfl, by rw [cell_of_heap ((hb.block _ (heap_lt HB1.out)).trans HB1.out)]; rfl⟩
 have HC := hid cells
 have HJJ := hid (HJ.out w0)
 rw [HW.out] at HJJ
 clear hs0 hw0 hwb hwa hsa hsb ba bb la lb' wa wb cells
 go_enter Tryz.func43, Tryz.ntmps43
 go_wp2_with fail
 refine HJJ.out.mono ?_
 clear HJJ HJ
 rintro _ w1 ⟨rfl, hb1⟩
 rw [← HW.out] at hb1
 have HL1 := hid hb1
 clear hb1
 obtain ⟨k1, k2, k3, k4, k5⟩ := HC.out w1 HL1.out
 go_wp2_with fail
 refine (HB3'.out _).mono ?_
 rintro _ w2 ⟨rfl, hb2⟩
 have HL2 := hid (HL1.out.trans (hb2.mono HL1.out.size))
 clear hb2 k1 k2 k3 k4 k5 HB3'
 obtain ⟨k1, k2, k3, k4, k5⟩ := HC.out w2 HL2.out
 go_wp2_with fail
 refine (HB4'.out _).mono ?_
 rintro _ w3 ⟨rfl, hb3⟩
 have HL3 := hid (HL2.out.trans (hb3.mono HL2.out.size))
 clear hb3 k1 k2 k3 k4 k5 HB4'
 obtain ⟨k1, k2, k3, k4, k5⟩ := HC.out w3 HL3.out
 go_wp2_with fail
 refine (HBq.out _).mono ?_
 rintro _ w4 ⟨rfl, hb4⟩
 have HL4 := hid (HL3.out.trans (hb4.mono HL3.out.size))
 clear hb4 k1 k2 k3 k4 k5 HBq
 obtain ⟨k1, k2, k3, k4, k5⟩ := HC.out w4 HL4.out
 go_wp2_with fail
 refine (HRI.out _).mono ?_
 rintro _ w5 ⟨rfl, hb5⟩
 have HL5 := hid (HL4.out.trans (hb5.mono HL4.out.size))
 clear hb5 k1 k2 k3 k4 k5 HRI
 obtain ⟨k1, k2, k3, k4, k5⟩ := HC.out w5 HL5.out
 rw [HDB.out]
 obtain ⟨rowb, hrow⟩ : ∃ rowb, rowb = w5.heap.size := ⟨_, rfl⟩
 obtain ⟨w6, hw6⟩ : ∃ w6, w6 = w5.alloc (.cells #[.int .i64 (er 0 : Int), .int .i64 (er 1 : Int), .int .i64 (er 2 : Int), .int .i64 (er 3 : Int), .int .i64 0] 29) := ⟨_, rfl⟩
 have HT0 : Hid (w6.heap[rowb]? = some (.cells #[.int .i64 (er 0 : Int), .int .i64 (er 1 : Int), .int .i64 (er 2 : Int), .int .i64 (er 3 : Int), .int .i64 0] 29 (0, 0))) := hid (by rw [hw6, hrow]; exact heap_alloc_new w5 _)
 have HL6 : Hid (Below w0.heap.size w0 w6) := hid (HL5.out.trans ((by rw [hw6]; exact bel_alloc w5 _ : Below w5.heap.size w5 w6).mono HL5.out.size))
 have HR0 := hid ((HL6.out.block _ (heap_lt HR0'.out)).trans HR0'.out)
 have HBL := hid (HBL0.out.trans (HL6.out.mono HBL0.out.size))
 have HW6 := hid hw6
 have HROW := hid hrow
 have HB1' := HB1
 clear hw6 hrow HB1
 have HB1 := hid ((HL6.out.block _ (heap_lt HB1'.out)).trans HB1'.out)
 clear HB1' HR0' HB0 HL6 HC HW HBL0
 go_wp2_with fail
 have hro := HROW.out
 rw [← hro]
 clear hro k1 k2 k3 k4 k5
 go_loopg [75] 5 (fun gg v75 wr => ∃ i : Nat, i ≤ 5 ∧ gg = 5 - i ∧ v75 = .int .i64 (i : Int) ∧ Below w6.heap.size w6 wr ∧ ∀ j, j < i → er j = 0)
 case atStart => exact ⟨0, by omega, by omega, rfl, by rw [HW6.out]; exact Below.refl _ _, fun j hj => by omega⟩
 case round =>
   obtain ⟨i, hi, rfl, rfl, hbel, hz0⟩ := hrel
   have HBE := hid hbel
   have HZ := hid hz0
   clear hbel hz0
   by_cases hil : i < 5
   · rcases (show i = 0 ∨ i = 1 ∨ i = 2 ∨ i = 3 ∨ i = 4 by omega) with h | h | h | h | h
     · obtain rfl : i = 0 := by omega
       generalize hz : ((0 : Nat) : Int) = z
       obtain rfl : (0 : Int) = z := hz
       have hcl : wr.cell? ⟨rowb, 0, none⟩ = some (.int .i64 (er 0 : Int)) := by rw [cell_of_heap ((HBE.out.block _ (heap_lt HT0.out)).trans HT0.out)]; rfl
       by_cases he : er 0 = 0
       · have HHE := hid he
         have q1' : (((er 0 : Nat) : Int) == 0) = true := by rw [he]; rfl
         clear he hi hil
         go_wp2_with fail
         go_roundg (5 - (0 + 1))
         case measure => omega
         case rel => exact ⟨0 + 1, by omega, rfl, rfl, HBE.out, fun j hj => by rcases Nat.lt_or_ge j 0 with h | h; exact HZ.out j h; rw [show j = 0 by omega]; exact HHE.out⟩
       · have HRR : Hid (R = (zK, er 0)) := hid (HNO.out 0 (by omega) HZ.out he)
         have q1' : (((er 0 : Nat) : Int) == 0) = false := by simpa using he
         have q2' : ¬ ((er 0 : Nat) : Int) = 0 := by omega
         have hrb : wr.heap[w.heap.size + 2]? = some (.cells #[St [], St [], St [], St [], St []] 26 (0, 0)) := (HBE.out.block _ (heap_lt HR0.out)).trans HR0.out
         have cr : ∀ o, wr.cell? ⟨w.heap.size + 2, o, none⟩ = (#[St [], St [], St [], St [], St []] : Array Value)[o]? := fun o => cell_of_heap hrb o
         have fr : ∀ o, wr.frozen? ⟨w.heap.size + 2, o, none⟩ = false := fun o => frozen_of_heap hrb o
         have c0 : wr.cell? ⟨w.heap.size + 2, 0, none⟩ = some (St []) := cr 0
         have c1 : wr.cell? ⟨w.heap.size + 2, 1, none⟩ = some (St []) := cr 1
         have c2 : wr.cell? ⟨w.heap.size + 2, 2, none⟩ = some (St []) := cr 2
         have c3 : wr.cell? ⟨w.heap.size + 2, 3, none⟩ = some (St []) := cr 3
         have c4 : wr.cell? ⟨w.heap.size + 2, 4, none⟩ = some (St []) := cr 4
         clear cr hrb he HNO HOK hi hil
         go_wp2_with fail
         refine bodyPost_ret (v := .tuple #[.agg #[St [], St [], St [], St [], St []], .int .i64 (er 0 : Int)]) (by simp [results, Tryz.results43, go_sem, c0, c1, c2, c3, c4]) rfl ⟨by rw [HRR.out]; rfl, ?_⟩
         have HB3 := hid (HBL.out.trans (HBE.out.mono HBL.out.size))
         exact ((((HB3.out.setCell (by show w.heap.size ≤ w.heap.size + 2; omega) _).setCell (by show w.heap.size ≤ w.heap.size + 2; omega) _).setCell (by show w.heap.size ≤ w.heap.size + 2; omega) _).setCell (by show w.heap.size ≤ w.heap.size + 2; omega) _).setCell (by show w.heap.size ≤ w.heap.size + 2; omega) _
     · obtain rfl : i = 1 := by omega
       generalize hz : ((1 : Nat) : Int) = z
       obtain rfl : (1 : Int) = z := hz
       have hcl : wr.cell? ⟨rowb, 1, none⟩ = some (.int .i64 (er 1 : Int)) := by rw [cell_of_heap ((HBE.out.block _ (heap_lt HT0.out)).trans HT0.out)]; rfl
       by_cases he : er 1 = 0
       · have HHE := hid he
         have q1' : (((er 1 : Nat) : Int) == 0) = true := by rw [he]; rfl
         clear he hi hil
         go_wp2_with fail
         go_roundg (5 - (1 + 1))
         case measure => omega
         case rel => exact ⟨1 + 1, by omega, rfl, rfl, HBE.out, fun j hj => by rcases Nat.lt_or_ge j 1 with h | h; exact HZ.out j h; rw [show j = 1 by omega]; exact HHE.out⟩
       · have HRR : Hid (R = (zK, er 1)) := hid (HNO.out 1 (by omega) HZ.out he)
         have q1' : (((er 1 : Nat) : Int) == 0) = false := by simpa using he
         have q2' : ¬ ((er 1 : Nat) : Int) = 0 := by omega
         have hrb : wr.heap[w.heap.size + 2]? = some (.cells #[St [], St [], St [], St [], St []] 26 (0, 0)) := (HBE.out.block _ (heap_lt HR0.out)).trans HR0.out
         have cr : ∀ o, wr.cell? ⟨w.heap.size + 2, o, none⟩ = (#[St [], St [], St [], St [], St []] : Array Value)[o]? := fun o => cell_of_heap hrb o
         have fr : ∀ o, wr.frozen? ⟨w.heap.size + 2, o, none⟩ = false := fun o => frozen_of_heap hrb o
         have c0 : wr.cell? ⟨w.heap.size + 2, 0, none⟩ = some (St []) := cr 0
         have c1 : wr.cell? ⟨w.heap.size + 2, 1, none⟩ = some (St []) := cr 1
         have c2 : wr.cell? ⟨w.heap.size + 2, 2, none⟩ = some (St []) := cr 2
         have c3 : wr.cell? ⟨w.heap.size + 2, 3, none⟩ = some (St []) := cr 3
         have c4 : wr.cell? ⟨w.heap.size + 2, 4, none⟩ = some (St []) := cr 4
         clear cr hrb he HNO HOK hi hil
         go_wp2_with fail
         refine bodyPost_ret (v := .tuple #[.agg #[St [], St [], St [], St [], St []], .int .i64 (er 1 : Int)]) (by simp [results, Tryz.results43, go_sem, c0, c1, c2, c3, c4]) rfl ⟨by rw [HRR.out]; rfl, ?_⟩
         have HB3 := hid (HBL.out.trans (HBE.out.mono HBL.out.size))
         exact ((((HB3.out.setCell (by show w.heap.size ≤ w.heap.size + 2; omega) _).setCell (by show w.heap.size ≤ w.heap.size + 2; omega) _).setCell (by show w.heap.size ≤ w.heap.size + 2; omega) _).setCell (by show w.heap.size ≤ w.heap.size + 2; omega) _).setCell (by show w.heap.size ≤ w.heap.size + 2; omega) _
     · obtain rfl : i = 2 := by omega
       generalize hz : ((2 : Nat) : Int) = z
       obtain rfl : (2 : Int) = z := hz
       have hcl : wr.cell? ⟨rowb, 2, none⟩ = some (.int .i64 (er 2 : Int)) := by rw [cell_of_heap ((HBE.out.block _ (heap_lt HT0.out)).trans HT0.out)]; rfl
       by_cases he : er 2 = 0
       · have HHE := hid he
         have q1' : (((er 2 : Nat) : Int) == 0) = true := by rw [he]; rfl
         clear he hi hil
         go_wp2_with fail
         go_roundg (5 - (2 + 1))
         case measure => omega
         case rel => exact ⟨2 + 1, by omega, rfl, rfl, HBE.out, fun j hj => by rcases Nat.lt_or_ge j 2 with h | h; exact HZ.out j h; rw [show j = 2 by omega]; exact HHE.out⟩
       · have HRR : Hid (R = (zK, er 2)) := hid (HNO.out 2 (by omega) HZ.out he)
         have q1' : (((er 2 : Nat) : Int) == 0) = false := by simpa using he
         have q2' : ¬ ((er 2 : Nat) : Int) = 0 := by omega
         have hrb : wr.heap[w.heap.size + 2]? = some (.cells #[St [], St [], St [], St [], St []] 26 (0, 0)) := (HBE.out.block _ (heap_lt HR0.out)).trans HR0.out
         have cr : ∀ o, wr.cell? ⟨w.heap.size + 2, o, none⟩ = (#[St [], St [], St [], St [], St []] : Array Value)[o]? := fun o => cell_of_heap hrb o
         have fr : ∀ o, wr.frozen? ⟨w.heap.size + 2, o, none⟩ = false := fun o => frozen_of_heap hrb o
         have c0 : wr.cell? ⟨w.heap.size + 2, 0, none⟩ = some (St []) := cr 0
         have c1 : wr.cell? ⟨w.heap.size + 2, 1, none⟩ = some (St []) := cr 1
         have c2 : wr.cell? ⟨w.heap.size + 2, 2, none⟩ = some (St []) := cr 2
         have c3 : wr.cell? ⟨w.heap.size + 2, 3, none⟩ = some (St []) := cr 3
         have c4 : wr.cell? ⟨w.heap.size + 2, 4, none⟩ = some (St []) := cr 4
         clear cr hrb he HNO HOK hi hil
         go_wp2_with fail
         refine bodyPost_ret (v := .tuple #[.agg #[St [], St [], St [], St [], St []], .int .i64 (er 2 : Int)]) (by simp [results, Tryz.results43, go_sem, c0, c1, c2, c3, c4]) rfl ⟨by rw [HRR.out]; rfl, ?_⟩
         have HB3 := hid (HBL.out.trans (HBE.out.mono HBL.out.size))
         exact ((((HB3.out.setCell (by show w.heap.size ≤ w.heap.size + 2; omega) _).setCell (by show w.heap.size ≤ w.heap.size + 2; omega) _).setCell (by show w.heap.size ≤ w.heap.size + 2; omega) _).setCell (by show w.heap.size ≤ w.heap.size + 2; omega) _).setCell (by show w.heap.size ≤ w.heap.size + 2; omega) _
     · obtain rfl : i = 3 := by omega
       generalize hz : ((3 : Nat) : Int) = z
       obtain rfl : (3 : Int) = z := hz
       have hcl : wr.cell? ⟨rowb, 3, none⟩ = some (.int .i64 (er 3 : Int)) := by rw [cell_of_heap ((HBE.out.block _ (heap_lt HT0.out)).trans HT0.out)]; rfl
       by_cases he : er 3 = 0
       · have HHE := hid he
         have q1' : (((er 3 : Nat) : Int) == 0) = true := by rw [he]; rfl
         clear he hi hil
         go_wp2_with fail
         go_roundg (5 - (3 + 1))
         case measure => omega
         case rel => exact ⟨3 + 1, by omega, rfl, rfl, HBE.out, fun j hj => by rcases Nat.lt_or_ge j 3 with h | h; exact HZ.out j h; rw [show j = 3 by omega]; exact HHE.out⟩
       · have HRR : Hid (R = (zK, er 3)) := hid (HNO.out 3 (by omega) HZ.out he)
         have q1' : (((er 3 : Nat) : Int) == 0) = false := by simpa using he
         have q2' : ¬ ((er 3 : Nat) : Int) = 0 := by omega
         have hrb : wr.heap[w.heap.size + 2]? = some (.cells #[St [], St [], St [], St [], St []] 26 (0, 0)) := (HBE.out.block _ (heap_lt HR0.out)).trans HR0.out
         have cr : ∀ o, wr.cell? ⟨w.heap.size + 2, o, none⟩ = (#[St [], St [], St [], St [], St []] : Array Value)[o]? := fun o => cell_of_heap hrb o
         have fr : ∀ o, wr.frozen? ⟨w.heap.size + 2, o, none⟩ = false := fun o => frozen_of_heap hrb o
         have c0 : wr.cell? ⟨w.heap.size + 2, 0, none⟩ = some (St []) := cr 0
         have c1 : wr.cell? ⟨w.heap.size + 2, 1, none⟩ = some (St []) := cr 1
         have c2 : wr.cell? ⟨w.heap.size + 2, 2, none⟩ = some (St []) := cr 2
         have c3 : wr.cell? ⟨w.heap.size + 2, 3, none⟩ = some (St []) := cr 3
         have c4 : wr.cell? ⟨w.heap.size + 2, 4, none⟩ = some (St []) := cr 4
         clear cr hrb he HNO HOK hi hil
         go_wp2_with fail
         refine bodyPost_ret (v := .tuple #[.agg #[St [], St [], St [], St [], St []], .int .i64 (er 3 : Int)]) (by simp [results, Tryz.results43, go_sem, c0, c1, c2, c3, c4]) rfl ⟨by rw [HRR.out]; rfl, ?_⟩
         have HB3 := hid (HBL.out.trans (HBE.out.mono HBL.out.size))
         exact ((((HB3.out.setCell (by show w.heap.size ≤ w.heap.size + 2; omega) _).setCell (by show w.heap.size ≤ w.heap.size + 2; omega) _).setCell (by show w.heap.size ≤ w.heap.size + 2; omega) _).setCell (by show w.heap.size ≤ w.heap.size + 2; omega) _).setCell (by show w.heap.size ≤ w.heap.size + 2; omega) _
     · obtain rfl : i = 4 := by omega
       generalize hz : ((4 : Nat) : Int) = z
       obtain rfl : (4 : Int) = z := hz
       have hcl : wr.cell? ⟨rowb, 4, none⟩ = some (.int .i64 0) := by rw [cell_of_heap ((HBE.out.block _ (heap_lt HT0.out)).trans HT0.out)]; rfl
       clear hi hil
       go_wp2_with fail
       go_roundg (5 - (4 + 1))
       case measure => omega
       case rel => exact ⟨4 + 1, by omega, rfl, rfl, HBE.out, fun j hj => by rcases Nat.lt_or_ge j 4 with h | h; exact HZ.out j h; rw [show j = 4 by omega]; exact H5.out⟩
   · obtain rfl : i = 5 := by omega
     generalize hz : ((5 : Nat) : Int) = z
     obtain rfl : (5 : Int) = z := hz
     have HRR := hid (HOK.out (fun j hj => HZ.out j hj))
     have hrb : wr.heap[w.heap.size + 2]? = some (.cells #[St [], St [], St [], St [], St []] 26 (0, 0)) := (HBE.out.block _ (heap_lt HR0.out)).trans HR0.out
     have cr : ∀ o, wr.cell? ⟨w.heap.size + 2, o, none⟩ = (#[St [], St [], St [], St [], St []] : Array Value)[o]? := fun o => cell_of_heap hrb o
     have fr : ∀ o, wr.frozen? ⟨w.heap.size + 2, o, none⟩ = false := fun o => frozen_of_heap hrb o
     have c0 : wr.cell? ⟨w.heap.size + 2, 0, none⟩ = some (St []) := cr 0
     have c1 : wr.cell? ⟨w.heap.size + 2, 1, none⟩ = some (St []) := cr 1
     have c2 : wr.cell? ⟨w.heap.size + 2, 2, none⟩ = some (St []) := cr 2
     have c3 : wr.cell? ⟨w.heap.size + 2, 3, none⟩ = some (St []) := cr 3
     have c4 : wr.cell? ⟨w.heap.size + 2, 4, none⟩ = some (St []) := cr 4
     have hp2 : wr.cell? ⟨w.heap.size + 1, 2, none⟩ = some (St (80 :: l)) := by rw [cell_of_heap ((HBE.out.block _ (heap_lt HB1.out)).trans HB1.out)]; rfl
     clear cr hrb HNO HOK hi hil
     go_wp2_with fail
     refine bodyPost_ret (v := .tuple #[.agg #[St t1, St t2, St t3, St t4, St (80 :: l)], .int .i64 0]) (by simp [results, Tryz.results43, go_sem, c0, c1, c2, c3, c4]) rfl ⟨by rw [HRR.out]; rfl, ?_⟩
     have HB3 := hid (HBL.out.trans (HBE.out.mono HBL.out.size))
     exact ((((HB3.out.setCell (by show w.heap.size ≤ w.heap.size + 2; omega) _).setCell (by show w.heap.size ≤ w.heap.size + 2; omega) _).setCell (by show w.heap.size ≤ w.heap.size + 2; omega) _).setCell (by show w.heap.size ≤ w.heap.size + 2; omega) _).setCell (by show w.heap.size ≤ w.heap.size + 2; omega) _
set_option maxHeartbeats 2000000 in
set_option maxRecDepth 100000 in
theorem rset_87 (o0 o1 o2 o3 o4 q0 q1 q3 q4 pt : Bs) (l : Bs) (hd : Tm.deep (87 :: l) ≠ 0) (w : World) : Calls Tryz.prog 43 #[.agg #[St o0, St o1, St o2, St o3, St o4], .agg #[St q0, St q1, St (87 :: l), St q3, St q4], St pt] w fun en w' => en = .returned (.tuple #[(setRes ⟨o0, o1, o2, o3, o4⟩ ⟨q0, q1, 87 :: l, q3, q4⟩ pt).1.v, .int .i64 ((setRes ⟨o0, o1, o2, o3, o4⟩ ⟨q0, q1, 87 :: l, q3, q4⟩ pt).2 : Int)]) ∧ Below w.heap.size w w' := by
 have HJ := hid (fun W => rjoints_any q1 pt W)
 have HB3' := hid (fun W => rbounds_any o3 pt W)
 have HB4' := hid (fun W => rbounds_any o4 pt W)
 have HBq := hid (fun W => rbounds_any q4 pt W)
 have HRI := hid (fun W => rright_any (87 :: l) W)
 have HPK : Hid (pkRes (87 :: l) = (87 :: l, 0)) := hid (by unfold pkRes; rw [if_pos ⟨hd, rfl⟩])
 have HDB : Hid ((Tm.deep (87 :: l) != 0) = true) := hid (by simpa using hd)
 have hsz : 0 < ((⟨(87 :: l).toArray⟩ : ByteArray)).size := by rw [st_size]; simp
 have hix : ∀ h, (⟨((87 : UInt8) :: l).toArray⟩ : ByteArray)[0]'h = 87 := fun _ => rfl
 clear hd
 obtain ⟨er, her⟩ : ∃ er, setE ⟨o0, o1, o2, o3, o4⟩ ⟨q0, q1, 87 :: l, q3, q4⟩ pt = er := ⟨_, rfl⟩
 obtain ⟨R, hR⟩ : ∃ R, setRes ⟨o0, o1, o2, o3, o4⟩ ⟨q0, q1, 87 :: l, q3, q4⟩ pt = R := ⟨_, rfl⟩
 have HNO : Hid (∀ i, i < 5 → (∀ j, j < i → er j = 0) → er i ≠ 0 → R = (zK, er i)) := hid (fun i hi g0 g1 => by subst her; rw [← hR]; exact setRes_no hi g0 g1)
 have HOK : Hid ((∀ j, j < 5 → er j = 0) → R = (⟨(jointRes q1 pt).1, (boundRes o3 pt).1, (boundRes o4 pt).1, (boundRes q4 pt).1, (pkRes (87 :: l)).1⟩, 0)) := hid (fun h => by subst her; rw [← hR]; exact setRes_ok h)
 rw [HPK.out] at HOK
 have h1 : er 0 = (jointRes q1 pt).2 := by subst her; rfl
 have h2 : er 1 = (boundRes o3 pt).2 := by subst her; rfl
 have h3 : er 2 = (boundRes o4 pt).2 := by subst her; rfl
 have h4 : er 3 = (boundRes q4 pt).2 := by subst her; rfl
 have H5 : Hid (er 4 = 0) := hid (by subst her; show (pkRes (87 :: l)).2 = _; rw [HPK.out])
 rw [hR]
 clear hR her HPK
 generalize jointRes q1 pt = r1 at HJ HOK h1
 generalize boundRes o3 pt = r2 at HB3' HOK h2
 generalize boundRes o4 pt = r3 at HB4' HOK h3
 generalize boundRes q4 pt = r4 at HBq HOK h4
 obtain ⟨t1, n1⟩ := r1
 obtain ⟨t2, n2⟩ := r2
 obtain ⟨t3, n3⟩ := r3
 obtain ⟨t4, n4⟩ := r4
 obtain rfl : n1 = er 0 := h1.symm
 obtain rfl : n2 = er 1 := h2.symm
 obtain rfl : n3 = er 2 := h3.symm
 obtain rfl : n4 = er 3 := h4.symm
 clear h1 h2 h3 h4
 obtain ⟨wa, hwa⟩ : ∃ wa, wa = w.alloc (.cells #[St o0, St o1, St o2, St o3, St o4] 33) := ⟨_, rfl⟩
 obtain ⟨wb, hwb⟩ : ∃ wb, wb = wa.alloc (.cells #[St q0, St q1, St (87 :: l), St q3, St q4] 33) := ⟨_, rfl⟩
 obtain ⟨w0, hw0⟩ : ∃ w0, w0 = wb.alloc (.cells #[St [], St [], St [], St [], St []] 26) := ⟨_, rfl⟩
 have hsa : wa.heap.size = w.heap.size + 1 := by rw [hwa]; simp
 have hsb : wb.heap.size = w.heap.size + 2 := by rw [hwb]; simp [hsa]
 have hs0 : w0.heap.size = w.heap.size + 3 := by rw [hw0]; simp [hsb]
 have ba : wa.heap[w.heap.size]? = some (.cells #[St o0, St o1, St o2, St o3, St o4] 33 (0, 0)) := by rw [hwa]; exact heap_alloc_new w _
 have bb : wb.heap[w.heap.size + 1]? = some (.cells #[St q0, St q1, St (87 :: l), St q3, St q4] 33 (0, 0)) := by rw [hwb, ← hsa]; exact heap_alloc_new wa _
 have la : Below wa.heap.size wa wb := by rw [hwb]; exact bel_alloc wa _
 have lb' : Below wb.heap.size wb w0 := by rw [hw0]; exact bel_alloc wb _
 have HB0 := hid ((lb'.block _ (by omega)).trans ((la.block _ (by omega)).trans ba) : w0.heap[w.heap.size]? = some (.cells #[St o0, St o1, St o2, St o3, St o4] 33 (0, 0)))
 have HB1 := hid ((lb'.block _ (by omega)).trans bb : w0.heap[w.heap.size + 1]? = some (.cells #[St q0, St q1, St (87 :: l), St q3, St q4] 33 (0, 0)))
 have HR0' : Hid (w0.heap[w.heap.size + 2]? = some (.cells #[St [], St [], St [], St [], St []] 26 (0, 0))) := hid (by rw [hw0, ← hsb]; exact heap_alloc_new wb _)
 have HBL0 : Hid (Below w.heap.size w w0) := hid ((by rw [hwa]; exact bel_alloc w _ : Below w.heap.size w wa).trans ((la.trans (lb'.mono (by omega))).mono (by omega)))
 have HW : Hid (w0 = ((w.alloc (.cells #[St o0, St o1, St o2, St o3, St o4] 33)).alloc (.cells #[St q0, St q1, St (87 :: l), St q3, St q4] 33)).alloc (.cells #[St [], St [], St [], St [], St []] 26)) := hid (by rw [hw0, hwb, hwa])
 have HS0 := hid hs0
 have cells : ∀ W, Below w0.heap.size w0 W → W.cell? ⟨w.heap.size, 3, none⟩ = some (St o3) ∧ W.cell? ⟨w.heap.size, 4, none⟩ = some (St o4) ∧ W.cell? ⟨w.heap.size + 1, 1, none⟩ = some (St q1) ∧ W.cell? ⟨w.heap.size + 1, 4, none⟩ = some (St q4) ∧ W.cell? ⟨w.heap.size + 1, 2, none⟩ = some (St (87 :: l)) := fun W hb =>
   ⟨by rw [cell_of_heap ((hb.block _ (heap_lt HB0.out)).trans HB0.out)]; rfl, by rw [cell_of_heap ((hb.block _ (heap_lt HB0.out)).trans HB0.out)]; rfl, by rw [cell_of_heap ((hb.block _ (heap_lt HB1.out)).trans HB1.out)]; rfl, by rw [cell_of_heap ((hb.block _ (heap_lt HB1.out)).trans HB1.out)]; rfl, by rw [cell_of_heap ((hb.block _ (heap_lt HB1.out)).trans HB1.out)]; rfl⟩
 have HC := hid cells
 have HJJ := hid (HJ.out w0)
 rw [HW.out] at HJJ
 clear hs0 hw0 hwb hwa hsa hsb ba bb la lb' wa wb cells
 go_enter Tryz.func43, Tryz.ntmps43
 go_wp2_with fail
 refine HJJ.out.mono ?_
 clear HJJ HJ
 rintro _ w1 ⟨rfl, hb1⟩
 rw [← HW.out] at hb1
 have HL1 := hid hb1
 clear hb1
 obtain ⟨k1, k2, k3, k4, k5⟩ := HC.out w1 HL1.out
 go_wp2_with fail
 refine (HB3'.out _).mono ?_
 rintro _ w2 ⟨rfl, hb2⟩
 have HL2 := hid (HL1.out.trans (hb2.mono HL1.out.size))
 clear hb2 k1 k2 k3 k4 k5 HB3'
 obtain ⟨k1, k2, k3, k4, k5⟩ := HC.out w2 HL2.out
 go_wp2_with fail
 refine (HB4'.out _).mono ?_
 rintro _ w3 ⟨rfl, hb3⟩
 have HL3 := hid (HL2.out.trans (hb3.mono HL2.out.size))
 clear hb3 k1 k2 k3 k4 k5 HB4'
 obtain ⟨k1, k2, k3, k4, k5⟩ := HC.out w3 HL3.out
 go_wp2_with fail
 refine (HBq.out _).mono ?_
 rintro _ w4 ⟨rfl, hb4⟩
 have HL4 := hid (HL3.out.trans (hb4.mono HL3.out.size))
 clear hb4 k1 k2 k3 k4 k5 HBq
 obtain ⟨k1, k2, k3, k4, k5⟩ := HC.out w4 HL4.out
 go_wp2_with fail
 refine (HRI.out _).mono ?_
 rintro _ w5 ⟨rfl, hb5⟩
 have HL5 := hid (HL4.out.trans (hb5.mono HL4.out.size))
 clear hb5 k1 k2 k3 k4 k5 HRI
 obtain ⟨k1, k2, k3, k4, k5⟩ := HC.out w5 HL5.out
 rw [HDB.out]
 obtain ⟨rowb, hrow⟩ : ∃ rowb, rowb = w5.heap.size := ⟨_, rfl⟩
 obtain ⟨w6, hw6⟩ : ∃ w6, w6 = w5.alloc (.cells #[.int .i64 (er 0 : Int), .int .i64 (er 1 : Int), .int .i64 (er 2 : Int), .int .i64 (er 3 : Int), .int .i64 0] 29) := ⟨_, rfl⟩
 have HT0 : Hid (w6.heap[rowb]? = some (.cells #[.int .i64 (er 0 : Int), .int .i64 (er 1 : Int), .int .i64 (er 2 : Int), .int .i64 (er 3 : Int), .int .i64 0] 29 (0, 0))) := hid (by rw [hw6, hrow]; exact heap_alloc_new w5 _)
 have HL6 : Hid (Below w0.heap.size w0 w6) := hid (HL5.out.trans ((by rw [hw6]; exact bel_alloc w5 _ : Below w5.heap.size w5 w6).mono HL5.out.size))
 have HR0 := hid ((HL6.out.block _ (heap_lt HR0'.out)).trans HR0'.out)
 have HBL := hid (HBL0.out.trans (HL6.out.mono HBL0.out.size))
 have HW6 := hid hw6
 have HROW := hid hrow
 have HB1' := HB1
 clear hw6 hrow HB1
 have HB1 := hid ((HL6.out.block _ (heap_lt HB1'.out)).trans HB1'.out)
 clear HB1' HR0' HB0 HL6 HC HW HBL0
 go_wp2_with fail
 have hro := HROW.out
 rw [← hro]
 clear hro k1 k2 k3 k4 k5
 go_loopg [75] 5 (fun gg v75 wr => ∃ i : Nat, i ≤ 5 ∧ gg = 5 - i ∧ v75 = .int .i64 (i : Int) ∧ Below w6.heap.size w6 wr ∧ ∀ j, j < i → er j = 0)
 case atStart => exact ⟨0, by omega, by omega, rfl, by rw [HW6.out]; exact Below.refl _ _, fun j hj => by omega⟩
 case round =>
   obtain ⟨i, hi, rfl, rfl, hbel, hz0⟩ := hrel
   have HBE := hid hbel
   have HZ := hid hz0
   clear hbel hz0
   by_cases hil : i < 5
   · rcases (show i = 0 ∨ i = 1 ∨ i = 2 ∨ i = 3 ∨ i = 4 by omega) with h | h | h | h | h
     · obtain rfl : i = 0 := by omega
       generalize hz : ((0 : Nat) : Int) = z
       obtain rfl : (0 : Int) = z := hz
       have hcl : wr.cell? ⟨rowb, 0, none⟩ = some (.int .i64 (er 0 : Int)) := by rw [cell_of_heap ((HBE.out.block _ (heap_lt HT0.out)).trans HT0.out)]; rfl
       by_cases he : er 0 = 0
       · have HHE := hid he
         have q1' : (((er 0 : Nat) : Int) == 0) = true := by rw [he]; rfl
         clear he hi hil
         go_wp2_with fail
         go_roundg (5 - (0 + 1))
         case measure => omega
         case rel => exact ⟨0 + 1, by omega, rfl, rfl, HBE.out, fun j hj => by rcases Nat.lt_or_ge j 0 with h | h; exact HZ.out j h; rw [show j = 0 by omega]; exact HHE.out⟩
       · have HRR : Hid (R = (zK, er 0)) := hid (HNO.out 0 (by omega) HZ.out he)
         have q1' : (((er 0 : Nat) : Int) == 0) = false := by simpa using he
         have q2' : ¬ ((er 0 : Nat) : Int) = 0 := by omega
         have hrb : wr.heap[w.heap.size + 2]? = some (.cells #[St [], St [], St [], St [], St []] 26 (0, 0)) := (HBE.out.block _ (heap_lt HR0.out)).trans HR0.out
         have cr : ∀ o, wr.cell? ⟨w.heap.size + 2, o, none⟩ = (#[St [], St [], St [], St [], St []] : Array Value)[o]? := fun o => cell_of_heap hrb o
         have fr : ∀ o, wr.frozen? ⟨w.heap.size + 2, o, none⟩ = false := fun o => frozen_of_heap hrb o
         have c0 : wr.cell? ⟨w.heap.size + 2, 0, none⟩ = some (St []) := cr 0
         have c1 : wr.cell? ⟨w.heap.size + 2, 1, none⟩ = some (St []) := cr 1
         have c2 : wr.cell? ⟨w.heap.size + 2, 2, none⟩ = some (St []) := cr 2
         have c3 : wr.cell? ⟨w.heap.size + 2, 3, none⟩ = some (St []) := cr 3
         have c4 : wr.cell? ⟨w.heap.size + 2, 4, none⟩ = some (St []) := cr 4
         clear cr hrb he HNO HOK hi hil
         go_wp2_with fail
         refine bodyPost_ret (v := .tuple #[.agg #[St [], St [], St [], St [], St []], .int .i64 (er 0 : Int)]) (by simp [results, Tryz.results43, go_sem, c0, c1, c2, c3, c4]) rfl ⟨by rw [HRR.out]; rfl, ?_⟩
         have HB3 := hid (HBL.out.trans (HBE.out.mono HBL.out.size))
         exact ((((HB3.out.setCell (by show w.heap.size ≤ w.heap.size + 2; omega) _).setCell (by show w.heap.size ≤ w.heap.size + 2; omega) _).setCell (by show w.heap.size ≤ w.heap.size + 2; omega) _).setCell (by show w.heap.size ≤ w.heap.size + 2; omega) _).setCell (by show w.heap.size ≤ w.heap.size + 2; omega) _
     · obtain rfl : i = 1 := by omega
       generalize hz : ((1 : Nat) : Int) = z
       obtain rfl : (1 : Int) = z := hz
       have hcl : wr.cell? ⟨rowb, 1, none⟩ = some (.int .i64 (er 1 : Int)) := by rw [cell_of_heap ((HBE.out.block _ (heap_lt HT0.out)).trans HT0.out)]; rfl
       by_cases he : er 1 = 0
       · have HHE := hid he
         have q1' : (((er 1 : Nat) : Int) == 0) = true := by rw [he]; rfl
         clear he hi hil
         go_wp2_with fail
         go_roundg (5 - (1 + 1))
         case measure => omega
         case rel => exact ⟨1 + 1, by omega, rfl, rfl, HBE.out, fun j hj => by rcases Nat.lt_or_ge j 1 with h | h; exact HZ.out j h; rw [show j = 1 by omega]; exact HHE.out⟩
       · have HRR : Hid (R = (zK, er 1)) := hid (HNO.out 1 (by omega) HZ.out he)
         have q1' : (((er 1 : Nat) : Int) == 0) = false := by simpa using he
         have q2' : ¬ ((er 1 : Nat) : Int) = 0 := by omega
         have hrb : wr.heap[w.heap.size + 2]? = some (.cells #[St [], St [], St [], St [], St []] 26 (0, 0)) := (HBE.out.block _ (heap_lt HR0.out)).trans HR0.out
         have cr : ∀ o, wr.cell? ⟨w.heap.size + 2, o, none⟩ = (#[St [], St [], St [], St [], St []] : Array Value)[o]? := fun o => cell_of_heap hrb o
         have fr : ∀ o, wr.frozen? ⟨w.heap.size + 2, o, none⟩ = false := fun o => frozen_of_heap hrb o
         have c0 : wr.cell? ⟨w.heap.size + 2, 0, none⟩ = some (St []) := cr 0
         have c1 : wr.cell? ⟨w.heap.size + 2, 1, none⟩ = some (St []) := cr 1
         have c2 : wr.cell? ⟨w.heap.size + 2, 2, none⟩ = some (St []) := cr 2
         have c3 : wr.cell? ⟨w.heap.size + 2, 3, none⟩ = some (St []) := cr 3
         have c4 : wr.cell? ⟨w.heap.size + 2, 4, none⟩ = some (St []) := cr 4
         clear cr hrb he HNO HOK hi hil
         go_wp2_with fail
         refine bodyPost_ret (v := .tuple #[.agg #[St [], St [], St [], St [], St []], .int .i64 (er 1 : Int)]) (by simp [results, Tryz.results43, go_sem, c0, c1, c2, c3, c4]) rfl ⟨by rw [HRR.out]; rfl, ?_⟩
         have HB3 := hid (HBL.out.trans (HBE.out.mono HBL.out.size))
         exact ((((HB3.out.setCell (by show w.heap.size ≤ w.heap.size + 2; omega) _).setCell (by show w.heap.size ≤ w.heap.size + 2; omega) _).setCell (by show w.heap.size ≤ w.heap.size + 2; omega) _).setCell (by show w.heap.size ≤ w.heap.size + 2; omega) _).setCell (by show w.heap.size ≤ w.heap.size + 2; omega) _
     · obtain rfl : i = 2 := by omega
       generalize hz : ((2 : Nat) : Int) = z
       obtain rfl : (2 : Int) = z := hz
       have hcl : wr.cell? ⟨rowb, 2, none⟩ = some (.int .i64 (er 2 : Int)) := by rw [cell_of_heap ((HBE.out.block _ (heap_lt HT0.out)).trans HT0.out)]; rfl
       by_cases he : er 2 = 0
       · have HHE := hid he
         have q1' : (((er 2 : Nat) : Int) == 0) = true := by rw [he]; rfl
         clear he hi hil
         go_wp2_with fail
         go_roundg (5 - (2 + 1))
         case measure => omega
         case rel => exact ⟨2 + 1, by omega, rfl, rfl, HBE.out, fun j hj => by rcases Nat.lt_or_ge j 2 with h | h; exact HZ.out j h; rw [show j = 2 by omega]; exact HHE.out⟩
       · have HRR : Hid (R = (zK, er 2)) := hid (HNO.out 2 (by omega) HZ.out he)
         have q1' : (((er 2 : Nat) : Int) == 0) = false := by simpa using he
         have q2' : ¬ ((er 2 : Nat) : Int) = 0 := by omega
         have hrb : wr.heap[w.heap.size + 2]? = some (.cells #[St [], St [], St [], St [], St []] 26 (0, 0)) := (HBE.out.block _ (heap_lt HR0.out)).trans HR0.out
         have cr : ∀ o, wr.cell? ⟨w.heap.size + 2, o, none⟩ = (#[St [], St [], St [], St [], St []] : Array Value)[o]? := fun o => cell_of_heap hrb o
         have fr : ∀ o, wr.frozen? ⟨w.heap.size + 2, o, none⟩ = false := fun o => frozen_of_heap hrb o
         have c0 : wr.cell? ⟨w.heap.size + 2, 0, none⟩ = some (St []) := cr 0
         have c1 : wr.cell? ⟨w.heap.size + 2, 1, none⟩ = some (St []) := cr 1
         have c2 : wr.cell? ⟨w.heap.size + 2, 2, none⟩ = some (St []) := cr 2
         have c3 : wr.cell? ⟨w.heap.size + 2, 3, none⟩ = some (St []) := cr 3
         have c4 : wr.cell? ⟨w.heap.size + 2, 4, none⟩ = some (St []) := cr 4
         clear cr hrb he HNO HOK hi hil
         go_wp2_with fail
         refine bodyPost_ret (v := .tuple #[.agg #[St [], St [], St [], St [], St []], .int .i64 (er 2 : Int)]) (by simp [results, Tryz.results43, go_sem, c0, c1, c2, c3, c4]) rfl ⟨by rw [HRR.out]; rfl, ?_⟩
         have HB3 := hid (HBL.out.trans (HBE.out.mono HBL.out.size))
         exact ((((HB3.out.setCell (by show w.heap.size ≤ w.heap.size + 2; omega) _).setCell (by show w.heap.size ≤ w.heap.size + 2; omega) _).setCell (by show w.heap.size ≤ w.heap.size + 2; omega) _).setCell (by show w.heap.size ≤ w.heap.size + 2; omega) _).setCell (by show w.heap.size ≤ w.heap.size + 2; omega) _
     · obtain rfl : i = 3 := by omega
       generalize hz : ((3 : Nat) : Int) = z
       obtain rfl : (3 : Int) = z := hz
       have hcl : wr.cell? ⟨rowb, 3, none⟩ = some (.int .i64 (er 3 : Int)) := by rw [cell_of_heap ((HBE.out.block _ (heap_lt HT0.out)).trans HT0.out)]; rfl
       by_cases he : er 3 = 0
       · have HHE := hid he
         have q1' : (((er 3 : Nat) : Int) == 0) = true := by rw [he]; rfl
         clear he hi hil
         go_wp2_with fail
         go_roundg (5 - (3 + 1))
         case measure => omega
         case rel => exact ⟨3 + 1, by omega, rfl, rfl, HBE.out, fun j hj => by rcases Nat.lt_or_ge j 3 with h | h; exact HZ.out j h; rw [show j = 3 by omega]; exact HHE.out⟩
       · have HRR : Hid (R = (zK, er 3)) := hid (HNO.out 3 (by omega) HZ.out he)
         have q1' : (((er 3 : Nat) : Int) == 0) = false := by simpa using he
         have q2' : ¬ ((er 3 : Nat) : Int) = 0 := by omega
         have hrb : wr.heap[w.heap.size + 2]? = some (.cells #[St [], St [], St [], St [], St []] 26 (0, 0)) := (HBE.out.block _ (heap_lt HR0.out)).trans HR0.out
         have cr : ∀ o, wr.cell? ⟨w.heap.size + 2, o, none⟩ = (#[St [], St [], St [], St [], St []] : Array Value)[o]? := fun o => cell_of_heap hrb o
         have fr : ∀ o, wr.frozen? ⟨w.heap.size + 2, o, none⟩ = false := fun o => frozen_of_heap hrb o
         have c0 : wr.cell? ⟨w.heap.size + 2, 0, none⟩ = some (St []) := cr 0
         have c1 : wr.cell? ⟨w.heap.size + 2, 1, none⟩ = some (St []) := cr 1
         have c2 : wr.cell? ⟨w.heap.size + 2, 2, none⟩ = some (St []) := cr 2
         have c3 : wr.cell? ⟨w.heap.size + 2, 3, none⟩ = some (St []) := cr 3
         have c4 : wr.cell? ⟨w.heap.size + 2, 4, none⟩ = some (St []) := cr 4
         clear cr hrb he HNO HOK hi hil
         go_wp2_with fail
         refine bodyPost_ret (v := .tuple #[.agg #[St [], St [], St [], St [], St []], .int .i64 (er 3 : Int)]) (by simp [results, Tryz.results43, go_sem, c0, c1, c2, c3, c4]) rfl ⟨by rw [HRR.out]; rfl, ?_⟩
         have HB3 := hid (HBL.out.trans (HBE.out.mono HBL.out.size))
         exact ((((HB3.out.setCell (by show w.heap.size ≤ w.heap.size + 2; omega) _).setCell (by show w.heap.size ≤ w.heap.size + 2; omega) _).setCell (by show w.heap.size ≤ w.heap.size + 2; omega) _).setCell (by show w.heap.size ≤ w.heap.size + 2; omega) _).setCell (by show w.heap.size ≤ w.heap.size + 2; omega) _
     · obtain rfl : i = 4 := by omega
       generalize hz : ((4 : Nat) : Int) = z
       obtain rfl : (4 : Int) = z := hz
       have hcl : wr.cell? ⟨rowb, 4, none⟩ = some (.int .i64 0) := by rw [cell_of_heap ((HBE.out.block _ (heap_lt HT0.out)).trans HT0.out)]; rfl
       clear hi hil
       go_wp2_with fail
       go_roundg (5 - (4 + 1))
       case measure => omega
       case rel => exact ⟨4 + 1, by omega, rfl, rfl, HBE.out, fun j hj => by rcases Nat.lt_or_ge j 4 with h | h; exact HZ.out j h; rw [show j = 4 by omega]; exact H5.out⟩
   · obtain rfl : i = 5 := by omega
     generalize hz : ((5 : Nat) : Int) = z
     obtain rfl : (5 : Int) = z := hz
     have HRR := hid (HOK.out (fun j hj => HZ.out j hj))
     have hrb : wr.heap[w.heap.size + 2]? = some (.cells #[St [], St [], St [], St [], St []] 26 (0, 0)) := (HBE.out.block _ (heap_lt HR0.out)).trans HR0.out
     have cr : ∀ o, wr.cell? ⟨w.heap.size + 2, o, none⟩ = (#[St [], St [], St [], St [], St []] : Array Value)[o]? := fun o => cell_of_heap hrb o
     have fr : ∀ o, wr.frozen? ⟨w.heap.size + 2, o, none⟩ = false := fun o => frozen_of_heap hrb o
     have c0 : wr.cell? ⟨w.heap.size + 2, 0, none⟩ = some (St []) := cr 0
     have c1 : wr.cell? ⟨w.heap.size + 2, 1, none⟩ = some (St []) := cr 1
     have c2 : wr.cell? ⟨w.heap.size + 2, 2, none⟩ = some (St []) := cr 2
     have c3 : wr.cell? ⟨w.heap.size + 2, 3, none⟩ = some (St []) := cr 3
     have c4 : wr.cell? ⟨w.heap.size + 2, 4, none⟩ = some (St []) := cr 4
     have hp2 : wr.cell? ⟨w.heap.size + 1, 2, none⟩ = some (St (87 :: l)) := by rw [cell_of_heap ((HBE.out.block _ (heap_lt HB1.out)).trans HB1.out)]; rfl
     clear cr hrb HNO HOK hi hil
     go_wp2_with fail
     refine bodyPost_ret (v := .tuple #[.agg #[St t1, St t2, St t3, St t4, St (87 :: l)], .int .i64 0]) (by simp [results, Tryz.results43, go_sem, c0, c1, c2, c3, c4]) rfl ⟨by rw [HRR.out]; rfl, ?_⟩
     have HB3 := hid (HBL.out.trans (HBE.out.mono HBL.out.size))
     exact ((((HB3.out.setCell (by show w.heap.size ≤ w.heap.size + 2; omega) _).setCell (by show w.heap.size ≤ w.heap.size + 2; omega) _).setCell (by show w.heap.size ≤ w.heap.size + 2; omega) _).setCell (by show w.heap.size ≤ w.heap.size + 2; omega) _).setCell (by show w.heap.size ≤ w.heap.size + 2; omega) _
set_option maxHeartbeats 2000000 in
set_option maxRecDepth 100000 in
theorem rset_76 (o0 o1 o2 o3 o4 q0 q1 q3 q4 pt : Bs) (l : Bs) (hd : Tm.deep (76 :: l) ≠ 0) (w : World) : Calls Tryz.prog 43 #[.agg #[St o0, St o1, St o2, St o3, St o4], .agg #[St q0, St q1, St (76 :: l), St q3, St q4], St pt] w fun en w' => en = .returned (.tuple #[(setRes ⟨o0, o1, o2, o3, o4⟩ ⟨q0, q1, 76 :: l, q3, q4⟩ pt).1.v, .int .i64 ((setRes ⟨o0, o1, o2, o3, o4⟩ ⟨q0, q1, 76 :: l, q3, q4⟩ pt).2 : Int)]) ∧ Below w.heap.size w w' := by
 have HJ := hid (fun W => rjoints_any q1 pt W)
 have HB3' := hid (fun W => rbounds_any o3 pt W)
 have HB4' := hid (fun W => rbounds_any o4 pt W)
 have HBq := hid (fun W => rbounds_any q4 pt W)
 have HRI := hid (fun W => rright_any (76 :: l) W)
 have HPK : Hid (pkRes (76 :: l) = (76 :: l, 0)) := hid (by unfold pkRes; rw [if_pos ⟨hd, rfl⟩])
 have HDB : Hid ((Tm.deep (76 :: l) != 0) = true) := hid (by simpa using hd)
 have hsz : 0 < ((⟨(76 :: l).toArray⟩ : ByteArray)).size := by rw [st_size]; simp
 have hix : ∀ h, (⟨((76 : UInt8) :: l).toArray⟩ : ByteArray)[0]'h = 76 := fun _ => rfl
 clear hd
 obtain ⟨er, her⟩ : ∃ er, setE ⟨o0, o1, o2, o3, o4⟩ ⟨q0, q1, 76 :: l, q3, q4⟩ pt = er := ⟨_, rfl⟩
 obtain ⟨R, hR⟩ : ∃ R, setRes ⟨o0, o1, o2, o3, o4⟩ ⟨q0, q1, 76 :: l, q3, q4⟩ pt = R := ⟨_, rfl⟩
 have HNO : Hid (∀ i, i < 5 → (∀ j, j < i → er j = 0) → er i ≠ 0 → R = (zK, er i)) := hid (fun i hi g0 g1 => by subst her; rw [← hR]; exact setRes_no hi g0 g1)
 have HOK : Hid ((∀ j, j < 5 → er j = 0) → R = (⟨(jointRes q1 pt).1, (boundRes o3 pt).1, (boundRes o4 pt).1, (boundRes q4 pt).1, (pkRes (76 :: l)).1⟩, 0)) := hid (fun h => by subst her; rw [← hR]; exact setRes_ok h)
 rw [HPK.out] at HOK
 have h1 : er 0 = (jointRes q1 pt).2 := by subst her; rfl
 have h2 : er 1 = (boundRes o3 pt).2 := by subst her; rfl
 have h3 : er 2 = (boundRes o4 pt).2 := by subst her; rfl
 have h4 : er 3 = (boundRes q4 pt).2 := by subst her; rfl
 have H5 : Hid (er 4 = 0) := hid (by subst her; show (pkRes (76 :: l)).2 = _; rw [HPK.out])
 rw [hR]
 clear hR her HPK
 generalize jointRes q1 pt = r1 at HJ HOK h1
 generalize boundRes o3 pt = r2 at HB3' HOK h2
 generalize boundRes o4 pt = r3 at HB4' HOK h3
 generalize boundRes q4 pt = r4 at HBq HOK h4
 obtain ⟨t1, n1⟩ := r1
 obtain ⟨t2, n2⟩ := r2
 obtain ⟨t3, n3⟩ := r3
 obtain ⟨t4, n4⟩ := r4
 obtain rfl : n1 = er 0 := h1.symm
 obtain rfl : n2 = er 1 := h2.symm
 obtain rfl : n3 = er 2 := h3.symm
 obtain rfl : n4 = er 3 := h4.symm
 clear h1 h2 h3 h4
 obtain ⟨wa, hwa⟩ : ∃ wa, wa = w.alloc (.cells #[St o0, St o1, St o2, St o3, St o4] 33) := ⟨_, rfl⟩
 obtain ⟨wb, hwb⟩ : ∃ wb, wb = wa.alloc (.cells #[St q0, St q1, St (76 :: l), St q3, St q4] 33) := ⟨_, rfl⟩
 obtain ⟨w0, hw0⟩ : ∃ w0, w0 = wb.alloc (.cells #[St [], St [], St [], St [], St []] 26) := ⟨_, rfl⟩
 have hsa : wa.heap.size = w.heap.size + 1 := by rw [hwa]; simp
 have hsb : wb.heap.size = w.heap.size + 2 := by rw [hwb]; simp [hsa]
 have hs0 : w0.heap.size = w.heap.size + 3 := by rw [hw0]; simp [hsb]
 have ba : wa.heap[w.heap.size]? = some (.cells #[St o0, St o1, St o2, St o3, St o4] 33 (0, 0)) := by rw [hwa]; exact heap_alloc_new w _
 have bb : wb.heap[w.heap.size + 1]? = some (.cells #[St q0, St q1, St (76 :: l), St q3, St q4] 33 (0, 0)) := by rw [hwb, ← hsa]; exact heap_alloc_new wa _
 have la : Below wa.heap.size wa wb := by rw [hwb]; exact bel_alloc wa _
 have lb' : Below wb.heap.size wb w0 := by rw [hw0]; exact bel_alloc wb _
 have HB0 := hid ((lb'.block _ (by omega)).trans ((la.block _ (by omega)).trans ba) : w0.heap[w.heap.size]? = some (.cells #[St o0, St o1, St o2, St o3, St o4] 33 (0, 0)))
 have HB1 := hid ((lb'.block _ (by omega)).trans bb : w0.heap[w.heap.size + 1]? = some (.cells #[St q0, St q1, St (76 :: l), St q3, St q4] 33 (0, 0)))
 have HR0' : Hid (w0.heap[w.heap.size + 2]? = some (.cells #[St [], St [], St [], St [], St []] 26 (0, 0))) := hid (by rw [hw0, ← hsb]; exact heap_alloc_new wb _)
 have HBL0 : Hid (Below w.heap.size w w0) := hid ((by rw [hwa]; exact bel_alloc w _ : Below w.heap.size w wa).trans ((la.trans (lb'.mono (by omega))).mono (by omega)))
 have HW : Hid (w0 = ((w.alloc (.cells #[St o0, St o1, St o2, St o3, St o4] 33)).alloc (.cells #[St q0, St q1, St (76 :: l), St q3, St q4] 33)).alloc (.cells #[St [], St [], St [], St [], St []] 26)) := hid (by rw [hw0, hwb, hwa])
 have HS0 := hid hs0
 have cells : ∀ W, Below w0.heap.size w0 W → W.cell? ⟨w.heap.size, 3, none⟩ = some (St o3) ∧ W.cell? ⟨w.heap.size, 4, none⟩ = some (St o4) ∧ W.cell? ⟨w.heap.size + 1, 1, none⟩ = some (St q1) ∧ W.cell? ⟨w.heap.size + 1, 4, none⟩ = some (St q4) ∧ W.cell? ⟨w.heap.size + 1, 2, none⟩ = some (St (76 :: l)) := fun W hb =>
   ⟨by rw [cell_of_heap ((hb.block _ (heap_lt HB0.out)).trans HB0.out)]; rfl, by rw [cell_of_heap ((hb.block _ (heap_lt HB0.out)).trans HB0.out)]; rfl, by rw [cell_of_heap ((hb.block _ (heap_lt HB1.out)).trans HB1.out)]; rfl, by rw [cell_of_heap ((hb.block _ (heap_lt HB1.out)).trans HB1.out)]; rfl, by rw [cell_of_heap ((hb.block _ (heap_lt HB1.out)).trans HB1.out)]; rfl⟩
 have HC := hid cells
 have HJJ := hid (HJ.out w0)
 rw [HW.out] at HJJ
 clear hs0 hw0 hwb hwa hsa hsb ba bb la lb' wa wb cells
 go_enter Tryz.func43, Tryz.ntmps43
 go_wp2_with fail
 refine HJJ.out.mono ?_
 clear HJJ HJ
 rintro _ w1 ⟨rfl, hb1⟩
 rw [← HW.out] at hb1
 have HL1 := hid hb1
 clear hb1
 obtain ⟨k1, k2, k3, k4, k5⟩ := HC.out w1 HL1.out
 go_wp2_with fail
 refine (HB3'.out _).mono ?_
 rintro _ w2 ⟨rfl, hb2⟩
 have HL2 := hid (HL1.out.trans (hb2.mono HL1.out.size))
 clear hb2 k1 k2 k3 k4 k5 HB3'
 obtain ⟨k1, k2, k3, k4, k5⟩ := HC.out w2 HL2.out
 go_wp2_with fail
 refine (HB4'.out _).mono ?_
 rintro _ w3 ⟨rfl, hb3⟩
 have HL3 := hid (HL2.out.trans (hb3.mono HL2.out.size))
 clear hb3 k1 k2 k3 k4 k5 HB4'
 obtain ⟨k1, k2, k3, k4, k5⟩ := HC.out w3 HL3.out
 go_wp2_with fail
 refine (HBq.out _).mono ?_
 rintro _ w4 ⟨rfl, hb4⟩
 have HL4 := hid (HL3.out.trans (hb4.mono HL3.out.size))
 clear hb4 k1 k2 k3 k4 k5 HBq
 obtain ⟨k1, k2, k3, k4, k5⟩ := HC.out w4 HL4.out
 go_wp2_with fail
 refine (HRI.out _).mono ?_
 rintro _ w5 ⟨rfl, hb5⟩
 have HL5 := hid (HL4.out.trans (hb5.mono HL4.out.size))
 clear hb5 k1 k2 k3 k4 k5 HRI
 obtain ⟨k1, k2, k3, k4, k5⟩ := HC.out w5 HL5.out
 rw [HDB.out]
 obtain ⟨rowb, hrow⟩ : ∃ rowb, rowb = w5.heap.size := ⟨_, rfl⟩
 obtain ⟨w6, hw6⟩ : ∃ w6, w6 = w5.alloc (.cells #[.int .i64 (er 0 : Int), .int .i64 (er 1 : Int), .int .i64 (er 2 : Int), .int .i64 (er 3 : Int), .int .i64 0] 29) := ⟨_, rfl⟩
 have HT0 : Hid (w6.heap[rowb]? = some (.cells #[.int .i64 (er 0 : Int), .int .i64 (er 1 : Int), .int .i64 (er 2 : Int), .int .i64 (er 3 : Int), .int .i64 0] 29 (0, 0))) := hid (by rw [hw6, hrow]; exact heap_alloc_new w5 _)
 have HL6 : Hid (Below w0.heap.size w0 w6) := hid (HL5.out.trans ((by rw [hw6]; exact bel_alloc w5 _ : Below w5.heap.size w5 w6).mono HL5.out.size))
 have HR0 := hid ((HL6.out.block _ (heap_lt HR0'.out)).trans HR0'.out)
 have HBL := hid (HBL0.out.trans (HL6.out.mono HBL0.out.size))
 have HW6 := hid hw6
 have HROW := hid hrow
 have HB1' := HB1
 clear hw6 hrow HB1
 have HB1 := hid ((HL6.out.block _ (heap_lt HB1'.out)).trans HB1'.out)
 clear HB1' HR0' HB0 HL6 HC HW HBL0
 go_wp2_with fail
 have hro := HROW.out
 rw [← hro]
 clear hro k1 k2 k3 k4 k5
 go_loopg [75] 5 (fun gg v75 wr => ∃ i : Nat, i ≤ 5 ∧ gg = 5 - i ∧ v75 = .int .i64 (i : Int) ∧ Below w6.heap.size w6 wr ∧ ∀ j, j < i → er j = 0)
 case atStart => exact ⟨0, by omega, by omega, rfl, by rw [HW6.out]; exact Below.refl _ _, fun j hj => by omega⟩
 case round =>
   obtain ⟨i, hi, rfl, rfl, hbel, hz0⟩ := hrel
   have HBE := hid hbel
   have HZ := hid hz0
   clear hbel hz0
   by_cases hil : i < 5
   · rcases (show i = 0 ∨ i = 1 ∨ i = 2 ∨ i = 3 ∨ i = 4 by omega) with h | h | h | h | h
     · obtain rfl : i = 0 := by omega
       generalize hz : ((0 : Nat) : Int) = z
       obtain rfl : (0 : Int) = z := hz
       have hcl : wr.cell? ⟨rowb, 0, none⟩ = some (.int .i64 (er 0 : Int)) := by rw [cell_of_heap ((HBE.out.block _ (heap_lt HT0.out)).trans HT0.out)]; rfl
       by_cases he : er 0 = 0
       · have HHE := hid he
         have q1' : (((er 0 : Nat) : Int) == 0) = true := by rw [he]; rfl
         clear he hi hil
         go_wp2_with fail
         go_roundg (5 - (0 + 1))
         case measure => omega
         case rel => exact ⟨0 + 1, by omega, rfl, rfl, HBE.out, fun j hj => by rcases Nat.lt_or_ge j 0 with h | h; exact HZ.out j h; rw [show j = 0 by omega]; exact HHE.out⟩
       · have HRR : Hid (R = (zK, er 0)) := hid (HNO.out 0 (by omega) HZ.out he)
         have q1' : (((er 0 : Nat) : Int) == 0) = false := by simpa using he
         have q2' : ¬ ((er 0 : Nat) : Int) = 0 := by omega
         have hrb : wr.heap[w.heap.size + 2]? = some (.cells #[St [], St [], St [], St [], St []] 26 (0, 0)) := (HBE.out.block _ (heap_lt HR0.out)).trans HR0.out
         have cr : ∀ o, wr.cell? ⟨w.heap.size + 2, o, none⟩ = (#[St [], St [], St [], St [], St []] : Array Value)[o]? := fun o => cell_of_heap hrb o
         have fr : ∀ o, wr.frozen? ⟨w.heap.size + 2, o, none⟩ = false := fun o => frozen_of_heap hrb o
         have c0 : wr.cell? ⟨w.heap.size + 2, 0, none⟩ = some (St []) := cr 0
         have c1 : wr.cell? ⟨w.heap.size + 2, 1, none⟩ = some (St []) := cr 1
         have c2 : wr.cell? ⟨w.heap.size + 2, 2, none⟩ = some (St []) := cr 2
         have c3 : wr.cell? ⟨w.heap.size + 2, 3, none⟩ = some (St []) := cr 3
         have c4 : wr.cell? ⟨w.heap.size + 2, 4, none⟩ = some (St []) := cr 4
         clear cr hrb he HNO HOK hi hil
         go_wp2_with fail
         refine bodyPost_ret (v := .tuple #[.agg #[St [], St [], St [], St [], St []], .int .i64 (er 0 : Int)]) (by simp [results, Tryz.results43, go_sem, c0, c1, c2, c3, c4]) rfl ⟨by rw [HRR.out]; rfl, ?_⟩
         have HB3 := hid (HBL.out.trans (HBE.out.mono HBL.out.size))
         exact ((((HB3.out.setCell (by show w.heap.size ≤ w.heap.size + 2; omega) _).setCell (by show w.heap.size ≤ w.heap.size + 2; omega) _).setCell (by show w.heap.size ≤ w.heap.size + 2; omega) _).setCell (by show w.heap.size ≤ w.heap.size + 2; omega) _).setCell (by show w.heap.size ≤ w.heap.size + 2; omega) _
     · obtain rfl : i = 1 := by omega
       generalize hz : ((1 : Nat) : Int) = z
       obtain rfl : (1 : Int) = z := hz
       have hcl : wr.cell? ⟨rowb, 1, none⟩ = some (.int .i64 (er 1 : Int)) := by rw [cell_of_heap ((HBE.out.block _ (heap_lt HT0.out)).trans HT0.out)]; rfl
       by_cases he : er 1 = 0
       · have HHE := hid he
         have q1' : (((er 1 : Nat) : Int) == 0) = true := by rw [he]; rfl
         clear he hi hil
         go_wp2_with fail
         go_roundg (5 - (1 + 1))
         case measure => omega
         case rel => exact ⟨1 + 1, by omega, rfl, rfl, HBE.out, fun j hj => by rcases Nat.lt_or_ge j 1 with h | h; exact HZ.out j h; rw [show j = 1 by omega]; exact HHE.out⟩
       · have HRR : Hid (R = (zK, er 1)) := hid (HNO.out 1 (by omega) HZ.out he)
         have q1' : (((er 1 : Nat) : Int) == 0) = false := by simpa using he
         have q2' : ¬ ((er 1 : Nat) : Int) = 0 := by omega
         have hrb : wr.heap[w.heap.size + 2]? = some (.cells #[St [], St [], St [], St [], St []] 26 (0, 0)) := (HBE.out.block _ (heap_lt HR0.out)).trans HR0.out
         have cr : ∀ o, wr.cell? ⟨w.heap.size + 2, o, none⟩ = (#[St [], St [], St [], St [], St []] : Array Value)[o]? := fun o => cell_of_heap hrb o
         have fr : ∀ o, wr.frozen? ⟨w.heap.size + 2, o, none⟩ = false := fun o => frozen_of_heap hrb o
         have c0 : wr.cell? ⟨w.heap.size + 2, 0, none⟩ = some (St []) := cr 0
         have c1 : wr.cell? ⟨w.heap.size + 2, 1, none⟩ = some (St []) := cr 1
         have c2 : wr.cell? ⟨w.heap.size + 2, 2, none⟩ = some (St []) := cr 2
         have c3 : wr.cell? ⟨w.heap.size + 2, 3, none⟩ = some (St []) := cr 3
         have c4 : wr.cell? ⟨w.heap.size + 2, 4, none⟩ = some (St []) := cr 4
         clear cr hrb he HNO HOK hi hil
         go_wp2_with fail
         refine bodyPost_ret (v := .tuple #[.agg #[St [], St [], St [], St [], St []], .int .i64 (er 1 : Int)]) (by simp [results, Tryz.results43, go_sem, c0, c1, c2, c3, c4]) rfl ⟨by rw [HRR.out]; rfl, ?_⟩
         have HB3 := hid (HBL.out.trans (HBE.out.mono HBL.out.size))
         exact ((((HB3.out.setCell (by show w.heap.size ≤ w.heap.size + 2; omega) _).setCell (by show w.heap.size ≤ w.heap.size + 2; omega) _).setCell (by show w.heap.size ≤ w.heap.size + 2; omega) _).setCell (by show w.heap.size ≤ w.heap.size + 2; omega) _).setCell (by show w.heap.size ≤ w.heap.size + 2; omega) _
     · obtain rfl : i = 2 := by omega
       generalize hz : ((2 : Nat) : Int) = z
       obtain rfl : (2 : Int) = z := hz
       have hcl : wr.cell? ⟨rowb, 2, none⟩ = some (.int .i64 (er 2 : Int)) := by rw [cell_of_heap ((HBE.out.block _ (heap_lt HT0.out)).trans HT0.out)]; rfl
       by_cases he : er 2 = 0
       · have HHE := hid he
         have q1' : (((er 2 : Nat) : Int) == 0) = true := by rw [he]; rfl
         clear he hi hil
         go_wp2_with fail
         go_roundg (5 - (2 + 1))
         case measure => omega
         case rel => exact ⟨2 + 1, by omega, rfl, rfl, HBE.out, fun j hj => by rcases Nat.lt_or_ge j 2 with h | h; exact HZ.out j h; rw [show j = 2 by omega]; exact HHE.out⟩
       · have HRR : Hid (R = (zK, er 2)) := hid (HNO.out 2 (by omega) HZ.out he)
         have q1' : (((er 2 : Nat) : Int) == 0) = false := by simpa using he
         have q2' : ¬ ((er 2 : Nat) : Int) = 0 := by omega
         have hrb : wr.heap[w.heap.size + 2]? = some (.cells #[St [], St [], St [], St [], St []] 26 (0, 0)) := (HBE.out.block _ (heap_lt HR0.out)).trans HR0.out
         have cr : ∀ o, wr.cell? ⟨w.heap.size + 2, o, none⟩ = (#[St [], St [], St [], St [], St []] : Array Value)[o]? := fun o => cell_of_heap hrb o
         have fr : ∀ o, wr.frozen? ⟨w.heap.size + 2, o, none⟩ = false := fun o => frozen_of_heap hrb o
         have c0 : wr.cell? ⟨w.heap.size + 2, 0, none⟩ = some (St []) := cr 0
         have c1 : wr.cell? ⟨w.heap.size + 2, 1, none⟩ = some (St []) := cr 1
         have c2 : wr.cell? ⟨w.heap.size + 2, 2, none⟩ = some (St []) := cr 2
         have c3 : wr.cell? ⟨w.heap.size + 2, 3, none⟩ = some (St []) := cr 3
         have c4 : wr.cell? ⟨w.heap.size + 2, 4, none⟩ = some (St []) := cr 4
         clear cr hrb he HNO HOK hi hil
         go_wp2_with fail
         refine bodyPost_ret (v := .tuple #[.agg #[St [], St [], St [], St [], St []], .int .i64 (er 2 : Int)]) (by simp [results, Tryz.results43, go_sem, c0, c1, c2, c3, c4]) rfl ⟨by rw [HRR.out]; rfl, ?_⟩
         have HB3 := hid (HBL.out.trans (HBE.out.mono HBL.out.size))
         exact ((((HB3.out.setCell (by show w.heap.size ≤ w.heap.size + 2; omega) _).setCell (by show w.heap.size ≤ w.heap.size + 2; omega) _).setCell (by show w.heap.size ≤ w.heap.size + 2; omega) _).setCell (by show w.heap.size ≤ w.heap.size + 2; omega) _).setCell (by show w.heap.size ≤ w.heap.size + 2; omega) _
     · obtain rfl : i = 3 := by omega
       generalize hz : ((3 : Nat) : Int) = z
       obtain rfl : (3 : Int) = z := hz
       have hcl : wr.cell? ⟨rowb, 3, none⟩ = some (.int .i64 (er 3 : Int)) := by rw [cell_of_heap ((HBE.out.block _ (heap_lt HT0.out)).trans HT0.out)]; rfl
       by_cases he : er 3 = 0
       · have HHE := hid he
         have q1' : (((er 3 : Nat) : Int) == 0) = true := by rw [he]; rfl
         clear he hi hil
         go_wp2_with fail
         go_roundg (5 - (3 + 1))
         case measure => omega
         case rel => exact ⟨3 + 1, by omega, rfl, rfl, HBE.out, fun j hj => by rcases Nat.lt_or_ge j 3 with h | h; exact HZ.out j h; rw [show j = 3 by omega]; exact HHE.out⟩
       · have HRR : Hid (R = (zK, er 3)) := hid (HNO.out 3 (by omega) HZ.out he)
         have q1' : (((er 3 : Nat) : Int) == 0) = false := by simpa using he
         have q2' : ¬ ((er 3 : Nat) : Int) = 0 := by omega
         have hrb : wr.heap[w.heap.size + 2]? = some (.cells #[St [], St [], St [], St [], St []] 26 (0, 0)) := (HBE.out.block _ (heap_lt HR0.out)).trans HR0.out
         have cr : ∀ o, wr.cell? ⟨w.heap.size + 2, o, none⟩ = (#[St [], St [], St [], St [], St []] : Array Value)[o]? := fun o => cell_of_heap hrb o
         have fr : ∀ o, wr.frozen? ⟨w.heap.size + 2, o, none⟩ = false := fun o => frozen_of_heap hrb o
         have c0 : wr.cell? ⟨w.heap.size + 2, 0, none⟩ = some (St []) := cr 0
         have c1 : wr.cell? ⟨w.heap.size + 2, 1, none⟩ = some (St []) := cr 1
         have c2 : wr.cell? ⟨w.heap.size + 2, 2, none⟩ = some (St []) := cr 2
         have c3 : wr.cell? ⟨w.heap.size + 2, 3, none⟩ = some (St []) := cr 3
         have c4 : wr.cell? ⟨w.heap.size + 2, 4, none⟩ = some (St []) := cr 4
         clear cr hrb he HNO HOK hi hil
         go_wp2_with fail
         refine bodyPost_ret (v := .tuple #[.agg #[St [], St [], St [], St [], St []], .int .i64 (er 3 : Int)]) (by simp [results, Tryz.results43, go_sem, c0, c1, c2, c3, c4]) rfl ⟨by rw [HRR.out]; rfl, ?_⟩
         have HB3 := hid (HBL.out.trans (HBE.out.mono HBL.out.size))
         exact ((((HB3.out.setCell (by show w.heap.size ≤ w.heap.size + 2; omega) _).setCell (by show w.heap.size ≤ w.heap.size + 2; omega) _).setCell (by show w.heap.size ≤ w.heap.size + 2; omega) _).setCell (by show w.heap.size ≤ w.heap.size + 2; omega) _).setCell (by show w.heap.size ≤ w.heap.size + 2; omega) _
     · obtain rfl : i = 4 := by omega
       generalize hz : ((4 : Nat) : Int) = z
       obtain rfl : (4 : Int) = z := hz
       have hcl : wr.cell? ⟨rowb, 4, none⟩ = some (.int .i64 0) := by rw [cell_of_heap ((HBE.out.block _ (heap_lt HT0.out)).trans HT0.out)]; rfl
       clear hi hil
       go_wp2_with fail
       go_roundg (5 - (4 + 1))
       case measure => omega
       case rel => exact ⟨4 + 1, by omega, rfl, rfl, HBE.out, fun j hj => by rcases Nat.lt_or_ge j 4 with h | h; exact HZ.out j h; rw [show j = 4 by omega]; exact H5.out⟩
   · obtain rfl : i = 5 := by omega
     generalize hz : ((5 : Nat) : Int) = z
     obtain rfl : (5 : Int) = z := hz
     have HRR := hid (HOK.out (fun j hj => HZ.out j hj))
     have hrb : wr.heap[w.heap.size + 2]? = some (.cells #[St [], St [], St [], St [], St []] 26 (0, 0)) := (HBE.out.block _ (heap_lt HR0.out)).trans HR0.out
     have cr : ∀ o, wr.cell? ⟨w.heap.size + 2, o, none⟩ = (#[St [], St [], St [], St [], St []] : Array Value)[o]? := fun o => cell_of_heap hrb o
     have fr : ∀ o, wr.frozen? ⟨w.heap.size + 2, o, none⟩ = false := fun o => frozen_of_heap hrb o
     have c0 : wr.cell? ⟨w.heap.size + 2, 0, none⟩ = some (St []) := cr 0
     have c1 : wr.cell? ⟨w.heap.size + 2, 1, none⟩ = some (St []) := cr 1
     have c2 : wr.cell? ⟨w.heap.size + 2, 2, none⟩ = some (St []) := cr 2
     have c3 : wr.cell? ⟨w.heap.size + 2, 3, none⟩ = some (St []) := cr 3
     have c4 : wr.cell? ⟨w.heap.size + 2, 4, none⟩ = some (St []) := cr 4
     have hp2 : wr.cell? ⟨w.heap.size + 1, 2, none⟩ = some (St (76 :: l)) := by rw [cell_of_heap ((HBE.out.block _ (heap_lt HB1.out)).trans HB1.out)]; rfl
     clear cr hrb HNO HOK hi hil
     go_wp2_with fail
     refine bodyPost_ret (v := .tuple #[.agg #[St t1, St t2, St t3, St t4, St (76 :: l)], .int .i64 0]) (by simp [results, Tryz.results43, go_sem, c0, c1, c2, c3, c4]) rfl ⟨by rw [HRR.out]; rfl, ?_⟩
     have HB3 := hid (HBL.out.trans (HBE.out.mono HBL.out.size))
     exact ((((HB3.out.setCell (by show w.heap.size ≤ w.heap.size + 2; omega) _).setCell (by show w.heap.size ≤ w.heap.size + 2; omega) _).setCell (by show w.heap.size ≤ w.heap.size + 2; omega) _).setCell (by show w.heap.size ≤ w.heap.size + 2; omega) _).setCell (by show w.heap.size ≤ w.heap.size + 2; omega) _
set_option maxHeartbeats 2000000 in
set_option maxRecDepth 100000 in
theorem rset_else (o0 o1 o2 o3 o4 q0 q1 q3 q4 pt : Bs) (c : UInt8) (l : Bs) (hd : Tm.deep (c :: l) ≠ 0) (h80 : c ≠ 80) (h87 : c ≠ 87) (h76 : c ≠ 76) (w : World) : Calls Tryz.prog 43 #[.agg #[St o0, St o1, St o2, St o3, St o4], .agg #[St q0, St q1, St (c :: l), St q3, St q4], St pt] w fun en w' => en = .returned (.tuple #[(setRes ⟨o0, o1, o2, o3, o4⟩ ⟨q0, q1, c :: l, q3, q4⟩ pt).1.v, .int .i64 ((setRes ⟨o0, o1, o2, o3, o4⟩ ⟨q0, q1, c :: l, q3, q4⟩ pt).2 : Int)]) ∧ Below w.heap.size w w' := by
 have HJ := hid (fun W => rjoints_any q1 pt W)
 have HB3' := hid (fun W => rbounds_any o3 pt W)
 have HB4' := hid (fun W => rbounds_any o4 pt W)
 have HBq := hid (fun W => rbounds_any q4 pt W)
 have HRI := hid (fun W => rright_any (c :: l) W)
 have HPK : Hid (pkRes (c :: l) = ([], 10)) := hid (by
   unfold pkRes
   have h : Tm.isPk (c :: l).head? = false := by
     unfold Tm.isPk
     simp [h80, h87, h76]
   rw [if_neg (fun x => by rw [h] at x; cases x.2)])
 have HDB : Hid ((Tm.deep (c :: l) != 0) = true) := hid (by simpa using hd)
 have hsz : 0 < ((⟨(c :: l).toArray⟩ : ByteArray)).size := by rw [st_size]; simp
 have hix : ∀ h, (⟨(c :: l).toArray⟩ : ByteArray)[0]'h = c := fun _ => rfl
 have b80 : ((c.toNat : Int) == 80) = false := toNat_ne h80
 have b87 : ((c.toNat : Int) == 87) = false := toNat_ne h87
 have b76 : ((c.toNat : Int) == 76) = false := toNat_ne h76
 clear hd h80 h87 h76
 obtain ⟨er, her⟩ : ∃ er, setE ⟨o0, o1, o2, o3, o4⟩ ⟨q0, q1, c :: l, q3, q4⟩ pt = er := ⟨_, rfl⟩
 obtain ⟨R, hR⟩ : ∃ R, setRes ⟨o0, o1, o2, o3, o4⟩ ⟨q0, q1, c :: l, q3, q4⟩ pt = R := ⟨_, rfl⟩
 have HNO : Hid (∀ i, i < 5 → (∀ j, j < i → er j = 0) → er i ≠ 0 → R = (zK, er i)) := hid (fun i hi g0 g1 => by subst her; rw [← hR]; exact setRes_no hi g0 g1)
 have HOK : Hid ((∀ j, j < 5 → er j = 0) → R = (⟨(jointRes q1 pt).1, (boundRes o3 pt).1, (boundRes o4 pt).1, (boundRes q4 pt).1, (pkRes (c :: l)).1⟩, 0)) := hid (fun h => by subst her; rw [← hR]; exact setRes_ok h)
 rw [HPK.out] at HOK
 have h1 : er 0 = (jointRes q1 pt).2 := by subst her; rfl
 have h2 : er 1 = (boundRes o3 pt).2 := by subst her; rfl
 have h3 : er 2 = (boundRes o4 pt).2 := by subst her; rfl
 have h4 : er 3 = (boundRes q4 pt).2 := by subst her; rfl
 have H5 : Hid (er 4 = 10) := hid (by subst her; show (pkRes (c :: l)).2 = _; rw [HPK.out])
 rw [hR]
 clear hR her HPK
 generalize jointRes q1 pt = r1 at HJ HOK h1
 generalize boundRes o3 pt = r2 at HB3' HOK h2
 generalize boundRes o4 pt = r3 at HB4' HOK h3
 generalize boundRes q4 pt = r4 at HBq HOK h4
 obtain ⟨t1, n1⟩ := r1
 obtain ⟨t2, n2⟩ := r2
 obtain ⟨t3, n3⟩ := r3
 obtain ⟨t4, n4⟩ := r4
 obtain rfl : n1 = er 0 := h1.symm
 obtain rfl : n2 = er 1 := h2.symm
 obtain rfl : n3 = er 2 := h3.symm
 obtain rfl : n4 = er 3 := h4.symm
 clear h1 h2 h3 h4
 obtain ⟨wa, hwa⟩ : ∃ wa, wa = w.alloc (.cells #[St o0, St o1, St o2, St o3, St o4] 33) := ⟨_, rfl⟩
 obtain ⟨wb, hwb⟩ : ∃ wb, wb = wa.alloc (.cells #[St q0, St q1, St (c :: l), St q3, St q4] 33) := ⟨_, rfl⟩
 obtain ⟨w0, hw0⟩ : ∃ w0, w0 = wb.alloc (.cells #[St [], St [], St [], St [], St []] 26) := ⟨_, rfl⟩
 have hsa : wa.heap.size = w.heap.size + 1 := by rw [hwa]; simp
 have hsb : wb.heap.size = w.heap.size + 2 := by rw [hwb]; simp [hsa]
 have hs0 : w0.heap.size = w.heap.size + 3 := by rw [hw0]; simp [hsb]
 have ba : wa.heap[w.heap.size]? = some (.cells #[St o0, St o1, St o2, St o3, St o4] 33 (0, 0)) := by rw [hwa]; exact heap_alloc_new w _
 have bb : wb.heap[w.heap.size + 1]? = some (.cells #[St q0, St q1, St (c :: l), St q3, St q4] 33 (0, 0)) := by rw [hwb, ← hsa]; exact heap_alloc_new wa _
 have la : Below wa.heap.size wa wb := by rw [hwb]; exact bel_alloc wa _
 have lb' : Below wb.heap.size wb w0 := by rw [hw0]; exact bel_alloc wb _
 have HB0 := hid ((lb'.block _ (by omega)).trans ((la.block _ (by omega)).trans ba) : w0.heap[w.heap.size]? = some (.cells #[St o0, St o1, St o2, St o3, St o4] 33 (0, 0)))
 have HB1 := hid ((lb'.block _ (by omega)).trans bb : w0.heap[w.heap.size + 1]? = some (.cells #[St q0, St q1, St (c :: l), St q3, St q4] 33 (0, 0)))
 have HR0' : Hid (w0.heap[w.heap.size + 2]? = some (.cells #[St [], St [], St [], St [], St []] 26 (0, 0))) := hid (by rw [hw0, ← hsb]; exact heap_alloc_new wb _)
 have HBL0 : Hid (Below w.heap.size w w0) := hid ((by rw [hwa]; exact bel_alloc w _ : Below w.heap.size w wa).trans ((la.trans (lb'.mono (by omega))).mono (by omega)))
 have HW : Hid (w0 = ((w.alloc (.cells #[St o0, St o1, St o2, St o3, St o4] 33)).alloc (.cells #[St q0, St q1, St (c :: l), St q3, St q4] 33)).alloc (.cells #[St [], St [], St [], St [], St []] 26)) := hid (by rw [hw0, hwb, hwa])
 have HS0 := hid hs0
 have cells : ∀ W, Below w0.heap.size w0 W → W.cell? ⟨w.heap.size, 3, none⟩ = some (St o3) ∧ W.cell? ⟨w.heap.size, 4, none⟩ = some (St o4) ∧ W.cell? ⟨w.heap.size + 1, 1, none⟩ = some (St q1) ∧ W.cell? ⟨w.heap.size + 1, 4, none⟩ = some (St q4) ∧ W.cell? ⟨w.heap.size + 1, 2, none⟩ = some (St (c :: l)) := fun W hb =>
   ⟨by rw [cell_of_heap ((hb.block _ (heap_lt HB0.out)).trans HB0.out)]; rfl, by rw [cell_of_heap ((hb.block _ (heap_lt HB0.out)).trans HB0.out)]; rfl, by rw [cell_of_heap ((hb.block _ (heap_lt HB1.out)).trans HB1.out)]; rfl, by rw [cell_of_heap ((hb.block _ (heap_lt HB1.out)).trans HB1.out)]; rfl, by rw [cell_of_heap ((hb.block _ (heap_lt HB1.out)).trans HB1.out)]; rfl⟩
 have HC := hid cells
 have HJJ := hid (HJ.out w0)
 rw [HW.out] at HJJ
 clear hs0 hw0 hwb hwa hsa hsb ba bb la lb' wa wb cells
 go_enter Tryz.func43, Tryz.ntmps43
 go_wp2_with fail
 refine HJJ.out.mono ?_
 clear HJJ HJ
 rintro _ w1 ⟨rfl, hb1⟩
 rw [← HW.out] at hb1
 have HL1 := hid hb1
 clear hb1
 obtain ⟨k1, k2, k3, k4, k5⟩ := HC.out w1 HL1.out
 go_wp2_with fail
 refine (HB3'.out _).mono ?_
 rintro _ w2 ⟨rfl, hb2⟩
 have HL2 := hid (HL1.out.trans (hb2.mono HL1.out.size))
 clear hb2 k1 k2 k3 k4 k5 HB3'
 obtain ⟨k1, k2, k3, k4, k5⟩ := HC.out w2 HL2.out
 go_wp2_with fail
 refine (HB4'.out _).mono ?_
 rintro _ w3 ⟨rfl, hb3⟩
 have HL3 := hid (HL2.out.trans (hb3.mono HL2.out.size))
 clear hb3 k1 k2 k3 k4 k5 HB4'
 obtain ⟨k1, k2, k3, k4, k5⟩ := HC.out w3 HL3.out
 go_wp2_with fail
 refine (HBq.out _).mono ?_
 rintro _ w4 ⟨rfl, hb4⟩
 have HL4 := hid (HL3.out.trans (hb4.mono HL3.out.size))
 clear hb4 k1 k2 k3 k4 k5 HBq
 obtain ⟨k1, k2, k3, k4, k5⟩ := HC.out w4 HL4.out
 go_wp2_with fail
 refine (HRI.out _).mono ?_
 rintro _ w5 ⟨rfl, hb5⟩
 have HL5 := hid (HL4.out.trans (hb5.mono HL4.out.size))
 clear hb5 k1 k2 k3 k4 k5 HRI
 obtain ⟨k1, k2, k3, k4, k5⟩ := HC.out w5 HL5.out
 rw [HDB.out]
 obtain ⟨rowb, hrow⟩ : ∃ rowb, rowb = w5.heap.size := ⟨_, rfl⟩
 obtain ⟨w6, hw6⟩ : ∃ w6, w6 = w5.alloc (.cells #[.int .i64 (er 0 : Int), .int .i64 (er 1 : Int), .int .i64 (er 2 : Int), .int .i64 (er 3 : Int), .int .i64 10] 29) := ⟨_, rfl⟩
 have HT0 : Hid (w6.heap[rowb]? = some (.cells #[.int .i64 (er 0 : Int), .int .i64 (er 1 : Int), .int .i64 (er 2 : Int), .int .i64 (er 3 : Int), .int .i64 10] 29 (0, 0))) := hid (by rw [hw6, hrow]; exact heap_alloc_new w5 _)
 have HL6 : Hid (Below w0.heap.size w0 w6) := hid (HL5.out.trans ((by rw [hw6]; exact bel_alloc w5 _ : Below w5.heap.size w5 w6).mono HL5.out.size))
 have HR0 := hid ((HL6.out.block _ (heap_lt HR0'.out)).trans HR0'.out)
 have HBL := hid (HBL0.out.trans (HL6.out.mono HBL0.out.size))
 have HW6 := hid hw6
 have HROW := hid hrow
 have HB1' := HB1
 clear hw6 hrow HB1
 have HB1 := hid ((HL6.out.block _ (heap_lt HB1'.out)).trans HB1'.out)
 clear HB1' HR0' HB0 HL6 HC HW HBL0
 go_wp2_with fail
 have hro := HROW.out
 rw [← hro]
 clear hro k1 k2 k3 k4 k5
 go_loopg [75] 5 (fun gg v75 wr => ∃ i : Nat, i ≤ 5 ∧ gg = 5 - i ∧ v75 = .int .i64 (i : Int) ∧ Below w6.heap.size w6 wr ∧ ∀ j, j < i → er j = 0)
 case atStart => exact ⟨0, by omega, by omega, rfl, by rw [HW6.out]; exact Below.refl _ _, fun j hj => by omega⟩
 case round =>
   obtain ⟨i, hi, rfl, rfl, hbel, hz0⟩ := hrel
   have HBE := hid hbel
   have HZ := hid hz0
   clear hbel hz0
   by_cases hil : i < 5
   · rcases (show i = 0 ∨ i = 1 ∨ i = 2 ∨ i = 3 ∨ i = 4 by omega) with h | h | h | h | h
     · obtain rfl : i = 0 := by omega
       generalize hz : ((0 : Nat) : Int) = z
       obtain rfl : (0 : Int) = z := hz
       have hcl : wr.cell? ⟨rowb, 0, none⟩ = some (.int .i64 (er 0 : Int)) := by rw [cell_of_heap ((HBE.out.block _ (heap_lt HT0.out)).trans HT0.out)]; rfl
       by_cases he : er 0 = 0
       · have HHE := hid he
         have q1' : (((er 0 : Nat) : Int) == 0) = true := by rw [he]; rfl
         clear he hi hil
         go_wp2_with fail
         go_roundg (5 - (0 + 1))
         case measure => omega
         case rel => exact ⟨0 + 1, by omega, rfl, rfl, HBE.out, fun j hj => by rcases Nat.lt_or_ge j 0 with h | h; exact HZ.out j h; rw [show j = 0 by omega]; exact HHE.out⟩
       · have HRR : Hid (R = (zK, er 0)) := hid (HNO.out 0 (by omega) HZ.out he)
         have q1' : (((er 0 : Nat) : Int) == 0) = false := by simpa using he
         have q2' : ¬ ((er 0 : Nat) : Int) = 0 := by omega
         have hrb : wr.heap[w.heap.size + 2]? = some (.cells #[St [], St [], St [], St [], St []] 26 (0, 0)) := (HBE.out.block _ (heap_lt HR0.out)).trans HR0.out
         have cr : ∀ o, wr.cell? ⟨w.heap.size + 2, o, none⟩ = (#[St [], St [], St [], St [], St []] : Array Value)[o]? := fun o => cell_of_heap hrb o
         have fr : ∀ o, wr.frozen? ⟨w.heap.size + 2, o, none⟩ = false := fun o => frozen_of_heap hrb o
         have c0 : wr.cell? ⟨w.heap.size + 2, 0, none⟩ = some (St []) := cr 0
         have c1 : wr.cell? ⟨w.heap.size + 2, 1, none⟩ = some (St []) := cr 1
         have c2 : wr.cell? ⟨w.heap.size + 2, 2, none⟩ = some (St []) := cr 2
         have c3 : wr.cell? ⟨w.heap.size + 2, 3, none⟩ = some (St []) := cr 3
         have c4 : wr.cell? ⟨w.heap.size + 2, 4, none⟩ = some (St []) := cr 4
         clear cr hrb he HNO HOK hi hil
         go_wp2_with fail
         refine bodyPost_ret (v := .tuple #[.agg #[St [], St [], St [], St [], St []], .int .i64 (er 0 : Int)]) (by simp [results, Tryz.results43, go_sem, c0, c1, c2, c3, c4]) rfl ⟨by rw [HRR.out]; rfl, ?_⟩
         have HB3 := hid (HBL.out.trans (HBE.out.mono HBL.out.size))
         exact ((((HB3.out.setCell (by show w.heap.size ≤ w.heap.size + 2; omega) _).setCell (by show w.heap.size ≤ w.heap.size + 2; omega) _).setCell (by show w.heap.size ≤ w.heap.size + 2; omega) _).setCell (by show w.heap.size ≤ w.heap.size + 2; omega) _).setCell (by show w.heap.size ≤ w.heap.size + 2; omega) _
     · obtain rfl : i = 1 := by omega
       generalize hz : ((1 : Nat) : Int) = z
       obtain rfl : (1 : Int) = z := hz
       have hcl : wr.cell? ⟨rowb, 1, none⟩ = some (.int .i64 (er 1 : Int)) := by rw [cell_of_heap ((HBE.out.block _ (heap_lt HT0.out)).trans HT0.out)]; rfl
       by_cases he : er 1 = 0
       · have HHE := hid he
         have q1' : (((er 1 : Nat) : Int) == 0) = true := by rw [he]; rfl
         clear he hi hil
         go_wp2_with fail
         go_roundg (5 - (1 + 1))
         case measure => omega
         case rel => exact ⟨1 + 1, by omega, rfl, rfl, HBE.out, fun j hj => by rcases Nat.lt_or_ge j 1 with h | h; exact HZ.out j h; rw [show j = 1 by omega]; exact HHE.out⟩
       · have HRR : Hid (R = (zK, er 1)) := hid (HNO.out 1 (by omega) HZ.out he)
         have q1' : (((er 1 : Nat) : Int) == 0) = false := by simpa using he
         have q2' : ¬ ((er 1 : Nat) : Int) = 0 := by omega
         have hrb : wr.heap[w.heap.size + 2]? = some (.cells #[St [], St [], St [], St [], St []] 26 (0, 0)) := (HBE.out.block _ (heap_lt HR0.out)).trans HR0.out
         have cr : ∀ o, wr.cell? ⟨w.heap.size + 2, o, none⟩ = (#[St [], St [], St [], St [], St []] : Array Value)[o]? := fun o => cell_of_heap hrb o
         have fr : ∀ o, wr.frozen? ⟨w.heap.size + 2, o, none⟩ = false := fun o => frozen_of_heap hrb o
         have c0 : wr.cell? ⟨w.heap.size + 2, 0, none⟩ = some (St []) := cr 0
         have c1 : wr.cell? ⟨w.heap.size + 2, 1, none⟩ = some (St []) := cr 1
         have c2 : wr.cell? ⟨w.heap.size + 2, 2, none⟩ = some (St []) := cr 2
         have c3 : wr.cell? ⟨w.heap.size + 2, 3, none⟩ = some (St []) := cr 3
         have c4 : wr.cell? ⟨w.heap.size + 2, 4, none⟩ = some (St []) := cr 4
         clear cr hrb he HNO HOK hi hil
         go_wp2_with fail
         refine bodyPost_ret (v := .tuple #[.agg #[St [], St [], St [], St [], St []], .int .i64 (er 1 : Int)]) (by simp [results, Tryz.results43, go_sem, c0, c1, c2, c3, c4]) rfl ⟨by rw [HRR.out]; rfl, ?_⟩
         have HB3 := hid (HBL.out.trans (HBE.out.mono HBL.out.size))
         exact ((((HB3.out.setCell (by show w.heap.size ≤ w.heap.size + 2; omega) _).setCell (by show w.heap.size ≤ w.heap.size + 2; omega) _).setCell (by show w.heap.size ≤ w.heap.size + 2; omega) _).setCell (by show w.heap.size ≤ w.heap.size + 2; omega) _).setCell (by show w.heap.size ≤ w.heap.size + 2; omega) _
     · obtain rfl : i = 2 := by omega
       generalize hz : ((2 : Nat) : Int) = z
       obtain rfl : (2 : Int) = z := hz
       have hcl : wr.cell? ⟨rowb, 2, none⟩ = some (.int .i64 (er 2 : Int)) := by rw [cell_of_heap ((HBE.out.block _ (heap_lt HT0.out)).trans HT0.out)]; rfl
       by_cases he : er 2 = 0
       · have HHE := hid he
         have q1' : (((er 2 : Nat) : Int) == 0) = true := by rw [he]; rfl
         clear he hi hil
         go_wp2_with fail
         go_roundg (5 - (2 + 1))
         case measure => omega
         case rel => exact ⟨2 + 1, by omega, rfl, rfl, HBE.out, fun j hj => by rcases Nat.lt_or_ge j 2 with h | h; exact HZ.out j h; rw [show j = 2 by omega]; exact HHE.out⟩
       · have HRR : Hid (R = (zK, er 2)) := hid (HNO.out 2 (by omega) HZ.out he)
         have q1' : (((er 2 : Nat) : Int) == 0) = false := by simpa using he
         have q2' : ¬ ((er 2 : Nat) : Int) = 0 := by omega
         have hrb : wr.heap[w.heap.size + 2]? = some (.cells #[St [], St [], St [], St [], St []] 26 (0, 0)) := (HBE.out.block _ (heap_lt HR0.out)).trans HR0.out
         have cr : ∀ o, wr.cell? ⟨w.heap.size + 2, o, none⟩ = (#[St [], St [], St [], St [], St []] : Array Value)[o]? := fun o => cell_of_heap hrb o
         have fr : ∀ o, wr.frozen? ⟨w.heap.size + 2, o, none⟩ = false := fun o => frozen_of_heap hrb o
         have c0 : wr.cell? ⟨w.heap.size + 2, 0, none⟩ = some (St []) := cr 0
         have c1 : wr.cell? ⟨w.heap.size + 2, 1, none⟩ = some (St []) := cr 1
         have c2 : wr.cell? ⟨w.heap.size + 2, 2, none⟩ = some (St []) := cr 2
         have c3 : wr.cell? ⟨w.heap.size + 2, 3, none⟩ = some (St []) := cr 3
         have c4 : wr.cell? ⟨w.heap.size + 2, 4, none⟩ = some (St []) := cr 4
         clear cr hrb he HNO HOK hi hil
         go_wp2_with fail
         refine bodyPost_ret (v := .tuple #[.agg #[St [], St [], St [], St [], St []], .int .i64 (er 2 : Int)]) (by simp [results, Tryz.results43, go_sem, c0, c1, c2, c3, c4]) rfl ⟨by rw [HRR.out]; rfl, ?_⟩
         have HB3 := hid (HBL.out.trans (HBE.out.mono HBL.out.size))
         exact ((((HB3.out.setCell (by show w.heap.size ≤ w.heap.size + 2; omega) _).setCell (by show w.heap.size ≤ w.heap.size + 2; omega) _).setCell (by show w.heap.size ≤ w.heap.size + 2; omega) _).setCell (by show w.heap.size ≤ w.heap.size + 2; omega) _).setCell (by show w.heap.size ≤ w.heap.size + 2; omega) _
     · obtain rfl : i = 3 := by omega
       generalize hz : ((3 : Nat) : Int) = z
       obtain rfl : (3 : Int) = z := hz
       have hcl : wr.cell? ⟨rowb, 3, none⟩ = some (.int .i64 (er 3 : Int)) := by rw [cell_of_heap ((HBE.out.block _ (heap_lt HT0.out)).trans HT0.out)]; rfl
       by_cases he : er 3 = 0
       · have HHE := hid he
         have q1' : (((er 3 : Nat) : Int) == 0) = true := by rw [he]; rfl
         clear he hi hil
         go_wp2_with fail
         go_roundg (5 - (3 + 1))
         case measure => omega
         case rel => exact ⟨3 + 1, by omega, rfl, rfl, HBE.out, fun j hj => by rcases Nat.lt_or_ge j 3 with h | h; exact HZ.out j h; rw [show j = 3 by omega]; exact HHE.out⟩
       · have HRR : Hid (R = (zK, er 3)) := hid (HNO.out 3 (by omega) HZ.out he)
         have q1' : (((er 3 : Nat) : Int) == 0) = false := by simpa using he
         have q2' : ¬ ((er 3 : Nat) : Int) = 0 := by omega
         have hrb : wr.heap[w.heap.size + 2]? = some (.cells #[St [], St [], St [], St [], St []] 26 (0, 0)) := (HBE.out.block _ (heap_lt HR0.out)).trans HR0.out
         have cr : ∀ o, wr.cell? ⟨w.heap.size + 2, o, none⟩ = (#[St [], St [], St [], St [], St []] : Array Value)[o]? := fun o => cell_of_heap hrb o
         have fr : ∀ o, wr.frozen? ⟨w.heap.size + 2, o, none⟩ = false := fun o => frozen_of_heap hrb o
         have c0 : wr.cell? ⟨w.heap.size + 2, 0, none⟩ = some (St []) := cr 0
         have c1 : wr.cell? ⟨w.heap.size + 2, 1, none⟩ = some (St []) := cr 1
         have c2 : wr.cell? ⟨w.heap.size + 2, 2, none⟩ = some (St []) := cr 2
         have c3 : wr.cell? ⟨w.heap.size + 2, 3, none⟩ = some (St []) := cr 3
         have c4 : wr.cell? ⟨w.heap.size + 2, 4, none⟩ = some (St []) := cr 4
         clear cr hrb he HNO HOK hi hil
         go_wp2_with fail
         refine bodyPost_ret (v := .tuple #[.agg #[St [], St [], St [], St [], St []], .int .i64 (er 3 : Int)]) (by simp [results, Tryz.results43, go_sem, c0, c1, c2, c3, c4]) rfl ⟨by rw [HRR.out]; rfl, ?_⟩
         have HB3 := hid (HBL.out.trans (HBE.out.mono HBL.out.size))
         exact ((((HB3.out.setCell (by show w.heap.size ≤ w.heap.size + 2; omega) _).setCell (by show w.heap.size ≤ w.heap.size + 2; omega) _).setCell (by show w.heap.size ≤ w.heap.size + 2; omega) _).setCell (by show w.heap.size ≤ w.heap.size + 2; omega) _).setCell (by show w.heap.size ≤ w.heap.size + 2; omega) _
     · obtain rfl : i = 4 := by omega
       generalize hz : ((4 : Nat) : Int) = z
       obtain rfl : (4 : Int) = z := hz
       have hcl : wr.cell? ⟨rowb, 4, none⟩ = some (.int .i64 10) := by rw [cell_of_heap ((HBE.out.block _ (heap_lt HT0.out)).trans HT0.out)]; rfl
       have HRR : Hid (R = (zK, 10)) := hid (by have := HNO.out 4 (by omega) HZ.out (by show er 4 ≠ 0; rw [H5.out]; decide); rw [H5.out] at this; exact this)
       have hrb : wr.heap[w.heap.size + 2]? = some (.cells #[St [], St [], St [], St [], St []] 26 (0, 0)) := (HBE.out.block _ (heap_lt HR0.out)).trans HR0.out
       have cr : ∀ o, wr.cell? ⟨w.heap.size + 2, o, none⟩ = (#[St [], St [], St [], St [], St []] : Array Value)[o]? := fun o => cell_of_heap hrb o
       have fr : ∀ o, wr.frozen? ⟨w.heap.size + 2, o, none⟩ = false := fun o => frozen_of_heap hrb o
       have c0 : wr.cell? ⟨w.heap.size + 2, 0, none⟩ = some (St []) := cr 0
       have c1 : wr.cell? ⟨w.heap.size + 2, 1, none⟩ = some (St []) := cr 1
       have c2 : wr.cell? ⟨w.heap.size + 2, 2, none⟩ = some (St []) := cr 2
       have c3 : wr.cell? ⟨w.heap.size + 2, 3, none⟩ = some (St []) := cr 3
       have c4 : wr.cell? ⟨w.heap.size + 2, 4, none⟩ = some (St []) := cr 4
       clear cr hrb HNO HOK hi hil
       go_wp2_with fail
       refine bodyPost_ret (v := .tuple #[.agg #[St [], St [], St [], St [], St []], .int .i64 10]) (by simp [results, Tryz.results43, go_sem, c0, c1, c2, c3, c4]) rfl ⟨by rw [HRR.out]; rfl, ?_⟩
       have HB3 := hid (HBL.out.trans (HBE.out.mono HBL.out.size))
       exact ((((HB3.out.setCell (by show w.heap.size ≤ w.heap.size + 2; omega) _).setCell (by show w.heap.size ≤ w.heap.size + 2; omega) _).setCell (by show w.heap.size ≤ w.heap.size + 2; omega) _).setCell (by show w.heap.size ≤ w.heap.size + 2; omega) _).setCell (by show w.heap.size ≤ w.heap.size + 2; omega) _
   · obtain rfl : i = 5 := by omega
     generalize hz : ((5 : Nat) : Int) = z
     obtain rfl : (5 : Int) = z := hz
     have h4 := HZ.out 4 (by omega)
     rw [H5.out] at h4
     exact absurd h4 (by decide)
theorem rset_any (own oth : K5) (pt : Bs) (w : World) : Calls Tryz.prog 43 #[own.v, oth.v, St pt] w fun en w' => en = .returned (.tuple #[(setRes own oth pt).1.v, .int .i64 ((setRes own oth pt).2 : Int)]) ∧ Below w.heap.size w w' := by
 obtain ⟨o0, o1, o2, o3, o4⟩ := own
 obtain ⟨q0, q1, q2, q3, q4⟩ := oth
 by_cases hd : Tm.deep q2 = 0
 · exact rset_none o0 o1 o2 o3 o4 q0 q1 q3 q4 pt q2 hd w
 · match q2, hd with
   | [], hd => exact absurd rfl hd
   | c :: l, hd =>
     by_cases h80 : c = 80
     · subst h80; exact rset_80 o0 o1 o2 o3 o4 q0 q1 q3 q4 pt l hd w
     · by_cases h87 : c = 87
       · subst h87; exact rset_87 o0 o1 o2 o3 o4 q0 q1 q3 q4 pt l hd w
       · by_cases h76 : c = 76
         · subst h76; exact rset_76 o0 o1 o2 o3 o4 q0 q1 q3 q4 pt l hd w
         · exact rset_else o0 o1 o2 o3 o4 q0 q1 q3 q4 pt c l hd h80 h87 h76 w
end Go.Proofs.YtkifchjpgdmcoaaGreatDoor
