/- Keys: the document's six secrets of a channel. -/
import Derived.Test.YtkifchjpgdmcoaaGreatDoorKyF
import Derived.Test.YtkifchjpgdmcoaaGreatDoorKyUAll
namespace Go.Proofs.YtkifchjpgdmcoaaGreatDoor
open Go.RowKit
def ckidsL (b : Bs) : Nat → List Bs
 | 0 => []
 | k + 1 => ckidsL b k ++ [(ckid b k).1]
theorem ckidsL_len (b : Bs) : ∀ k, (ckidsL b k).length = k := by
 intro k
 induction k with
 | zero => rfl
 | succ k ih => simp [ckidsL, ih]
theorem chanErr_fe (b : Bs) (e : Nat) : ∀ k, chanErr b e k = fe (fun j => (ckid b j).2) e k := by
 intro k
 induction k with
 | zero => rfl
 | succ k ih => rw [chanErr, ih, fe]
theorem chan_first {root : Bs} {n : Int} {b : Bs} {e : Nat} (h : numRes root wChan n = (b, e)) (he : e ≠ 0) : chanRes root n = (S6z, e) := by
 unfold chanRes
 rw [h]
 dsimp only
 rw [chanErr_fe, fe_stays _ e he, if_neg he]
theorem chan_ok {root : Bs} {n : Int} {b : Bs} (h : numRes root wChan n = (b, 0)) (hz : ∀ j, j < 6 → (ckid b j).2 = 0) : chanRes root n = (⟨(ckid b 0).1, (ckid b 1).1, (ckid b 2).1, (ckid b 3).1, (ckid b 4).1, (ckid b 5).1⟩, 0) := by
 unfold chanRes
 rw [h]
 dsimp only
 rw [chanErr_fe, fe_zero _ 6 hz, if_pos rfl]
theorem chan_no {root : Bs} {n : Int} {b : Bs} (h : numRes root wChan n = (b, 0)) {i : Nat} (hi : i < 6) (h0 : ∀ j, j < i → (ckid b j).2 = 0) (h1 : (ckid b i).2 ≠ 0) : chanRes root n = (S6z, (ckid b i).2) := by
 unfold chanRes
 rw [h]
 dsimp only
 rw [chanErr_fe, fe_at _ (i := i) h0 h1 6 hi, if_neg h1]
set_option maxHeartbeats 400000 in
set_option maxRecDepth 100000 in
theorem rchan_neg (root : Bs) (n : Int) (h0 : n < 0) (w : World) :
   Calls Tryz.prog 39 #[St root, .int .i64 n] w fun en w' => en = .returned (.tuple #[(chanRes root n).1.v, .int .i64 ((chanRes root n).2 : Int)]) ∧ Below w.heap.size w w' := by
 obtain ⟨wa, hwa⟩ : ∃ wa, wa = w.alloc (.cells #[St [], St [], St [], St [], St [], St []] 24) := ⟨_, rfl⟩
 have sa : wa.heap.size = w.heap.size + 1 := by rw [hwa]; simp
 have la : Below w.heap.size w wa := by rw [hwa]; exact bel_alloc w _
 have hra : wa.heap[w.heap.size]? = some (.cells #[St [], St [], St [], St [], St [], St []] 24 (0, 0)) := by rw [hwa]; exact heap_alloc_new w _
 have HWA := hid hwa
 have SA := hid sa
 have LA := hid la
 have HRA := hid hra
 clear hwa sa la hra
 have hnr : numRes root wChan n = ([], 2) := by unfold numRes; rw [if_pos h0]
 have HRR := hid (chan_first hnr (by decide))
 have cr : ∀ o, wa.cell? ⟨w.heap.size, o, none⟩ = (#[St [], St [], St [], St [], St [], St []] : Array Value)[o]? := fun o => cell_of_heap HRA.out o
 have fr : ∀ o, wa.frozen? ⟨w.heap.size, o, none⟩ = false := fun o => frozen_of_heap HRA.out o
 rw [HWA.out] at cr fr
 clear hnr
 go_enter Tryz.func39, Tryz.ntmps39
 go_wp2_with fail
 refine bodyPost_ret (v := .tuple #[.agg #[St [], St [], St [], St [], St [], St []], .int .i64 2]) (by simp [results, Tryz.results39, go_sem]) rfl ⟨by rw [HRR.out]; rfl, ?_⟩
 have HB3 := LA.out
 rw [HWA.out] at HB3
 first | exact HB3 | exact (((((HB3.setCell (by simp) _).setCell (by simp) _).setCell (by simp) _).setCell (by simp) _).setCell (by simp) _).setCell (by simp) _
set_option maxHeartbeats 400000 in
set_option maxRecDepth 100000 in
theorem rchan_err (root : Bs) (n : Int) (h0 : ¬ n < 0) (hn : n ≤ 9223372036854775807) (w : World) (hez0 : (numRes root wChan n).2 ≠ 0) :
   Calls Tryz.prog 39 #[St root, .int .i64 n] w fun en w' => en = .returned (.tuple #[(chanRes root n).1.v, .int .i64 ((chanRes root n).2 : Int)]) ∧ Below w.heap.size w w' := by
 obtain ⟨wa, hwa⟩ : ∃ wa, wa = w.alloc (.cells #[St [], St [], St [], St [], St [], St []] 24) := ⟨_, rfl⟩
 have sa : wa.heap.size = w.heap.size + 1 := by rw [hwa]; simp
 have la : Below w.heap.size w wa := by rw [hwa]; exact bel_alloc w _
 have hra : wa.heap[w.heap.size]? = some (.cells #[St [], St [], St [], St [], St [], St []] 24 (0, 0)) := by rw [hwa]; exact heap_alloc_new w _
 have HWA := hid hwa
 have SA := hid sa
 have LA := hid la
 have HRA := hid hra
 clear hwa sa la hra
 obtain ⟨m, rfl⟩ : ∃ m : Nat, n = (m : Int) := ⟨n.toNat, by omega⟩
 obtain ⟨⟨b, e⟩, hbe⟩ : ∃ r, kidRes root wChan m = r := ⟨_, rfl⟩
 have hnr : numRes root wChan (m : Int) = (b, e) := by unfold numRes; rw [if_neg h0, Int.toNat_natCast]; exact hbe
 have hk := rkyc_any root wChan m (by decide) (by omega) wa
 rw [hbe] at hk
 have HC : Hid (Calls Tryz.prog 65 #[St root, .string { data := #[99, 104, 97, 110, 110, 101, 108] }, .int .i64 (m : Int)] wa fun en w' => en = made (b, e) ∧ Below wa.heap.size wa w') := hid hk
 clear hk hbe hn
 have hez : e ≠ 0 := by rw [hnr] at hez0; exact hez0
 clear hez0
 obtain ⟨R, hR⟩ : ∃ R, chanRes root (m : Int) = R := ⟨_, rfl⟩
 have HRR : Hid (R = (S6z, e)) := hid (by rw [← hR]; exact chan_first hnr hez)
 rw [hR]
 clear hR
 have q1 : ((e : Int) == 0) = false := by simpa using hez
 have q2 : ¬ (e : Int) = 0 := by omega
 have HRC := hid (fun (W : World) (hb : Below wa.heap.size wa W) => (⟨fun o => cell_of_heap ((hb.block _ (heap_lt HRA.out)).trans HRA.out) o, fun o => frozen_of_heap ((hb.block _ (heap_lt HRA.out)).trans HRA.out) o⟩ : (∀ o, W.cell? ⟨w.heap.size, o, none⟩ = (#[St [], St [], St [], St [], St [], St []] : Array Value)[o]?) ∧ ∀ o, W.frozen? ⟨w.heap.size, o, none⟩ = false))
 have HCC := HC
 rw [HWA.out] at HCC
 clear hez hnr h0
 go_enter Tryz.func39, Tryz.ntmps39
 go_wp2_with fail
 refine HCC.out.mono ?_
 clear HCC
 rintro _ w3 ⟨rfl, hb3⟩
 rw [← HWA.out] at hb3
 have c0 : w3.cell? ⟨w.heap.size, 0, none⟩ = some (St []) := (HRC.out w3 hb3).1 0; have c1 : w3.cell? ⟨w.heap.size, 1, none⟩ = some (St []) := (HRC.out w3 hb3).1 1; have c2 : w3.cell? ⟨w.heap.size, 2, none⟩ = some (St []) := (HRC.out w3 hb3).1 2; have c3 : w3.cell? ⟨w.heap.size, 3, none⟩ = some (St []) := (HRC.out w3 hb3).1 3; have c4 : w3.cell? ⟨w.heap.size, 4, none⟩ = some (St []) := (HRC.out w3 hb3).1 4; have c5 : w3.cell? ⟨w.heap.size, 5, none⟩ = some (St []) := (HRC.out w3 hb3).1 5; have fr := (HRC.out w3 hb3).2
 have HB3 := hid (LA.out.trans (hb3.mono LA.out.size))
 clear hb3 HC HRC
 go_wp2_with fail
 refine bodyPost_ret (v := .tuple #[.agg #[St [], St [], St [], St [], St [], St []], .int .i64 (e : Int)]) (by simp [results, Tryz.results39, go_sem, c0, c1, c2, c3, c4, c5]) rfl ⟨by rw [HRR.out]; rfl, ?_⟩
 exact (((((HB3.out.setCell (by simp) _).setCell (by simp) _).setCell (by simp) _).setCell (by simp) _).setCell (by simp) _).setCell (by simp) _
set_option maxHeartbeats 4000000 in
set_option maxRecDepth 100000 in
theorem rchan_main (root : Bs) (n : Int) (h0 : ¬ n < 0) (hn : n ≤ 9223372036854775807) (w : World) (hez0 : (numRes root wChan n).2 = 0) :
   Calls Tryz.prog 39 #[St root, .int .i64 n] w fun en w' => en = .returned (.tuple #[(chanRes root n).1.v, .int .i64 ((chanRes root n).2 : Int)]) ∧ Below w.heap.size w w' := by
 obtain ⟨wa, hwa⟩ : ∃ wa, wa = w.alloc (.cells #[St [], St [], St [], St [], St [], St []] 24) := ⟨_, rfl⟩
 have sa : wa.heap.size = w.heap.size + 1 := by rw [hwa]; simp
 have la : Below w.heap.size w wa := by rw [hwa]; exact bel_alloc w _
 have hra : wa.heap[w.heap.size]? = some (.cells #[St [], St [], St [], St [], St [], St []] 24 (0, 0)) := by rw [hwa]; exact heap_alloc_new w _
 have HWA := hid hwa
 have SA := hid sa
 have LA := hid la
 have HRA := hid hra
 clear hwa sa la hra
 obtain ⟨m, rfl⟩ : ∃ m : Nat, n = (m : Int) := ⟨n.toNat, by omega⟩
 obtain ⟨⟨b, e⟩, hbe⟩ : ∃ r, kidRes root wChan m = r := ⟨_, rfl⟩
 have hnr : numRes root wChan (m : Int) = (b, e) := by unfold numRes; rw [if_neg h0, Int.toNat_natCast]; exact hbe
 have hk := rkyc_any root wChan m (by decide) (by omega) wa
 rw [hbe] at hk
 have HC : Hid (Calls Tryz.prog 65 #[St root, .string { data := #[99, 104, 97, 110, 110, 101, 108] }, .int .i64 (m : Int)] wa fun en w' => en = made (b, e) ∧ Below wa.heap.size wa w') := hid hk
 clear hk hbe hn
 have hez : e = 0 := by rw [hnr] at hez0; exact hez0
 clear hez0
 subst hez
 obtain ⟨R, hR⟩ : ∃ R, chanRes root (m : Int) = R := ⟨_, rfl⟩
 have HNO : Hid (∀ i, i < 6 → (∀ j, j < i → (ckid b j).2 = 0) → (ckid b i).2 ≠ 0 → R = (S6z, (ckid b i).2)) := hid (fun i hi g0 g1 => by rw [← hR]; exact chan_no hnr hi g0 g1)
 have HOK : Hid ((∀ j, j < 6 → (ckid b j).2 = 0) → R = (⟨(ckid b 0).1, (ckid b 1).1, (ckid b 2).1, (ckid b 3).1, (ckid b 4).1, (ckid b 5).1⟩, 0)) := hid (fun h => by rw [← hR]; exact chan_ok hnr h)
 rw [hR]
 have HCC := HC
 rw [HWA.out] at HCC
 clear hR hnr h0
 go_enter Tryz.func39, Tryz.ntmps39
 go_wp2_with fail
 refine HCC.out.mono ?_
 clear HCC
 rintro _ w2 ⟨rfl, hb2⟩
 rw [← HWA.out] at hb2
 obtain ⟨w0, hw0⟩ : ∃ w0, w0 = w2.alloc (.cells #[St (lb 0), St (lb 1), St (lb 2), St (lb 3), St (lb 4), St (lb 5)] 9) := ⟨_, rfl⟩
 obtain ⟨lbk, hlb⟩ : ∃ lbk, lbk = w2.heap.size := ⟨_, rfl⟩
 have hs2 := hb2.size
 have lc : Below w2.heap.size w2 w0 := by rw [hw0]; exact bel_alloc w2 _
 have hr0 : w0.heap[w.heap.size]? = some (.cells #[St [], St [], St [], St [], St [], St []] 24 (0, 0)) := by rw [lc.block _ (by have := SA.out; omega), hb2.block _ (by have := SA.out; omega)]; exact HRA.out
 have ht0 : w0.heap[lbk]? = some (.cells #[St (lb 0), St (lb 1), St (lb 2), St (lb 3), St (lb 4), St (lb 5)] 9 (0, 0)) := by rw [hw0, hlb]; exact heap_alloc_new w2 _
 have hbl : Below w.heap.size w w0 := LA.out.trans ((hb2.trans (lc.mono hs2)).mono (by have := SA.out; omega))
 have hsz : w.heap.size < w0.heap.size := by have := lc.size; have := SA.out; omega
 have HR0 := hid hr0
 have HT0 := hid ht0
 have HBL := hid hbl
 have HSZ := hid hsz
 have HW0 := hid hw0
 have HLB := hid hlb
 clear hb2 hs2 lc hr0 ht0 hbl hsz hw0 hlb HC LA HRA SA HWA
 go_wp2_with fail
 have hlbe := HLB.out
 rw [← hlbe]
 clear hlbe
 rw [show decide ((m : Int) < 0) = false from decide_eq_false (by omega)]
 go_loopg [8, 28] 6 (fun gg v8 v28 wr => ∃ i : Nat, i ≤ 6 ∧ gg = 6 - i ∧ v28 = .int .i64 (i : Int) ∧ Below w0.heap.size w0 wr ∧ TR w0.heap.size v8 (ckidsL b i) wr ∧ ∀ j, j < i → (ckid b j).2 = 0)
 case atStart => exact ⟨0, by omega, by omega, rfl, by rw [HW0.out]; exact Below.refl _ _, TR.nil _ _, fun j hj => by omega⟩
 case round =>
   obtain ⟨i, hi, rfl, rfl, hbel, htr, hz0⟩ := hrel
   have HBE := hid hbel
   have HTR := hid htr
   have HZ := hid hz0
   clear hbel htr hz0
   by_cases hil : i < 6
   · rcases (show i = 0 ∨ i = 1 ∨ i = 2 ∨ i = 3 ∨ i = 4 ∨ i = 5 by omega) with h | h | h | h | h | h
     · obtain rfl : i = 0 := by omega
       generalize hz : ((0 : Nat) : Int) = z
       obtain rfl : (0 : Int) = z := hz
       have hcl : wr.cell? ⟨lbk, 0, none⟩ = some (St (lb 0)) := by rw [cell_of_heap ((HBE.out.block _ (heap_lt HT0.out)).trans HT0.out)]; rfl
       have HPU := hid (rkyc_any b (lb 0) 0 (by decide) (by decide) wr)
       have HKR : Hid (kidRes b (lb 0) 0 = ckid b 0) := hid rfl
       rw [HKR.out] at HPU
       clear HKR
       obtain ⟨⟨t, m⟩, hx⟩ : ∃ r, ckid b 0 = r := ⟨_, rfl⟩
       have HX := hid hx
       rw [hx] at HPU
       clear hx hi hil
       generalize hlk : lb 0 = L at hcl HPU
       clear hlk
       by_cases he : m = 0
       · have hlen := ckidsL_len b 0
         obtain ⟨i0, hi0, hz0, hz1, hz2⟩ := info_parts Tryz.info22
         have HPL : Hid (ckidsL b (0 + 1) = ckidsL b 0 ++ [t]) := hid (by show ckidsL b 0 ++ [(ckid b 0).1] = _; rw [HX.out])
         have HT2 := hid (fun (W : World) (hb : Below wr.heap.size wr W) => (HTR.out.below hb).below (bel_alloc W (.cells #[St t] 22)))
         have HB2 := hid (fun (W : World) (hb : Below wr.heap.size wr W) => (HBE.out.trans (hb.mono HBE.out.size)).trans ((bel_alloc W (.cells #[St t] 22)).mono (Nat.le_trans HBE.out.size hb.size)))
         have HLEN := hid hlen
         generalize ckidsL b 0 = ts at HT2 HLEN HPL
         subst he
         clear hlen HTR HNO HOK
         go_wp2_with (first | (go_at_call 65; refine HPU.out.mono ?_; rintro _ w3 ⟨rfl, hb3⟩; have HB3 := hid hb3; have HTT := hid (HT2.out w3 hb3); have HBB := hid (HB2.out w3 hb3); clear hb3) | (at_builtin; refine wpList_append_own _ rfl (.tmp 42) (.tmp 44) 39 rfl w0.heap.size 22 i0 (.string ⟨#[]⟩) 1 16 Tryz.underlying39 hi0 hz0 hz1 hz2 rfl (by decide) u8 ts.length (ts.map St) rfl HTT.out ⟨w3.heap.size, 0, none⟩ 1 1 [St t] rfl rfl (cell_one_new _ _ _) (by intro u hu; simp at hu; subst hu; rfl) (by have := HLEN.out; unfold maxLen; omega) (by have := HLEN.out; omega) HBB.out.size ?_; intro v4 w4 hown4 hg4 _; have HN4 := hid hown4; have HG4 := hid (below_own HBB.out HTT.out hg4); clear hown4 hg4))
         go_roundg (6 - (0 + 1))
         case measure => omega
         case rel => exact ⟨0 + 1, by omega, rfl, rfl, HG4.out, by rw [HPL.out]; unfold TR; simpa using HN4.out, fun j hj => by rcases Nat.lt_or_ge j 0 with h | h; exact HZ.out j h; rw [show j = 0 by omega, HX.out]⟩
       · have HRR : Hid (R = (S6z, m)) := hid (by have := HNO.out 0 (by omega) HZ.out (by rw [HX.out]; exact he); rw [HX.out] at this; exact this)
         have q1 : ((m : Int) == 0) = false := by simpa using he
         have q2 : ¬ (m : Int) = 0 := by omega
         have hrb : wr.heap[w.heap.size]? = some (.cells #[St [], St [], St [], St [], St [], St []] 24 (0, 0)) := (HBE.out.block _ (heap_lt HR0.out)).trans HR0.out
         have HRC := hid (fun (W : World) (hb : Below wr.heap.size wr W) => (⟨fun o => cell_of_heap ((hb.block _ (heap_lt hrb)).trans hrb) o, fun o => frozen_of_heap ((hb.block _ (heap_lt hrb)).trans hrb) o⟩ : (∀ o, W.cell? ⟨w.heap.size, o, none⟩ = (#[St [], St [], St [], St [], St [], St []] : Array Value)[o]?) ∧ ∀ o, W.frozen? ⟨w.heap.size, o, none⟩ = false))
         clear hrb he HNO HOK HTR
         go_wp2_with (go_at_call 65; refine HPU.out.mono ?_; rintro _ w3 ⟨rfl, hb3⟩; have c0 : w3.cell? ⟨w.heap.size, 0, none⟩ = some (St []) := (HRC.out w3 hb3).1 0; have c1 : w3.cell? ⟨w.heap.size, 1, none⟩ = some (St []) := (HRC.out w3 hb3).1 1; have c2 : w3.cell? ⟨w.heap.size, 2, none⟩ = some (St []) := (HRC.out w3 hb3).1 2; have c3 : w3.cell? ⟨w.heap.size, 3, none⟩ = some (St []) := (HRC.out w3 hb3).1 3; have c4 : w3.cell? ⟨w.heap.size, 4, none⟩ = some (St []) := (HRC.out w3 hb3).1 4; have c5 : w3.cell? ⟨w.heap.size, 5, none⟩ = some (St []) := (HRC.out w3 hb3).1 5; have fr := (HRC.out w3 hb3).2; have HB3 := hid (HBL.out.trans ((HBE.out.trans (hb3.mono HBE.out.size)).mono HBL.out.size)); clear hb3)
         refine bodyPost_ret (v := .tuple #[.agg #[St [], St [], St [], St [], St [], St []], .int .i64 (m : Int)]) (by simp [results, Tryz.results39, go_sem, c0, c1, c2, c3, c4, c5]) rfl ⟨by rw [HRR.out]; rfl, ?_⟩
         exact (((((HB3.out.setCell (by simp) _).setCell (by simp) _).setCell (by simp) _).setCell (by simp) _).setCell (by simp) _).setCell (by simp) _
     · obtain rfl : i = 1 := by omega
       generalize hz : ((1 : Nat) : Int) = z
       obtain rfl : (1 : Int) = z := hz
       have hcl : wr.cell? ⟨lbk, 1, none⟩ = some (St (lb 1)) := by rw [cell_of_heap ((HBE.out.block _ (heap_lt HT0.out)).trans HT0.out)]; rfl
       have HPU := hid (rkyc_any b (lb 1) 0 (by decide) (by decide) wr)
       have HKR : Hid (kidRes b (lb 1) 0 = ckid b 1) := hid rfl
       rw [HKR.out] at HPU
       clear HKR
       obtain ⟨⟨t, m⟩, hx⟩ : ∃ r, ckid b 1 = r := ⟨_, rfl⟩
       have HX := hid hx
       rw [hx] at HPU
       clear hx hi hil
       generalize hlk : lb 1 = L at hcl HPU
       clear hlk
       by_cases he : m = 0
       · have hlen := ckidsL_len b 1
         obtain ⟨i0, hi0, hz0, hz1, hz2⟩ := info_parts Tryz.info22
         have HPL : Hid (ckidsL b (1 + 1) = ckidsL b 1 ++ [t]) := hid (by show ckidsL b 1 ++ [(ckid b 1).1] = _; rw [HX.out])
         have HT2 := hid (fun (W : World) (hb : Below wr.heap.size wr W) => (HTR.out.below hb).below (bel_alloc W (.cells #[St t] 22)))
         have HB2 := hid (fun (W : World) (hb : Below wr.heap.size wr W) => (HBE.out.trans (hb.mono HBE.out.size)).trans ((bel_alloc W (.cells #[St t] 22)).mono (Nat.le_trans HBE.out.size hb.size)))
         have HLEN := hid hlen
         generalize ckidsL b 1 = ts at HT2 HLEN HPL
         subst he
         clear hlen HTR HNO HOK
         go_wp2_with (first | (go_at_call 65; refine HPU.out.mono ?_; rintro _ w3 ⟨rfl, hb3⟩; have HB3 := hid hb3; have HTT := hid (HT2.out w3 hb3); have HBB := hid (HB2.out w3 hb3); clear hb3) | (at_builtin; refine wpList_append_own _ rfl (.tmp 42) (.tmp 44) 39 rfl w0.heap.size 22 i0 (.string ⟨#[]⟩) 1 16 Tryz.underlying39 hi0 hz0 hz1 hz2 rfl (by decide) u8 ts.length (ts.map St) rfl HTT.out ⟨w3.heap.size, 0, none⟩ 1 1 [St t] rfl rfl (cell_one_new _ _ _) (by intro u hu; simp at hu; subst hu; rfl) (by have := HLEN.out; unfold maxLen; omega) (by have := HLEN.out; omega) HBB.out.size ?_; intro v4 w4 hown4 hg4 _; have HN4 := hid hown4; have HG4 := hid (below_own HBB.out HTT.out hg4); clear hown4 hg4))
         go_roundg (6 - (1 + 1))
         case measure => omega
         case rel => exact ⟨1 + 1, by omega, rfl, rfl, HG4.out, by rw [HPL.out]; unfold TR; simpa using HN4.out, fun j hj => by rcases Nat.lt_or_ge j 1 with h | h; exact HZ.out j h; rw [show j = 1 by omega, HX.out]⟩
       · have HRR : Hid (R = (S6z, m)) := hid (by have := HNO.out 1 (by omega) HZ.out (by rw [HX.out]; exact he); rw [HX.out] at this; exact this)
         have q1 : ((m : Int) == 0) = false := by simpa using he
         have q2 : ¬ (m : Int) = 0 := by omega
         have hrb : wr.heap[w.heap.size]? = some (.cells #[St [], St [], St [], St [], St [], St []] 24 (0, 0)) := (HBE.out.block _ (heap_lt HR0.out)).trans HR0.out
         have HRC := hid (fun (W : World) (hb : Below wr.heap.size wr W) => (⟨fun o => cell_of_heap ((hb.block _ (heap_lt hrb)).trans hrb) o, fun o => frozen_of_heap ((hb.block _ (heap_lt hrb)).trans hrb) o⟩ : (∀ o, W.cell? ⟨w.heap.size, o, none⟩ = (#[St [], St [], St [], St [], St [], St []] : Array Value)[o]?) ∧ ∀ o, W.frozen? ⟨w.heap.size, o, none⟩ = false))
         clear hrb he HNO HOK HTR
         go_wp2_with (go_at_call 65; refine HPU.out.mono ?_; rintro _ w3 ⟨rfl, hb3⟩; have c0 : w3.cell? ⟨w.heap.size, 0, none⟩ = some (St []) := (HRC.out w3 hb3).1 0; have c1 : w3.cell? ⟨w.heap.size, 1, none⟩ = some (St []) := (HRC.out w3 hb3).1 1; have c2 : w3.cell? ⟨w.heap.size, 2, none⟩ = some (St []) := (HRC.out w3 hb3).1 2; have c3 : w3.cell? ⟨w.heap.size, 3, none⟩ = some (St []) := (HRC.out w3 hb3).1 3; have c4 : w3.cell? ⟨w.heap.size, 4, none⟩ = some (St []) := (HRC.out w3 hb3).1 4; have c5 : w3.cell? ⟨w.heap.size, 5, none⟩ = some (St []) := (HRC.out w3 hb3).1 5; have fr := (HRC.out w3 hb3).2; have HB3 := hid (HBL.out.trans ((HBE.out.trans (hb3.mono HBE.out.size)).mono HBL.out.size)); clear hb3)
         refine bodyPost_ret (v := .tuple #[.agg #[St [], St [], St [], St [], St [], St []], .int .i64 (m : Int)]) (by simp [results, Tryz.results39, go_sem, c0, c1, c2, c3, c4, c5]) rfl ⟨by rw [HRR.out]; rfl, ?_⟩
         exact (((((HB3.out.setCell (by simp) _).setCell (by simp) _).setCell (by simp) _).setCell (by simp) _).setCell (by simp) _).setCell (by simp) _
     · obtain rfl : i = 2 := by omega
       generalize hz : ((2 : Nat) : Int) = z
       obtain rfl : (2 : Int) = z := hz
       have hcl : wr.cell? ⟨lbk, 2, none⟩ = some (St (lb 2)) := by rw [cell_of_heap ((HBE.out.block _ (heap_lt HT0.out)).trans HT0.out)]; rfl
       have HPU := hid (rkyc_any b (lb 2) 0 (by decide) (by decide) wr)
       have HKR : Hid (kidRes b (lb 2) 0 = ckid b 2) := hid rfl
       rw [HKR.out] at HPU
       clear HKR
       obtain ⟨⟨t, m⟩, hx⟩ : ∃ r, ckid b 2 = r := ⟨_, rfl⟩
       have HX := hid hx
       rw [hx] at HPU
       clear hx hi hil
       generalize hlk : lb 2 = L at hcl HPU
       clear hlk
       by_cases he : m = 0
       · have hlen := ckidsL_len b 2
         obtain ⟨i0, hi0, hz0, hz1, hz2⟩ := info_parts Tryz.info22
         have HPL : Hid (ckidsL b (2 + 1) = ckidsL b 2 ++ [t]) := hid (by show ckidsL b 2 ++ [(ckid b 2).1] = _; rw [HX.out])
         have HT2 := hid (fun (W : World) (hb : Below wr.heap.size wr W) => (HTR.out.below hb).below (bel_alloc W (.cells #[St t] 22)))
         have HB2 := hid (fun (W : World) (hb : Below wr.heap.size wr W) => (HBE.out.trans (hb.mono HBE.out.size)).trans ((bel_alloc W (.cells #[St t] 22)).mono (Nat.le_trans HBE.out.size hb.size)))
         have HLEN := hid hlen
         generalize ckidsL b 2 = ts at HT2 HLEN HPL
         subst he
         clear hlen HTR HNO HOK
         go_wp2_with (first | (go_at_call 65; refine HPU.out.mono ?_; rintro _ w3 ⟨rfl, hb3⟩; have HB3 := hid hb3; have HTT := hid (HT2.out w3 hb3); have HBB := hid (HB2.out w3 hb3); clear hb3) | (at_builtin; refine wpList_append_own _ rfl (.tmp 42) (.tmp 44) 39 rfl w0.heap.size 22 i0 (.string ⟨#[]⟩) 1 16 Tryz.underlying39 hi0 hz0 hz1 hz2 rfl (by decide) u8 ts.length (ts.map St) rfl HTT.out ⟨w3.heap.size, 0, none⟩ 1 1 [St t] rfl rfl (cell_one_new _ _ _) (by intro u hu; simp at hu; subst hu; rfl) (by have := HLEN.out; unfold maxLen; omega) (by have := HLEN.out; omega) HBB.out.size ?_; intro v4 w4 hown4 hg4 _; have HN4 := hid hown4; have HG4 := hid (below_own HBB.out HTT.out hg4); clear hown4 hg4))
         go_roundg (6 - (2 + 1))
         case measure => omega
         case rel => exact ⟨2 + 1, by omega, rfl, rfl, HG4.out, by rw [HPL.out]; unfold TR; simpa using HN4.out, fun j hj => by rcases Nat.lt_or_ge j 2 with h | h; exact HZ.out j h; rw [show j = 2 by omega, HX.out]⟩
       · have HRR : Hid (R = (S6z, m)) := hid (by have := HNO.out 2 (by omega) HZ.out (by rw [HX.out]; exact he); rw [HX.out] at this; exact this)
         have q1 : ((m : Int) == 0) = false := by simpa using he
         have q2 : ¬ (m : Int) = 0 := by omega
         have hrb : wr.heap[w.heap.size]? = some (.cells #[St [], St [], St [], St [], St [], St []] 24 (0, 0)) := (HBE.out.block _ (heap_lt HR0.out)).trans HR0.out
         have HRC := hid (fun (W : World) (hb : Below wr.heap.size wr W) => (⟨fun o => cell_of_heap ((hb.block _ (heap_lt hrb)).trans hrb) o, fun o => frozen_of_heap ((hb.block _ (heap_lt hrb)).trans hrb) o⟩ : (∀ o, W.cell? ⟨w.heap.size, o, none⟩ = (#[St [], St [], St [], St [], St [], St []] : Array Value)[o]?) ∧ ∀ o, W.frozen? ⟨w.heap.size, o, none⟩ = false))
         clear hrb he HNO HOK HTR
         go_wp2_with (go_at_call 65; refine HPU.out.mono ?_; rintro _ w3 ⟨rfl, hb3⟩; have c0 : w3.cell? ⟨w.heap.size, 0, none⟩ = some (St []) := (HRC.out w3 hb3).1 0; have c1 : w3.cell? ⟨w.heap.size, 1, none⟩ = some (St []) := (HRC.out w3 hb3).1 1; have c2 : w3.cell? ⟨w.heap.size, 2, none⟩ = some (St []) := (HRC.out w3 hb3).1 2; have c3 : w3.cell? ⟨w.heap.size, 3, none⟩ = some (St []) := (HRC.out w3 hb3).1 3; have c4 : w3.cell? ⟨w.heap.size, 4, none⟩ = some (St []) := (HRC.out w3 hb3).1 4; have c5 : w3.cell? ⟨w.heap.size, 5, none⟩ = some (St []) := (HRC.out w3 hb3).1 5; have fr := (HRC.out w3 hb3).2; have HB3 := hid (HBL.out.trans ((HBE.out.trans (hb3.mono HBE.out.size)).mono HBL.out.size)); clear hb3)
         refine bodyPost_ret (v := .tuple #[.agg #[St [], St [], St [], St [], St [], St []], .int .i64 (m : Int)]) (by simp [results, Tryz.results39, go_sem, c0, c1, c2, c3, c4, c5]) rfl ⟨by rw [HRR.out]; rfl, ?_⟩
         exact (((((HB3.out.setCell (by simp) _).setCell (by simp) _).setCell (by simp) _).setCell (by simp) _).setCell (by simp) _).setCell (by simp) _
     · obtain rfl : i = 3 := by omega
       generalize hz : ((3 : Nat) : Int) = z
       obtain rfl : (3 : Int) = z := hz
       have hcl : wr.cell? ⟨lbk, 3, none⟩ = some (St (lb 3)) := by rw [cell_of_heap ((HBE.out.block _ (heap_lt HT0.out)).trans HT0.out)]; rfl
       have HPU := hid (rkyc_any b (lb 3) 0 (by decide) (by decide) wr)
       have HKR : Hid (kidRes b (lb 3) 0 = ckid b 3) := hid rfl
       rw [HKR.out] at HPU
       clear HKR
       obtain ⟨⟨t, m⟩, hx⟩ : ∃ r, ckid b 3 = r := ⟨_, rfl⟩
       have HX := hid hx
       rw [hx] at HPU
       clear hx hi hil
       generalize hlk : lb 3 = L at hcl HPU
       clear hlk
       by_cases he : m = 0
       · have hlen := ckidsL_len b 3
         obtain ⟨i0, hi0, hz0, hz1, hz2⟩ := info_parts Tryz.info22
         have HPL : Hid (ckidsL b (3 + 1) = ckidsL b 3 ++ [t]) := hid (by show ckidsL b 3 ++ [(ckid b 3).1] = _; rw [HX.out])
         have HT2 := hid (fun (W : World) (hb : Below wr.heap.size wr W) => (HTR.out.below hb).below (bel_alloc W (.cells #[St t] 22)))
         have HB2 := hid (fun (W : World) (hb : Below wr.heap.size wr W) => (HBE.out.trans (hb.mono HBE.out.size)).trans ((bel_alloc W (.cells #[St t] 22)).mono (Nat.le_trans HBE.out.size hb.size)))
         have HLEN := hid hlen
         generalize ckidsL b 3 = ts at HT2 HLEN HPL
         subst he
         clear hlen HTR HNO HOK
         go_wp2_with (first | (go_at_call 65; refine HPU.out.mono ?_; rintro _ w3 ⟨rfl, hb3⟩; have HB3 := hid hb3; have HTT := hid (HT2.out w3 hb3); have HBB := hid (HB2.out w3 hb3); clear hb3) | (at_builtin; refine wpList_append_own _ rfl (.tmp 42) (.tmp 44) 39 rfl w0.heap.size 22 i0 (.string ⟨#[]⟩) 1 16 Tryz.underlying39 hi0 hz0 hz1 hz2 rfl (by decide) u8 ts.length (ts.map St) rfl HTT.out ⟨w3.heap.size, 0, none⟩ 1 1 [St t] rfl rfl (cell_one_new _ _ _) (by intro u hu; simp at hu; subst hu; rfl) (by have := HLEN.out; unfold maxLen; omega) (by have := HLEN.out; omega) HBB.out.size ?_; intro v4 w4 hown4 hg4 _; have HN4 := hid hown4; have HG4 := hid (below_own HBB.out HTT.out hg4); clear hown4 hg4))
         go_roundg (6 - (3 + 1))
         case measure => omega
         case rel => exact ⟨3 + 1, by omega, rfl, rfl, HG4.out, by rw [HPL.out]; unfold TR; simpa using HN4.out, fun j hj => by rcases Nat.lt_or_ge j 3 with h | h; exact HZ.out j h; rw [show j = 3 by omega, HX.out]⟩
       · have HRR : Hid (R = (S6z, m)) := hid (by have := HNO.out 3 (by omega) HZ.out (by rw [HX.out]; exact he); rw [HX.out] at this; exact this)
         have q1 : ((m : Int) == 0) = false := by simpa using he
         have q2 : ¬ (m : Int) = 0 := by omega
         have hrb : wr.heap[w.heap.size]? = some (.cells #[St [], St [], St [], St [], St [], St []] 24 (0, 0)) := (HBE.out.block _ (heap_lt HR0.out)).trans HR0.out
         have HRC := hid (fun (W : World) (hb : Below wr.heap.size wr W) => (⟨fun o => cell_of_heap ((hb.block _ (heap_lt hrb)).trans hrb) o, fun o => frozen_of_heap ((hb.block _ (heap_lt hrb)).trans hrb) o⟩ : (∀ o, W.cell? ⟨w.heap.size, o, none⟩ = (#[St [], St [], St [], St [], St [], St []] : Array Value)[o]?) ∧ ∀ o, W.frozen? ⟨w.heap.size, o, none⟩ = false))
         clear hrb he HNO HOK HTR
         go_wp2_with (go_at_call 65; refine HPU.out.mono ?_; rintro _ w3 ⟨rfl, hb3⟩; have c0 : w3.cell? ⟨w.heap.size, 0, none⟩ = some (St []) := (HRC.out w3 hb3).1 0; have c1 : w3.cell? ⟨w.heap.size, 1, none⟩ = some (St []) := (HRC.out w3 hb3).1 1; have c2 : w3.cell? ⟨w.heap.size, 2, none⟩ = some (St []) := (HRC.out w3 hb3).1 2; have c3 : w3.cell? ⟨w.heap.size, 3, none⟩ = some (St []) := (HRC.out w3 hb3).1 3; have c4 : w3.cell? ⟨w.heap.size, 4, none⟩ = some (St []) := (HRC.out w3 hb3).1 4; have c5 : w3.cell? ⟨w.heap.size, 5, none⟩ = some (St []) := (HRC.out w3 hb3).1 5; have fr := (HRC.out w3 hb3).2; have HB3 := hid (HBL.out.trans ((HBE.out.trans (hb3.mono HBE.out.size)).mono HBL.out.size)); clear hb3)
         refine bodyPost_ret (v := .tuple #[.agg #[St [], St [], St [], St [], St [], St []], .int .i64 (m : Int)]) (by simp [results, Tryz.results39, go_sem, c0, c1, c2, c3, c4, c5]) rfl ⟨by rw [HRR.out]; rfl, ?_⟩
         exact (((((HB3.out.setCell (by simp) _).setCell (by simp) _).setCell (by simp) _).setCell (by simp) _).setCell (by simp) _).setCell (by simp) _
     · obtain rfl : i = 4 := by omega
       generalize hz : ((4 : Nat) : Int) = z
       obtain rfl : (4 : Int) = z := hz
       have hcl : wr.cell? ⟨lbk, 4, none⟩ = some (St (lb 4)) := by rw [cell_of_heap ((HBE.out.block _ (heap_lt HT0.out)).trans HT0.out)]; rfl
       have HPU := hid (rkyc_any b (lb 4) 0 (by decide) (by decide) wr)
       have HKR : Hid (kidRes b (lb 4) 0 = ckid b 4) := hid rfl
       rw [HKR.out] at HPU
       clear HKR
       obtain ⟨⟨t, m⟩, hx⟩ : ∃ r, ckid b 4 = r := ⟨_, rfl⟩
       have HX := hid hx
       rw [hx] at HPU
       clear hx hi hil
       generalize hlk : lb 4 = L at hcl HPU
       clear hlk
       by_cases he : m = 0
       · have hlen := ckidsL_len b 4
         obtain ⟨i0, hi0, hz0, hz1, hz2⟩ := info_parts Tryz.info22
         have HPL : Hid (ckidsL b (4 + 1) = ckidsL b 4 ++ [t]) := hid (by show ckidsL b 4 ++ [(ckid b 4).1] = _; rw [HX.out])
         have HT2 := hid (fun (W : World) (hb : Below wr.heap.size wr W) => (HTR.out.below hb).below (bel_alloc W (.cells #[St t] 22)))
         have HB2 := hid (fun (W : World) (hb : Below wr.heap.size wr W) => (HBE.out.trans (hb.mono HBE.out.size)).trans ((bel_alloc W (.cells #[St t] 22)).mono (Nat.le_trans HBE.out.size hb.size)))
         have HLEN := hid hlen
         generalize ckidsL b 4 = ts at HT2 HLEN HPL
         subst he
         clear hlen HTR HNO HOK
         go_wp2_with (first | (go_at_call 65; refine HPU.out.mono ?_; rintro _ w3 ⟨rfl, hb3⟩; have HB3 := hid hb3; have HTT := hid (HT2.out w3 hb3); have HBB := hid (HB2.out w3 hb3); clear hb3) | (at_builtin; refine wpList_append_own _ rfl (.tmp 42) (.tmp 44) 39 rfl w0.heap.size 22 i0 (.string ⟨#[]⟩) 1 16 Tryz.underlying39 hi0 hz0 hz1 hz2 rfl (by decide) u8 ts.length (ts.map St) rfl HTT.out ⟨w3.heap.size, 0, none⟩ 1 1 [St t] rfl rfl (cell_one_new _ _ _) (by intro u hu; simp at hu; subst hu; rfl) (by have := HLEN.out; unfold maxLen; omega) (by have := HLEN.out; omega) HBB.out.size ?_; intro v4 w4 hown4 hg4 _; have HN4 := hid hown4; have HG4 := hid (below_own HBB.out HTT.out hg4); clear hown4 hg4))
         go_roundg (6 - (4 + 1))
         case measure => omega
         case rel => exact ⟨4 + 1, by omega, rfl, rfl, HG4.out, by rw [HPL.out]; unfold TR; simpa using HN4.out, fun j hj => by rcases Nat.lt_or_ge j 4 with h | h; exact HZ.out j h; rw [show j = 4 by omega, HX.out]⟩
       · have HRR : Hid (R = (S6z, m)) := hid (by have := HNO.out 4 (by omega) HZ.out (by rw [HX.out]; exact he); rw [HX.out] at this; exact this)
         have q1 : ((m : Int) == 0) = false := by simpa using he
         have q2 : ¬ (m : Int) = 0 := by omega
         have hrb : wr.heap[w.heap.size]? = some (.cells #[St [], St [], St [], St [], St [], St []] 24 (0, 0)) := (HBE.out.block _ (heap_lt HR0.out)).trans HR0.out
         have HRC := hid (fun (W : World) (hb : Below wr.heap.size wr W) => (⟨fun o => cell_of_heap ((hb.block _ (heap_lt hrb)).trans hrb) o, fun o => frozen_of_heap ((hb.block _ (heap_lt hrb)).trans hrb) o⟩ : (∀ o, W.cell? ⟨w.heap.size, o, none⟩ = (#[St [], St [], St [], St [], St [], St []] : Array Value)[o]?) ∧ ∀ o, W.frozen? ⟨w.heap.size, o, none⟩ = false))
         clear hrb he HNO HOK HTR
         go_wp2_with (go_at_call 65; refine HPU.out.mono ?_; rintro _ w3 ⟨rfl, hb3⟩; have c0 : w3.cell? ⟨w.heap.size, 0, none⟩ = some (St []) := (HRC.out w3 hb3).1 0; have c1 : w3.cell? ⟨w.heap.size, 1, none⟩ = some (St []) := (HRC.out w3 hb3).1 1; have c2 : w3.cell? ⟨w.heap.size, 2, none⟩ = some (St []) := (HRC.out w3 hb3).1 2; have c3 : w3.cell? ⟨w.heap.size, 3, none⟩ = some (St []) := (HRC.out w3 hb3).1 3; have c4 : w3.cell? ⟨w.heap.size, 4, none⟩ = some (St []) := (HRC.out w3 hb3).1 4; have c5 : w3.cell? ⟨w.heap.size, 5, none⟩ = some (St []) := (HRC.out w3 hb3).1 5; have fr := (HRC.out w3 hb3).2; have HB3 := hid (HBL.out.trans ((HBE.out.trans (hb3.mono HBE.out.size)).mono HBL.out.size)); clear hb3)
         refine bodyPost_ret (v := .tuple #[.agg #[St [], St [], St [], St [], St [], St []], .int .i64 (m : Int)]) (by simp [results, Tryz.results39, go_sem, c0, c1, c2, c3, c4, c5]) rfl ⟨by rw [HRR.out]; rfl, ?_⟩
         exact (((((HB3.out.setCell (by simp) _).setCell (by simp) _).setCell (by simp) _).setCell (by simp) _).setCell (by simp) _).setCell (by simp) _
     · obtain rfl : i = 5 := by omega
       generalize hz : ((5 : Nat) : Int) = z
       obtain rfl : (5 : Int) = z := hz
       have hcl : wr.cell? ⟨lbk, 5, none⟩ = some (St (lb 5)) := by rw [cell_of_heap ((HBE.out.block _ (heap_lt HT0.out)).trans HT0.out)]; rfl
       have HPU := hid (rkyc_any b (lb 5) 0 (by decide) (by decide) wr)
       have HKR : Hid (kidRes b (lb 5) 0 = ckid b 5) := hid rfl
       rw [HKR.out] at HPU
       clear HKR
       obtain ⟨⟨t, m⟩, hx⟩ : ∃ r, ckid b 5 = r := ⟨_, rfl⟩
       have HX := hid hx
       rw [hx] at HPU
       clear hx hi hil
       generalize hlk : lb 5 = L at hcl HPU
       clear hlk
       by_cases he : m = 0
       · have hlen := ckidsL_len b 5
         obtain ⟨i0, hi0, hz0, hz1, hz2⟩ := info_parts Tryz.info22
         have HPL : Hid (ckidsL b (5 + 1) = ckidsL b 5 ++ [t]) := hid (by show ckidsL b 5 ++ [(ckid b 5).1] = _; rw [HX.out])
         have HT2 := hid (fun (W : World) (hb : Below wr.heap.size wr W) => (HTR.out.below hb).below (bel_alloc W (.cells #[St t] 22)))
         have HB2 := hid (fun (W : World) (hb : Below wr.heap.size wr W) => (HBE.out.trans (hb.mono HBE.out.size)).trans ((bel_alloc W (.cells #[St t] 22)).mono (Nat.le_trans HBE.out.size hb.size)))
         have HLEN := hid hlen
         generalize ckidsL b 5 = ts at HT2 HLEN HPL
         subst he
         clear hlen HTR HNO HOK
         go_wp2_with (first | (go_at_call 65; refine HPU.out.mono ?_; rintro _ w3 ⟨rfl, hb3⟩; have HB3 := hid hb3; have HTT := hid (HT2.out w3 hb3); have HBB := hid (HB2.out w3 hb3); clear hb3) | (at_builtin; refine wpList_append_own _ rfl (.tmp 42) (.tmp 44) 39 rfl w0.heap.size 22 i0 (.string ⟨#[]⟩) 1 16 Tryz.underlying39 hi0 hz0 hz1 hz2 rfl (by decide) u8 ts.length (ts.map St) rfl HTT.out ⟨w3.heap.size, 0, none⟩ 1 1 [St t] rfl rfl (cell_one_new _ _ _) (by intro u hu; simp at hu; subst hu; rfl) (by have := HLEN.out; unfold maxLen; omega) (by have := HLEN.out; omega) HBB.out.size ?_; intro v4 w4 hown4 hg4 _; have HN4 := hid hown4; have HG4 := hid (below_own HBB.out HTT.out hg4); clear hown4 hg4))
         go_roundg (6 - (5 + 1))
         case measure => omega
         case rel => exact ⟨5 + 1, by omega, rfl, rfl, HG4.out, by rw [HPL.out]; unfold TR; simpa using HN4.out, fun j hj => by rcases Nat.lt_or_ge j 5 with h | h; exact HZ.out j h; rw [show j = 5 by omega, HX.out]⟩
       · have HRR : Hid (R = (S6z, m)) := hid (by have := HNO.out 5 (by omega) HZ.out (by rw [HX.out]; exact he); rw [HX.out] at this; exact this)
         have q1 : ((m : Int) == 0) = false := by simpa using he
         have q2 : ¬ (m : Int) = 0 := by omega
         have hrb : wr.heap[w.heap.size]? = some (.cells #[St [], St [], St [], St [], St [], St []] 24 (0, 0)) := (HBE.out.block _ (heap_lt HR0.out)).trans HR0.out
         have HRC := hid (fun (W : World) (hb : Below wr.heap.size wr W) => (⟨fun o => cell_of_heap ((hb.block _ (heap_lt hrb)).trans hrb) o, fun o => frozen_of_heap ((hb.block _ (heap_lt hrb)).trans hrb) o⟩ : (∀ o, W.cell? ⟨w.heap.size, o, none⟩ = (#[St [], St [], St [], St [], St [], St []] : Array Value)[o]?) ∧ ∀ o, W.frozen? ⟨w.heap.size, o, none⟩ = false))
         clear hrb he HNO HOK HTR
         go_wp2_with (go_at_call 65; refine HPU.out.mono ?_; rintro _ w3 ⟨rfl, hb3⟩; have c0 : w3.cell? ⟨w.heap.size, 0, none⟩ = some (St []) := (HRC.out w3 hb3).1 0; have c1 : w3.cell? ⟨w.heap.size, 1, none⟩ = some (St []) := (HRC.out w3 hb3).1 1; have c2 : w3.cell? ⟨w.heap.size, 2, none⟩ = some (St []) := (HRC.out w3 hb3).1 2; have c3 : w3.cell? ⟨w.heap.size, 3, none⟩ = some (St []) := (HRC.out w3 hb3).1 3; have c4 : w3.cell? ⟨w.heap.size, 4, none⟩ = some (St []) := (HRC.out w3 hb3).1 4; have c5 : w3.cell? ⟨w.heap.size, 5, none⟩ = some (St []) := (HRC.out w3 hb3).1 5; have fr := (HRC.out w3 hb3).2; have HB3 := hid (HBL.out.trans ((HBE.out.trans (hb3.mono HBE.out.size)).mono HBL.out.size)); clear hb3)
         refine bodyPost_ret (v := .tuple #[.agg #[St [], St [], St [], St [], St [], St []], .int .i64 (m : Int)]) (by simp [results, Tryz.results39, go_sem, c0, c1, c2, c3, c4, c5]) rfl ⟨by rw [HRR.out]; rfl, ?_⟩
         exact (((((HB3.out.setCell (by simp) _).setCell (by simp) _).setCell (by simp) _).setCell (by simp) _).setCell (by simp) _).setCell (by simp) _
   · obtain rfl : i = 6 := by omega
     generalize hz : ((6 : Nat) : Int) = z
     obtain rfl : (6 : Int) = z := hz
     have HRR := hid (HOK.out (fun j hj => HZ.out j hj))
     obtain ⟨g, cap, hv, hgb, hgl, hcs⟩ := HTR.out.cells (by intro h; have := ckidsL_len b 6; rw [h] at this; cases this)
     rw [ckidsL_len] at hv
     subst hv
     have t0 : wr.cell? ⟨g, 0, none⟩ = some (St (ckid b 0).1) := hcs 0 (by rw [ckidsL_len]; decide)
     have t1 : wr.cell? ⟨g, 1, none⟩ = some (St (ckid b 1).1) := hcs 1 (by rw [ckidsL_len]; decide)
     have t2 : wr.cell? ⟨g, 2, none⟩ = some (St (ckid b 2).1) := hcs 2 (by rw [ckidsL_len]; decide)
     have t3 : wr.cell? ⟨g, 3, none⟩ = some (St (ckid b 3).1) := hcs 3 (by rw [ckidsL_len]; decide)
     have t4 : wr.cell? ⟨g, 4, none⟩ = some (St (ckid b 4).1) := hcs 4 (by rw [ckidsL_len]; decide)
     have t5 : wr.cell? ⟨g, 5, none⟩ = some (St (ckid b 5).1) := hcs 5 (by rw [ckidsL_len]; decide)
     have HAT : Hid (rcAt (ckid b 0).1 (ckid b 1).1 (ckid b 2).1 (ckid b 3).1 (ckid b 4).1 (ckid b 5).1 g wr) := hid ⟨t0, t1, t2, t3, t4, t5⟩
     clear hcs t0 t1 t2 t3 t4 t5
     generalize (ckid b 0).1 = y0 at HRR HAT
     generalize (ckid b 1).1 = y1 at HRR HAT
     generalize (ckid b 2).1 = y2 at HRR HAT
     generalize (ckid b 3).1 = y3 at HRR HAT
     generalize (ckid b 4).1 = y4 at HRR HAT
     generalize (ckid b 5).1 = y5 at HRR HAT
     have hrb : wr.heap[w.heap.size]? = some (.cells #[St [], St [], St [], St [], St [], St []] 24 (0, 0)) := (HBE.out.block _ (heap_lt HR0.out)).trans HR0.out
     have HRB := hid hrb
     have HNE : Hid (g ≠ w.heap.size) := hid (by have := HSZ.out; omega)
     clear hrb hgb hgl HNO HOK HTR HZ hi hil
     go_wp2_with fail
     rename_i hK
     have HK := hid hK
     clear hK
     refine rcreg (t0 := y0) (t1 := y1) (t2 := y2) (t3 := y3) (t4 := y4) (t5 := y5) (g := g) (c := cap) (rb := w.heap.size) rfl rfl (by show 66 ≤ 66; decide) HNE.out HAT.out HRB.out ?_
     intro a ho hv
     have e2 : gt a 4 = .pointer (some ⟨w.heap.size, 0, none⟩) := (ho.slot (by decide)).trans rfl
     have e3 : gt a 5 = .int .i64 0 := hv 20 (by decide) (by decide)
     refine HK.out a _ ?_
     rw [act66 a (ho.size.trans rfl) (ho.defers.trans rfl), e2, e3]
     clear e2 e3 HK ho hv
     have c0 : ∀ o, wr.cell? ⟨w.heap.size, o, none⟩ = (#[St [], St [], St [], St [], St [], St []] : Array Value)[o]? := fun o => cell_of_heap HRB.out o
     have d0 : wr.cell? ⟨w.heap.size, 0, none⟩ = some (St []) := c0 0
     have d1 : wr.cell? ⟨w.heap.size, 1, none⟩ = some (St []) := c0 1
     have d2 : wr.cell? ⟨w.heap.size, 2, none⟩ = some (St []) := c0 2
     have d3 : wr.cell? ⟨w.heap.size, 3, none⟩ = some (St []) := c0 3
     have d4 : wr.cell? ⟨w.heap.size, 4, none⟩ = some (St []) := c0 4
     have d5 : wr.cell? ⟨w.heap.size, 5, none⟩ = some (St []) := c0 5
     clear c0
     go_wp2_with fail
     refine bodyPost_ret (v := .tuple #[.agg #[St y0, St y1, St y2, St y3, St y4, St y5], .int .i64 0]) (by simp [results, Tryz.results39, go_sem, d0, d1, d2, d3, d4, d5]) rfl ⟨by rw [HRR.out]; rfl, ?_⟩
     have HBB := hid (HBL.out.trans (HBE.out.mono HBL.out.size))
     exact ((((((HBB.out.setCell (by simp) _).setCell (by simp) _).setCell (by simp) _).setCell (by simp) _).setCell (by simp) _).setCell (by simp) _).drew
theorem rchannel_any (root : Bs) (n : Int) (hn : n ≤ 9223372036854775807) (w : World) :
   Calls Tryz.prog 39 #[St root, .int .i64 n] w fun en w' => en = .returned (.tuple #[(chanRes root n).1.v, .int .i64 ((chanRes root n).2 : Int)]) ∧ Below w.heap.size w w' := by
 by_cases h0 : n < 0
 · exact rchan_neg root n h0 w
 · by_cases he : (numRes root wChan n).2 = 0
   · exact rchan_main root n h0 hn w he
   · exact rchan_err root n h0 hn w he
end Go.Proofs.YtkifchjpgdmcoaaGreatDoor
