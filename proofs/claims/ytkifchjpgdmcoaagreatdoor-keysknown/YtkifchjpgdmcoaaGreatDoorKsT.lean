/- KeysKnown: the program. -/
import Derived.Test.YtkifchjpgdmcoaaGreatDoorKsAll
import Derived.Test.YtkifchjpgdmcoaaGreatDoorKyMAll
import Derived.Test.YtkifchjpgdmcoaaGreatDoorKyY
namespace Go.Proofs.YtkifchjpgdmcoaaGreatDoor
open Go.RowKit
theorem pick_1 (w : World) : Calls Tryz.prog 19 #[.int .i64 1, .int .i64 2] w fun e w' => e = .returned (.int .i64 1) ∧ w' = w := by
 go_enter Tryz.func19, Tryz.ntmps19
 go_wp2_with fail
 go_ret
 exact ⟨rfl, rfl⟩
def gdS : S6 := ⟨[110, 49, 59], [110, 50, 59], [110, 51, 59], [86, 110, 49, 59, 110, 50, 59], [75, 110, 49, 59, 116, 48, 58], [110, 54, 59]⟩
theorem gd_few : (pubs5 gdS).1.f.length ≤ 100 ∧ (pubs5 gdS).1.r.length ≤ 100 ∧ (pubs5 gdS).1.p.length ≤ 100 ∧ (pubs5 gdS).1.l.length ≤ 100 ∧ (pubs5 gdS).1.h.length ≤ 100 := by decide +kernel
def tsL : List Bs := [[110, 49, 59], [], [110], [80, 110, 49, 59], [116, 49, 58, 97], [87, 80, 110, 49, 59, 80, 110, 50, 59], [72, 110, 49, 59]]
def nsL : List Int := [-9223372036854775808, -1, 0, 1, 7, 1048574, 1048575, 1048576, 9223372036854775807]
theorem ns_few : ∀ x ∈ nsL, -9223372036854775808 ≤ x ∧ x ≤ 9223372036854775807 := by decide +kernel
theorem ts_few : ∀ x ∈ tsL, x.length ≤ 100 := by decide +kernel
set_option maxHeartbeats 8000000 in
set_option maxRecDepth 100000 in
theorem knownLaw_any (w : World) (hp : Pw w) (hl : Lb w) (hG : G0 w) : Calls Tryz.prog 4 #[] w fun e w' => e = .returned (.bool true) ∧ Below w.heap.size w w' := by
 have C1 := hid (fun (W : World) (_ : Below w.heap.size w W) => public_any gdS W)
 have hf := gd_few
 generalize hK : pubs5 gdS = R at C1 hf
 obtain ⟨⟨p0, p1, p2, p3, p4⟩, er⟩ := R
 clear hK
 unfold S6.v K5.v gdS at C1
 dsimp only at C1 hf
 have HF := hid hf
 clear hf
 have HPL := hid (And.intro hp (And.intro hl hG))
 clear hp hl hG
 have C15 := hid (fun (x : Bs) (n : Int) (h : n ≤ 9223372036854775807) (W : World) (hb : Below w.heap.size w W) => makesLaw_any x n h W (HPL.out.1.below hb) (HPL.out.2.1.below hb))
 have C16 := hid (fun (x0 x1 x2 x3 x4 x5 : Bs) (m0 : x0.length ≤ 100) (m1 : x1.length ≤ 100) (m2 : x2.length ≤ 100) (m3 : x3.length ≤ 100) (m4 : x4.length ≤ 100) (m5 : x5.length ≤ 100) (n : Int) (h1 : -9223372036854775808 ≤ n) (h2 : n ≤ 9223372036854775807) (W : World) (hb : Below w.heap.size w W) => pointsLaw_any x0 x1 x2 x3 x4 x5 (by omega) (by omega) (by omega) (by omega) (by omega) (by omega) n h1 h2 W (HPL.out.1.below hb) (HPL.out.2.1.below hb))
 have C17 := hid (fun (o0 o1 o2 o3 o4 q0 q1 q2 q3 q4 pt : Bs) (m0 : o3.length ≤ 100) (m1 : o4.length ≤ 100) (m2 : o0.length ≤ 100) (m3 : q1.length ≤ 100) (m4 : q2.length ≤ 100) (m5 : q4.length ≤ 100) (m6 : pt.length ≤ 100) (W : World) (hb : Below w.heap.size w W) => setsLaw_any o0 o1 o2 o3 o4 q0 q1 q2 q3 q4 pt (by omega) (by omega) (by omega) (by omega) (by omega) (by omega) (by omega) W (HPL.out.1.below hb) (HPL.out.2.1.below hb))
 have C18 := hid (fun (a b n : Int) (ha : a ≤ 9223372036854775807) (hb' : b ≤ 9223372036854775807) (W : World) (hb : Below w.heap.size w W) => fitLaw_any a b n ha hb' W (HPL.out.1.below hb) (HPL.out.2.1.below hb))
 have C3 := hid (fun (a b n : Int) (ha : a ≤ 9223372036854775807) (hb' : b ≤ 9223372036854775807) (W : World) (hb : Below w.heap.size w W) => secretLaw_any a b n ha hb' W (HPL.out.1.below hb) (HPL.out.2.1.below hb) (HPL.out.2.2.below hb))
 have HW := hid (fun (W : World) (hb : Below w.heap.size w W) => works_any W (HPL.out.1.below hb) (HPL.out.2.1.below hb))
 clear HPL
 obtain ⟨b0, hb0⟩ : ∃ x, x = w.alloc (.cells #[St [110, 49, 59], St [110, 50, 59], St [110, 51, 59], St [86, 110, 49, 59, 110, 50, 59], St [75, 110, 49, 59, 116, 48, 58], St [110, 54, 59]] 24) := ⟨_, rfl⟩
 have hz : Below w.heap.size w b0 := by rw [hb0]; exact bel_alloc w _
 have XG : Hid (b0.heap[w.heap.size]? = some (.cells #[St [110, 49, 59], St [110, 50, 59], St [110, 51, 59], St [86, 110, 49, 59, 110, 50, 59], St [75, 110, 49, 59, 116, 48, 58], St [110, 54, 59]] 24 (0, 0))) := hid (by rw [hb0]; exact heap_alloc_new w _)
 have HR := hid hz
 have hcc := C1.out b0 hz
 rw [hb0] at hcc
 have HE := hid hb0
 clear hb0 hz C1
 go_enter Tryz.func4, Tryz.ntmps4
 go_wp2_with fail
 refine hcc.mono ?_
 clear hcc
 rintro _ v1 ⟨rfl, hb⟩
 rw [← HE.out] at hb
 have HR1 := hid (HR.out.trans (hb.mono HR.out.size))
 have XG1 := hid ((hb.block _ (heap_lt XG.out)).trans XG.out)
 clear hb HR XG HE
 obtain ⟨b1, hb1⟩ : ∃ x, x = v1.alloc (.cells #[St p0, St p1, St p2, St p3, St p4] 33) := ⟨_, rfl⟩
 obtain ⟨b2, hb2⟩ : ∃ x, x = b1.alloc (.cells #[St [110, 49, 59], St [], St [110], St [80, 110, 49, 59], St [116, 49, 58, 97], St [87, 80, 110, 49, 59, 80, 110, 50, 59], St [72, 110, 49, 59]] 22) := ⟨_, rfl⟩
 have z1 : b1.heap.size = v1.heap.size + 1 := by rw [hb1]; simp
 have l1 : Below v1.heap.size v1 b1 := by rw [hb1]; exact bel_alloc v1 _
 have l2 : Below b1.heap.size b1 b2 := by rw [hb2]; exact bel_alloc b1 _
 obtain ⟨gp, hgp⟩ : ∃ x, x = v1.heap.size := ⟨_, rfl⟩
 have XG : Hid (b2.heap[w.heap.size]? = some (.cells #[St [110, 49, 59], St [110, 50, 59], St [110, 51, 59], St [86, 110, 49, 59, 110, 50, 59], St [75, 110, 49, 59, 116, 48, 58], St [110, 54, 59]] 24 (0, 0))) := hid (by exact (l2.block _ (by have := heap_lt XG1.out; omega)).trans ((l1.block _ (heap_lt XG1.out)).trans XG1.out))
 have XP : Hid (b2.heap[gp]? = some (.cells #[St p0, St p1, St p2, St p3, St p4] 33 (0, 0))) := hid (by rw [hgp]; exact (l2.block _ (by omega)).trans (by rw [hb1]; exact heap_alloc_new v1 _))
 have XT : Hid (b2.heap[gp + 1]? = some (.cells #[St [110, 49, 59], St [], St [110], St [80, 110, 49, 59], St [116, 49, 58, 97], St [87, 80, 110, 49, 59, 80, 110, 50, 59], St [72, 110, 49, 59]] 22 (0, 0))) := hid (by rw [hgp, ← z1, hb2]; exact heap_alloc_new b1 _)
 have HR : Hid (Below w.heap.size w b2) := hid (HR1.out.trans ((l1.trans (l2.mono (by omega))).mono HR1.out.size))
 have HE : Hid (b2 = (v1.alloc (.cells #[St p0, St p1, St p2, St p3, St p4] 33)).alloc (.cells #[St [110, 49, 59], St [], St [110], St [80, 110, 49, 59], St [116, 49, 58, 97], St [87, 80, 110, 49, 59, 80, 110, 50, 59], St [72, 110, 49, 59]] 22)) := hid (by rw [hb2, hb1])
 clear XG1 HR1 z1 l1 l2 hb1 hb2
 go_wp2_with fail
 rw [← hgp]
 have HGP := hid hgp
 clear hgp
 go_loopg [21] 7 (fun gg' v wr => ∃ i : Nat, i ≤ 7 ∧ gg' = 7 - i ∧ v = .int .i64 (i : Int) ∧ Below b2.heap.size b2 wr)
 case atStart => exact ⟨0, by omega, by omega, rfl, by rw [HE.out]; exact Below.refl _ _⟩
 case round =>
   obtain ⟨i, hi, rfl, rfl, hbel⟩ := hrel
   have HBE := hid hbel
   clear hbel
   have YG := hid ((HBE.out.block _ (heap_lt XG.out)).trans XG.out)
   have YP := hid ((HBE.out.block _ (heap_lt XP.out)).trans XP.out)
   have YT := hid ((HBE.out.block _ (heap_lt XT.out)).trans XT.out)
   by_cases hil : i < 7
   · obtain ⟨t, ht⟩ : ∃ t, t = tsL.getD i [] := ⟨_, rfl⟩
     have HT : Hid (t.length ≤ 100) := hid (by
       have htl : i < tsL.length := hil
       refine ts_few t ?_
       rw [ht, List.getD_eq_getElem?_getD, List.getElem?_eq_getElem htl]
       exact List.getElem_mem htl)
     have hcl : wr.cell? ⟨gp + 1, i, none⟩ = some (St t) := by
       rw [cell_of_heap YT.out, ht]
       rcases (show i = 0 ∨ i = 1 ∨ i = 2 ∨ i = 3 ∨ i = 4 ∨ i = 5 ∨ i = 6 by omega) with h | h | h | h | h | h | h <;> subst h <;> rfl
     clear ht
     obtain ⟨c0, hc0⟩ : ∃ x, x = wr.alloc (.cells #[.int .i64 (-9223372036854775808), .int .i64 (-1), .int .i64 (0), .int .i64 (1), .int .i64 (7), .int .i64 (1048574), .int .i64 (1048575), .int .i64 (1048576), .int .i64 (9223372036854775807)] 2) := ⟨_, rfl⟩
     have hz : Below wr.heap.size wr c0 := by rw [hc0]; exact bel_alloc wr _
     obtain ⟨gn, hgn⟩ : ∃ x, x = wr.heap.size := ⟨_, rfl⟩
     have XN : Hid (c0.heap[gn]? = some (.cells #[.int .i64 (-9223372036854775808), .int .i64 (-1), .int .i64 (0), .int .i64 (1), .int .i64 (7), .int .i64 (1048574), .int .i64 (1048575), .int .i64 (1048576), .int .i64 (9223372036854775807)] 2 (0, 0))) := hid (by rw [hc0, hgn]; exact heap_alloc_new wr _)
     have HB1 := hid (HBE.out.trans (hz.mono HBE.out.size))
     have HEC := hid hc0
     have HGN := hid hgn
     go_wp2_with fail
     rw [← hgn]
     have HIL := hid hil
     clear hc0 hgn hz hcl YG YP YT hil hi
     rw [show (decide ((i : Int) < 7)) = true from decide_eq_true (by have := HIL.out; omega)]
     go_loopg [27] 9 (fun gg' v wr => ∃ j : Nat, j ≤ 9 ∧ gg' = 9 - j ∧ v = .int .i64 (j : Int) ∧ Below c0.heap.size c0 wr)
     case atStart => exact ⟨0, by omega, by omega, rfl, by rw [HEC.out]; exact Below.refl _ _⟩
     case round =>
       obtain ⟨j, hj, rfl, rfl, hbel⟩ := hrel
       have HBF := hid hbel
       clear hbel
       have HB2 := hid (HB1.out.trans (HBF.out.mono HB1.out.size))
       have HW2 := hid (HR.out.trans (HB2.out.mono HR.out.size))
       by_cases hjl : j < 9
       · obtain ⟨n, hn⟩ : ∃ n, n = nsL.getD j 0 := ⟨_, rfl⟩
         have HN : Hid (-9223372036854775808 ≤ n ∧ n ≤ 9223372036854775807) := hid (by
           have htl : j < nsL.length := hjl
           refine ns_few n ?_
           rw [hn, List.getD_eq_getElem?_getD, List.getElem?_eq_getElem htl]
           exact List.getElem_mem htl)
         have hcl : wr.cell? ⟨gn, j, none⟩ = some (.int .i64 n) := by
           rw [cell_of_heap ((HBF.out.block _ (heap_lt XN.out)).trans XN.out), hn]
           rcases (show j = 0 ∨ j = 1 ∨ j = 2 ∨ j = 3 ∨ j = 4 ∨ j = 5 ∨ j = 6 ∨ j = 7 ∨ j = 8 by omega) with h | h | h | h | h | h | h | h | h <;> subst h <;> rfl
         clear hn hj
         go_wp2_with fail
         refine (C15.out t n HN.out.2 wr HW2.out).mono ?_
         rintro _ u1 ⟨rfl, hb⟩
         have HW3 := hid (HW2.out.trans (hb.mono HW2.out.size))
         have HB3 := hid (HB2.out.trans (hb.mono HB2.out.size))
         have HF3 := hid (HBF.out.trans (hb.mono HBF.out.size))
         clear hb hcl
         have jG0 : u1.cell? ⟨w.heap.size, 0, none⟩ = some (St [110, 49, 59]) := by rw [cell_of_heap ((HB3.out.block _ (heap_lt XG.out)).trans XG.out)]; rfl
         have jG1 : u1.cell? ⟨w.heap.size, 1, none⟩ = some (St [110, 50, 59]) := by rw [cell_of_heap ((HB3.out.block _ (heap_lt XG.out)).trans XG.out)]; rfl
         have jG2 : u1.cell? ⟨w.heap.size, 2, none⟩ = some (St [110, 51, 59]) := by rw [cell_of_heap ((HB3.out.block _ (heap_lt XG.out)).trans XG.out)]; rfl
         have jG3 : u1.cell? ⟨w.heap.size, 3, none⟩ = some (St [86, 110, 49, 59, 110, 50, 59]) := by rw [cell_of_heap ((HB3.out.block _ (heap_lt XG.out)).trans XG.out)]; rfl
         have jG4 : u1.cell? ⟨w.heap.size, 4, none⟩ = some (St [75, 110, 49, 59, 116, 48, 58]) := by rw [cell_of_heap ((HB3.out.block _ (heap_lt XG.out)).trans XG.out)]; rfl
         have jG5 : u1.cell? ⟨w.heap.size, 5, none⟩ = some (St [110, 54, 59]) := by rw [cell_of_heap ((HB3.out.block _ (heap_lt XG.out)).trans XG.out)]; rfl
         have ltG : w.heap.size < u1.heap.size := heap_lt ((HB3.out.block _ (heap_lt XG.out)).trans XG.out)
         go_wp2_with fail
         refine (C16.out _ _ _ _ _ _ (by decide) (by decide) (by decide) (by decide) (by decide) (by decide) n HN.out.1 HN.out.2 u1 HW3.out).mono ?_
         rintro _ u2 ⟨rfl, hb⟩
         have HW4 := hid (HW3.out.trans (hb.mono HW3.out.size))
         have HF4 := hid (HF3.out.trans (hb.mono HF3.out.size))
         clear hb jG0 jG1 jG2 jG3 jG4 jG5 ltG
         go_wp2_with fail
         refine (C16.out t [110, 50, 59] t [110, 52, 59] [110, 53, 59] t HT.out (by decide) HT.out (by decide) (by decide) HT.out n HN.out.1 HN.out.2 u2 HW4.out).mono ?_
         rintro _ u3 ⟨rfl, hb⟩
         have HF5 := hid (HF4.out.trans (hb.mono HF4.out.size))
         clear hb
         go_wp2_with fail
         go_roundg (9 - (j + 1))
         case measure => omega
         case rel => exact ⟨j + 1, by omega, rfl, by go_num, HF5.out⟩
       · obtain rfl : j = 9 := by omega
         generalize hz : ((9 : Nat) : Int) = z
         obtain rfl : (9 : Int) = z := hz
         clear hj hjl HEC HGN XN HB1 HBF
         have ZP := hid ((HB2.out.block _ (heap_lt XP.out)).trans XP.out)
         have jP0 : wr.cell? ⟨gp, 0, none⟩ = some (St p0) := by rw [cell_of_heap ((HB2.out.block _ (heap_lt XP.out)).trans XP.out)]; rfl
         have jP1 : wr.cell? ⟨gp, 1, none⟩ = some (St p1) := by rw [cell_of_heap ((HB2.out.block _ (heap_lt XP.out)).trans XP.out)]; rfl
         have jP2 : wr.cell? ⟨gp, 2, none⟩ = some (St p2) := by rw [cell_of_heap ((HB2.out.block _ (heap_lt XP.out)).trans XP.out)]; rfl
         have jP3 : wr.cell? ⟨gp, 3, none⟩ = some (St p3) := by rw [cell_of_heap ((HB2.out.block _ (heap_lt XP.out)).trans XP.out)]; rfl
         have jP4 : wr.cell? ⟨gp, 4, none⟩ = some (St p4) := by rw [cell_of_heap ((HB2.out.block _ (heap_lt XP.out)).trans XP.out)]; rfl
         have ltP : gp < wr.heap.size := heap_lt ((HB2.out.block _ (heap_lt XP.out)).trans XP.out)
         have ltP1 : gp < wr.heap.size + 1 := by omega
         have ltP2 : gp < wr.heap.size + 1 + 1 := by omega
         have ltP3 : gp < wr.heap.size + 1 + 1 + 1 := by omega
         have ltP4 : gp < wr.heap.size + 1 + 1 + 1 + 1 := by omega
         obtain ⟨x0, hx0⟩ : ∃ x, x = wr.alloc (.cells #[St p0, St p1, St t, St p3, St p4] 33) := ⟨_, rfl⟩
         obtain ⟨x1, hx1⟩ : ∃ x, x = x0.alloc (.cells #[St p0, St t, St p2, St p3, St p4] 33) := ⟨_, rfl⟩
         obtain ⟨x2, hx2⟩ : ∃ x, x = x1.alloc (.cells #[St p0, St p1, St p2, St p3, St t] 33) := ⟨_, rfl⟩
         obtain ⟨x3, hx3⟩ : ∃ x, x = x2.alloc (.cells #[St p0, St p1, St p2, St t, St p4] 33) := ⟨_, rfl⟩
         have z0 : x0.heap.size = wr.heap.size + 1 := by rw [hx0]; simp
         have z1 : x1.heap.size = wr.heap.size + 1 + 1 := by rw [hx1]; simp [z0]
         have z2 : x2.heap.size = wr.heap.size + 1 + 1 + 1 := by rw [hx2]; simp [z1]
         have l0 : Below wr.heap.size wr x0 := by rw [hx0]; exact bel_alloc wr _
         have l1 : Below x0.heap.size x0 x1 := by rw [hx1]; exact bel_alloc x0 _
         have l2 : Below x1.heap.size x1 x2 := by rw [hx2]; exact bel_alloc x1 _
         have l3 : Below x2.heap.size x2 x3 := by rw [hx3]; exact bel_alloc x2 _
         have X0 : Hid (x3.heap[wr.heap.size]? = some (.cells #[St p0, St p1, St t, St p3, St p4] 33 (0, 0))) := hid ((l3.block _ (by omega)).trans ((l2.block _ (by omega)).trans ((l1.block _ (by omega)).trans (by rw [hx0]; exact heap_alloc_new wr _))))
         have X1 : Hid (x3.heap[wr.heap.size + 1]? = some (.cells #[St p0, St t, St p2, St p3, St p4] 33 (0, 0))) := hid ((l3.block _ (by omega)).trans ((l2.block _ (by omega)).trans (by rw [hx1, ← z0]; exact heap_alloc_new x0 _)))
         have X2 : Hid (x3.heap[wr.heap.size + 1 + 1]? = some (.cells #[St p0, St p1, St p2, St p3, St t] 33 (0, 0))) := hid ((l3.block _ (by omega)).trans (by rw [hx2, ← z1]; exact heap_alloc_new x1 _))
         have X3 : Hid (x3.heap[wr.heap.size + 1 + 1 + 1]? = some (.cells #[St p0, St p1, St p2, St t, St p4] 33 (0, 0))) := hid (by rw [hx3, ← z2]; exact heap_alloc_new x2 _)
         have LX : Below wr.heap.size wr x3 := l0.trans ((l1.mono (by omega)).trans ((l2.mono (by omega)).trans (l3.mono (by omega))))
         have XPx : Hid (x3.heap[gp]? = some (.cells #[St p0, St p1, St p2, St p3, St p4] 33 (0, 0))) := hid ((LX.block _ ltP).trans ZP.out)
         have HX := hid (HB2.out.trans (LX.mono HB2.out.size))
         have HWX := hid (HW2.out.trans (LX.mono HW2.out.size))
         have HEX : Hid (x3 = (((wr.alloc (.cells #[St p0, St p1, St t, St p3, St p4] 33)).alloc (.cells #[St p0, St t, St p2, St p3, St p4] 33)).alloc (.cells #[St p0, St p1, St p2, St p3, St t] 33)).alloc (.cells #[St p0, St p1, St p2, St t, St p4] 33)) := hid (by rw [hx3, hx2, hx1, hx0])
         clear l0 l1 l2 l3 LX z0 z1 z2 hx0 hx1 hx2 hx3 HB2 HW2
         go_wp2_with fail
         have hcc := C17.out p0 p1 p2 p3 p4 p0 p1 p2 p3 p4 t HF.out.2.2.2.1 HF.out.2.2.2.2 HF.out.1 HF.out.2.1 HF.out.2.2.1 HF.out.2.2.2.2 HT.out x3 HWX.out
         rw [HEX.out] at hcc
         refine hcc.mono ?_
         clear hcc jP0 jP1 jP2 jP3 jP4 ltP ltP1 ltP2 ltP3 ltP4
         rintro _ y1 ⟨rfl, hb⟩
         rw [← HEX.out] at hb
         have HY := hid hb
         clear hb HEX
         have jP0 : y1.cell? ⟨gp, 0, none⟩ = some (St p0) := by rw [cell_of_heap ((HY.out.block _ (heap_lt XPx.out)).trans XPx.out)]; rfl
         have jP1 : y1.cell? ⟨gp, 1, none⟩ = some (St p1) := by rw [cell_of_heap ((HY.out.block _ (heap_lt XPx.out)).trans XPx.out)]; rfl
         have jP2 : y1.cell? ⟨gp, 2, none⟩ = some (St p2) := by rw [cell_of_heap ((HY.out.block _ (heap_lt XPx.out)).trans XPx.out)]; rfl
         have jP3 : y1.cell? ⟨gp, 3, none⟩ = some (St p3) := by rw [cell_of_heap ((HY.out.block _ (heap_lt XPx.out)).trans XPx.out)]; rfl
         have jP4 : y1.cell? ⟨gp, 4, none⟩ = some (St p4) := by rw [cell_of_heap ((HY.out.block _ (heap_lt XPx.out)).trans XPx.out)]; rfl
         have ltP : gp < y1.heap.size := heap_lt ((HY.out.block _ (heap_lt XPx.out)).trans XPx.out)
         have jK0 : y1.cell? ⟨wr.heap.size, 0, none⟩ = some (St p0) := by rw [cell_of_heap ((HY.out.block _ (heap_lt X0.out)).trans X0.out)]; rfl
         have jK1 : y1.cell? ⟨wr.heap.size, 1, none⟩ = some (St p1) := by rw [cell_of_heap ((HY.out.block _ (heap_lt X0.out)).trans X0.out)]; rfl
         have jK2 : y1.cell? ⟨wr.heap.size, 2, none⟩ = some (St t) := by rw [cell_of_heap ((HY.out.block _ (heap_lt X0.out)).trans X0.out)]; rfl
         have jK3 : y1.cell? ⟨wr.heap.size, 3, none⟩ = some (St p3) := by rw [cell_of_heap ((HY.out.block _ (heap_lt X0.out)).trans X0.out)]; rfl
         have jK4 : y1.cell? ⟨wr.heap.size, 4, none⟩ = some (St p4) := by rw [cell_of_heap ((HY.out.block _ (heap_lt X0.out)).trans X0.out)]; rfl
         have ltK : wr.heap.size < y1.heap.size := heap_lt ((HY.out.block _ (heap_lt X0.out)).trans X0.out)
         have jM0 : y1.cell? ⟨wr.heap.size + 1, 0, none⟩ = some (St p0) := by rw [cell_of_heap ((HY.out.block _ (heap_lt X1.out)).trans X1.out)]; rfl
         have jM1 : y1.cell? ⟨wr.heap.size + 1, 1, none⟩ = some (St t) := by rw [cell_of_heap ((HY.out.block _ (heap_lt X1.out)).trans X1.out)]; rfl
         have jM2 : y1.cell? ⟨wr.heap.size + 1, 2, none⟩ = some (St p2) := by rw [cell_of_heap ((HY.out.block _ (heap_lt X1.out)).trans X1.out)]; rfl
         have jM3 : y1.cell? ⟨wr.heap.size + 1, 3, none⟩ = some (St p3) := by rw [cell_of_heap ((HY.out.block _ (heap_lt X1.out)).trans X1.out)]; rfl
         have jM4 : y1.cell? ⟨wr.heap.size + 1, 4, none⟩ = some (St p4) := by rw [cell_of_heap ((HY.out.block _ (heap_lt X1.out)).trans X1.out)]; rfl
         have ltM : wr.heap.size + 1 < y1.heap.size := heap_lt ((HY.out.block _ (heap_lt X1.out)).trans X1.out)
         have jO0 : y1.cell? ⟨wr.heap.size + 1 + 1, 0, none⟩ = some (St p0) := by rw [cell_of_heap ((HY.out.block _ (heap_lt X2.out)).trans X2.out)]; rfl
         have jO1 : y1.cell? ⟨wr.heap.size + 1 + 1, 1, none⟩ = some (St p1) := by rw [cell_of_heap ((HY.out.block _ (heap_lt X2.out)).trans X2.out)]; rfl
         have jO2 : y1.cell? ⟨wr.heap.size + 1 + 1, 2, none⟩ = some (St p2) := by rw [cell_of_heap ((HY.out.block _ (heap_lt X2.out)).trans X2.out)]; rfl
         have jO3 : y1.cell? ⟨wr.heap.size + 1 + 1, 3, none⟩ = some (St p3) := by rw [cell_of_heap ((HY.out.block _ (heap_lt X2.out)).trans X2.out)]; rfl
         have jO4 : y1.cell? ⟨wr.heap.size + 1 + 1, 4, none⟩ = some (St t) := by rw [cell_of_heap ((HY.out.block _ (heap_lt X2.out)).trans X2.out)]; rfl
         have ltO : wr.heap.size + 1 + 1 < y1.heap.size := heap_lt ((HY.out.block _ (heap_lt X2.out)).trans X2.out)
         have jQ0 : y1.cell? ⟨wr.heap.size + 1 + 1 + 1, 0, none⟩ = some (St p0) := by rw [cell_of_heap ((HY.out.block _ (heap_lt X3.out)).trans X3.out)]; rfl
         have jQ1 : y1.cell? ⟨wr.heap.size + 1 + 1 + 1, 1, none⟩ = some (St p1) := by rw [cell_of_heap ((HY.out.block _ (heap_lt X3.out)).trans X3.out)]; rfl
         have jQ2 : y1.cell? ⟨wr.heap.size + 1 + 1 + 1, 2, none⟩ = some (St p2) := by rw [cell_of_heap ((HY.out.block _ (heap_lt X3.out)).trans X3.out)]; rfl
         have jQ3 : y1.cell? ⟨wr.heap.size + 1 + 1 + 1, 3, none⟩ = some (St t) := by rw [cell_of_heap ((HY.out.block _ (heap_lt X3.out)).trans X3.out)]; rfl
         have jQ4 : y1.cell? ⟨wr.heap.size + 1 + 1 + 1, 4, none⟩ = some (St p4) := by rw [cell_of_heap ((HY.out.block _ (heap_lt X3.out)).trans X3.out)]; rfl
         have ltQ : wr.heap.size + 1 + 1 + 1 < y1.heap.size := heap_lt ((HY.out.block _ (heap_lt X3.out)).trans X3.out)
         go_wp2_with fail
         refine (C17.out p0 p1 p2 p3 p4 p0 p1 t p3 p4 [80, 110, 49, 59] HF.out.2.2.2.1 HF.out.2.2.2.2 HF.out.1 HF.out.2.1 HT.out HF.out.2.2.2.2 (by decide) y1 (HWX.out.trans (HY.out.mono HWX.out.size))).mono ?_
         clear jP0 jP1 jP2 jP3 jP4 ltP jK0 jK1 jK2 jK3 jK4 ltK jM0 jM1 jM2 jM3 jM4 ltM jO0 jO1 jO2 jO3 jO4 ltO jQ0 jQ1 jQ2 jQ3 jQ4 ltQ
         rintro _ y2 ⟨rfl, hb⟩
         have HY2 := hid (HY.out.trans (hb.mono HY.out.size))
         clear hb HY
         have HY := HY2
         clear HY2
         have jP0 : y2.cell? ⟨gp, 0, none⟩ = some (St p0) := by rw [cell_of_heap ((HY.out.block _ (heap_lt XPx.out)).trans XPx.out)]; rfl
         have jP1 : y2.cell? ⟨gp, 1, none⟩ = some (St p1) := by rw [cell_of_heap ((HY.out.block _ (heap_lt XPx.out)).trans XPx.out)]; rfl
         have jP2 : y2.cell? ⟨gp, 2, none⟩ = some (St p2) := by rw [cell_of_heap ((HY.out.block _ (heap_lt XPx.out)).trans XPx.out)]; rfl
         have jP3 : y2.cell? ⟨gp, 3, none⟩ = some (St p3) := by rw [cell_of_heap ((HY.out.block _ (heap_lt XPx.out)).trans XPx.out)]; rfl
         have jP4 : y2.cell? ⟨gp, 4, none⟩ = some (St p4) := by rw [cell_of_heap ((HY.out.block _ (heap_lt XPx.out)).trans XPx.out)]; rfl
         have ltP : gp < y2.heap.size := heap_lt ((HY.out.block _ (heap_lt XPx.out)).trans XPx.out)
         have jK0 : y2.cell? ⟨wr.heap.size, 0, none⟩ = some (St p0) := by rw [cell_of_heap ((HY.out.block _ (heap_lt X0.out)).trans X0.out)]; rfl
         have jK1 : y2.cell? ⟨wr.heap.size, 1, none⟩ = some (St p1) := by rw [cell_of_heap ((HY.out.block _ (heap_lt X0.out)).trans X0.out)]; rfl
         have jK2 : y2.cell? ⟨wr.heap.size, 2, none⟩ = some (St t) := by rw [cell_of_heap ((HY.out.block _ (heap_lt X0.out)).trans X0.out)]; rfl
         have jK3 : y2.cell? ⟨wr.heap.size, 3, none⟩ = some (St p3) := by rw [cell_of_heap ((HY.out.block _ (heap_lt X0.out)).trans X0.out)]; rfl
         have jK4 : y2.cell? ⟨wr.heap.size, 4, none⟩ = some (St p4) := by rw [cell_of_heap ((HY.out.block _ (heap_lt X0.out)).trans X0.out)]; rfl
         have ltK : wr.heap.size < y2.heap.size := heap_lt ((HY.out.block _ (heap_lt X0.out)).trans X0.out)
         have jM0 : y2.cell? ⟨wr.heap.size + 1, 0, none⟩ = some (St p0) := by rw [cell_of_heap ((HY.out.block _ (heap_lt X1.out)).trans X1.out)]; rfl
         have jM1 : y2.cell? ⟨wr.heap.size + 1, 1, none⟩ = some (St t) := by rw [cell_of_heap ((HY.out.block _ (heap_lt X1.out)).trans X1.out)]; rfl
         have jM2 : y2.cell? ⟨wr.heap.size + 1, 2, none⟩ = some (St p2) := by rw [cell_of_heap ((HY.out.block _ (heap_lt X1.out)).trans X1.out)]; rfl
         have jM3 : y2.cell? ⟨wr.heap.size + 1, 3, none⟩ = some (St p3) := by rw [cell_of_heap ((HY.out.block _ (heap_lt X1.out)).trans X1.out)]; rfl
         have jM4 : y2.cell? ⟨wr.heap.size + 1, 4, none⟩ = some (St p4) := by rw [cell_of_heap ((HY.out.block _ (heap_lt X1.out)).trans X1.out)]; rfl
         have ltM : wr.heap.size + 1 < y2.heap.size := heap_lt ((HY.out.block _ (heap_lt X1.out)).trans X1.out)
         have jO0 : y2.cell? ⟨wr.heap.size + 1 + 1, 0, none⟩ = some (St p0) := by rw [cell_of_heap ((HY.out.block _ (heap_lt X2.out)).trans X2.out)]; rfl
         have jO1 : y2.cell? ⟨wr.heap.size + 1 + 1, 1, none⟩ = some (St p1) := by rw [cell_of_heap ((HY.out.block _ (heap_lt X2.out)).trans X2.out)]; rfl
         have jO2 : y2.cell? ⟨wr.heap.size + 1 + 1, 2, none⟩ = some (St p2) := by rw [cell_of_heap ((HY.out.block _ (heap_lt X2.out)).trans X2.out)]; rfl
         have jO3 : y2.cell? ⟨wr.heap.size + 1 + 1, 3, none⟩ = some (St p3) := by rw [cell_of_heap ((HY.out.block _ (heap_lt X2.out)).trans X2.out)]; rfl
         have jO4 : y2.cell? ⟨wr.heap.size + 1 + 1, 4, none⟩ = some (St t) := by rw [cell_of_heap ((HY.out.block _ (heap_lt X2.out)).trans X2.out)]; rfl
         have ltO : wr.heap.size + 1 + 1 < y2.heap.size := heap_lt ((HY.out.block _ (heap_lt X2.out)).trans X2.out)
         have jQ0 : y2.cell? ⟨wr.heap.size + 1 + 1 + 1, 0, none⟩ = some (St p0) := by rw [cell_of_heap ((HY.out.block _ (heap_lt X3.out)).trans X3.out)]; rfl
         have jQ1 : y2.cell? ⟨wr.heap.size + 1 + 1 + 1, 1, none⟩ = some (St p1) := by rw [cell_of_heap ((HY.out.block _ (heap_lt X3.out)).trans X3.out)]; rfl
         have jQ2 : y2.cell? ⟨wr.heap.size + 1 + 1 + 1, 2, none⟩ = some (St p2) := by rw [cell_of_heap ((HY.out.block _ (heap_lt X3.out)).trans X3.out)]; rfl
         have jQ3 : y2.cell? ⟨wr.heap.size + 1 + 1 + 1, 3, none⟩ = some (St t) := by rw [cell_of_heap ((HY.out.block _ (heap_lt X3.out)).trans X3.out)]; rfl
         have jQ4 : y2.cell? ⟨wr.heap.size + 1 + 1 + 1, 4, none⟩ = some (St p4) := by rw [cell_of_heap ((HY.out.block _ (heap_lt X3.out)).trans X3.out)]; rfl
         have ltQ : wr.heap.size + 1 + 1 + 1 < y2.heap.size := heap_lt ((HY.out.block _ (heap_lt X3.out)).trans X3.out)
         go_wp2_with fail
         refine (C17.out p0 p1 p2 p3 p4 p0 t p2 p3 p4 [80, 110, 49, 59] HF.out.2.2.2.1 HF.out.2.2.2.2 HF.out.1 HT.out HF.out.2.2.1 HF.out.2.2.2.2 (by decide) y2 (HWX.out.trans (HY.out.mono HWX.out.size))).mono ?_
         clear jP0 jP1 jP2 jP3 jP4 ltP jK0 jK1 jK2 jK3 jK4 ltK jM0 jM1 jM2 jM3 jM4 ltM jO0 jO1 jO2 jO3 jO4 ltO jQ0 jQ1 jQ2 jQ3 jQ4 ltQ
         rintro _ y3 ⟨rfl, hb⟩
         have HY2 := hid (HY.out.trans (hb.mono HY.out.size))
         clear hb HY
         have HY := HY2
         clear HY2
         have jP0 : y3.cell? ⟨gp, 0, none⟩ = some (St p0) := by rw [cell_of_heap ((HY.out.block _ (heap_lt XPx.out)).trans XPx.out)]; rfl
         have jP1 : y3.cell? ⟨gp, 1, none⟩ = some (St p1) := by rw [cell_of_heap ((HY.out.block _ (heap_lt XPx.out)).trans XPx.out)]; rfl
         have jP2 : y3.cell? ⟨gp, 2, none⟩ = some (St p2) := by rw [cell_of_heap ((HY.out.block _ (heap_lt XPx.out)).trans XPx.out)]; rfl
         have jP3 : y3.cell? ⟨gp, 3, none⟩ = some (St p3) := by rw [cell_of_heap ((HY.out.block _ (heap_lt XPx.out)).trans XPx.out)]; rfl
         have jP4 : y3.cell? ⟨gp, 4, none⟩ = some (St p4) := by rw [cell_of_heap ((HY.out.block _ (heap_lt XPx.out)).trans XPx.out)]; rfl
         have ltP : gp < y3.heap.size := heap_lt ((HY.out.block _ (heap_lt XPx.out)).trans XPx.out)
         have jK0 : y3.cell? ⟨wr.heap.size, 0, none⟩ = some (St p0) := by rw [cell_of_heap ((HY.out.block _ (heap_lt X0.out)).trans X0.out)]; rfl
         have jK1 : y3.cell? ⟨wr.heap.size, 1, none⟩ = some (St p1) := by rw [cell_of_heap ((HY.out.block _ (heap_lt X0.out)).trans X0.out)]; rfl
         have jK2 : y3.cell? ⟨wr.heap.size, 2, none⟩ = some (St t) := by rw [cell_of_heap ((HY.out.block _ (heap_lt X0.out)).trans X0.out)]; rfl
         have jK3 : y3.cell? ⟨wr.heap.size, 3, none⟩ = some (St p3) := by rw [cell_of_heap ((HY.out.block _ (heap_lt X0.out)).trans X0.out)]; rfl
         have jK4 : y3.cell? ⟨wr.heap.size, 4, none⟩ = some (St p4) := by rw [cell_of_heap ((HY.out.block _ (heap_lt X0.out)).trans X0.out)]; rfl
         have ltK : wr.heap.size < y3.heap.size := heap_lt ((HY.out.block _ (heap_lt X0.out)).trans X0.out)
         have jM0 : y3.cell? ⟨wr.heap.size + 1, 0, none⟩ = some (St p0) := by rw [cell_of_heap ((HY.out.block _ (heap_lt X1.out)).trans X1.out)]; rfl
         have jM1 : y3.cell? ⟨wr.heap.size + 1, 1, none⟩ = some (St t) := by rw [cell_of_heap ((HY.out.block _ (heap_lt X1.out)).trans X1.out)]; rfl
         have jM2 : y3.cell? ⟨wr.heap.size + 1, 2, none⟩ = some (St p2) := by rw [cell_of_heap ((HY.out.block _ (heap_lt X1.out)).trans X1.out)]; rfl
         have jM3 : y3.cell? ⟨wr.heap.size + 1, 3, none⟩ = some (St p3) := by rw [cell_of_heap ((HY.out.block _ (heap_lt X1.out)).trans X1.out)]; rfl
         have jM4 : y3.cell? ⟨wr.heap.size + 1, 4, none⟩ = some (St p4) := by rw [cell_of_heap ((HY.out.block _ (heap_lt X1.out)).trans X1.out)]; rfl
         have ltM : wr.heap.size + 1 < y3.heap.size := heap_lt ((HY.out.block _ (heap_lt X1.out)).trans X1.out)
         have jO0 : y3.cell? ⟨wr.heap.size + 1 + 1, 0, none⟩ = some (St p0) := by rw [cell_of_heap ((HY.out.block _ (heap_lt X2.out)).trans X2.out)]; rfl
         have jO1 : y3.cell? ⟨wr.heap.size + 1 + 1, 1, none⟩ = some (St p1) := by rw [cell_of_heap ((HY.out.block _ (heap_lt X2.out)).trans X2.out)]; rfl
         have jO2 : y3.cell? ⟨wr.heap.size + 1 + 1, 2, none⟩ = some (St p2) := by rw [cell_of_heap ((HY.out.block _ (heap_lt X2.out)).trans X2.out)]; rfl
         have jO3 : y3.cell? ⟨wr.heap.size + 1 + 1, 3, none⟩ = some (St p3) := by rw [cell_of_heap ((HY.out.block _ (heap_lt X2.out)).trans X2.out)]; rfl
         have jO4 : y3.cell? ⟨wr.heap.size + 1 + 1, 4, none⟩ = some (St t) := by rw [cell_of_heap ((HY.out.block _ (heap_lt X2.out)).trans X2.out)]; rfl
         have ltO : wr.heap.size + 1 + 1 < y3.heap.size := heap_lt ((HY.out.block _ (heap_lt X2.out)).trans X2.out)
         have jQ0 : y3.cell? ⟨wr.heap.size + 1 + 1 + 1, 0, none⟩ = some (St p0) := by rw [cell_of_heap ((HY.out.block _ (heap_lt X3.out)).trans X3.out)]; rfl
         have jQ1 : y3.cell? ⟨wr.heap.size + 1 + 1 + 1, 1, none⟩ = some (St p1) := by rw [cell_of_heap ((HY.out.block _ (heap_lt X3.out)).trans X3.out)]; rfl
         have jQ2 : y3.cell? ⟨wr.heap.size + 1 + 1 + 1, 2, none⟩ = some (St p2) := by rw [cell_of_heap ((HY.out.block _ (heap_lt X3.out)).trans X3.out)]; rfl
         have jQ3 : y3.cell? ⟨wr.heap.size + 1 + 1 + 1, 3, none⟩ = some (St t) := by rw [cell_of_heap ((HY.out.block _ (heap_lt X3.out)).trans X3.out)]; rfl
         have jQ4 : y3.cell? ⟨wr.heap.size + 1 + 1 + 1, 4, none⟩ = some (St p4) := by rw [cell_of_heap ((HY.out.block _ (heap_lt X3.out)).trans X3.out)]; rfl
         have ltQ : wr.heap.size + 1 + 1 + 1 < y3.heap.size := heap_lt ((HY.out.block _ (heap_lt X3.out)).trans X3.out)
         go_wp2_with fail
         refine (C17.out p0 p1 p2 p3 t p0 p1 p2 p3 p4 [80, 110, 49, 59] HF.out.2.2.2.1 HT.out HF.out.1 HF.out.2.1 HF.out.2.2.1 HF.out.2.2.2.2 (by decide) y3 (HWX.out.trans (HY.out.mono HWX.out.size))).mono ?_
         clear jP0 jP1 jP2 jP3 jP4 ltP jK0 jK1 jK2 jK3 jK4 ltK jM0 jM1 jM2 jM3 jM4 ltM jO0 jO1 jO2 jO3 jO4 ltO jQ0 jQ1 jQ2 jQ3 jQ4 ltQ
         rintro _ y4 ⟨rfl, hb⟩
         have HY2 := hid (HY.out.trans (hb.mono HY.out.size))
         clear hb HY
         have HY := HY2
         clear HY2
         have jP0 : y4.cell? ⟨gp, 0, none⟩ = some (St p0) := by rw [cell_of_heap ((HY.out.block _ (heap_lt XPx.out)).trans XPx.out)]; rfl
         have jP1 : y4.cell? ⟨gp, 1, none⟩ = some (St p1) := by rw [cell_of_heap ((HY.out.block _ (heap_lt XPx.out)).trans XPx.out)]; rfl
         have jP2 : y4.cell? ⟨gp, 2, none⟩ = some (St p2) := by rw [cell_of_heap ((HY.out.block _ (heap_lt XPx.out)).trans XPx.out)]; rfl
         have jP3 : y4.cell? ⟨gp, 3, none⟩ = some (St p3) := by rw [cell_of_heap ((HY.out.block _ (heap_lt XPx.out)).trans XPx.out)]; rfl
         have jP4 : y4.cell? ⟨gp, 4, none⟩ = some (St p4) := by rw [cell_of_heap ((HY.out.block _ (heap_lt XPx.out)).trans XPx.out)]; rfl
         have ltP : gp < y4.heap.size := heap_lt ((HY.out.block _ (heap_lt XPx.out)).trans XPx.out)
         have jK0 : y4.cell? ⟨wr.heap.size, 0, none⟩ = some (St p0) := by rw [cell_of_heap ((HY.out.block _ (heap_lt X0.out)).trans X0.out)]; rfl
         have jK1 : y4.cell? ⟨wr.heap.size, 1, none⟩ = some (St p1) := by rw [cell_of_heap ((HY.out.block _ (heap_lt X0.out)).trans X0.out)]; rfl
         have jK2 : y4.cell? ⟨wr.heap.size, 2, none⟩ = some (St t) := by rw [cell_of_heap ((HY.out.block _ (heap_lt X0.out)).trans X0.out)]; rfl
         have jK3 : y4.cell? ⟨wr.heap.size, 3, none⟩ = some (St p3) := by rw [cell_of_heap ((HY.out.block _ (heap_lt X0.out)).trans X0.out)]; rfl
         have jK4 : y4.cell? ⟨wr.heap.size, 4, none⟩ = some (St p4) := by rw [cell_of_heap ((HY.out.block _ (heap_lt X0.out)).trans X0.out)]; rfl
         have ltK : wr.heap.size < y4.heap.size := heap_lt ((HY.out.block _ (heap_lt X0.out)).trans X0.out)
         have jM0 : y4.cell? ⟨wr.heap.size + 1, 0, none⟩ = some (St p0) := by rw [cell_of_heap ((HY.out.block _ (heap_lt X1.out)).trans X1.out)]; rfl
         have jM1 : y4.cell? ⟨wr.heap.size + 1, 1, none⟩ = some (St t) := by rw [cell_of_heap ((HY.out.block _ (heap_lt X1.out)).trans X1.out)]; rfl
         have jM2 : y4.cell? ⟨wr.heap.size + 1, 2, none⟩ = some (St p2) := by rw [cell_of_heap ((HY.out.block _ (heap_lt X1.out)).trans X1.out)]; rfl
         have jM3 : y4.cell? ⟨wr.heap.size + 1, 3, none⟩ = some (St p3) := by rw [cell_of_heap ((HY.out.block _ (heap_lt X1.out)).trans X1.out)]; rfl
         have jM4 : y4.cell? ⟨wr.heap.size + 1, 4, none⟩ = some (St p4) := by rw [cell_of_heap ((HY.out.block _ (heap_lt X1.out)).trans X1.out)]; rfl
         have ltM : wr.heap.size + 1 < y4.heap.size := heap_lt ((HY.out.block _ (heap_lt X1.out)).trans X1.out)
         have jO0 : y4.cell? ⟨wr.heap.size + 1 + 1, 0, none⟩ = some (St p0) := by rw [cell_of_heap ((HY.out.block _ (heap_lt X2.out)).trans X2.out)]; rfl
         have jO1 : y4.cell? ⟨wr.heap.size + 1 + 1, 1, none⟩ = some (St p1) := by rw [cell_of_heap ((HY.out.block _ (heap_lt X2.out)).trans X2.out)]; rfl
         have jO2 : y4.cell? ⟨wr.heap.size + 1 + 1, 2, none⟩ = some (St p2) := by rw [cell_of_heap ((HY.out.block _ (heap_lt X2.out)).trans X2.out)]; rfl
         have jO3 : y4.cell? ⟨wr.heap.size + 1 + 1, 3, none⟩ = some (St p3) := by rw [cell_of_heap ((HY.out.block _ (heap_lt X2.out)).trans X2.out)]; rfl
         have jO4 : y4.cell? ⟨wr.heap.size + 1 + 1, 4, none⟩ = some (St t) := by rw [cell_of_heap ((HY.out.block _ (heap_lt X2.out)).trans X2.out)]; rfl
         have ltO : wr.heap.size + 1 + 1 < y4.heap.size := heap_lt ((HY.out.block _ (heap_lt X2.out)).trans X2.out)
         have jQ0 : y4.cell? ⟨wr.heap.size + 1 + 1 + 1, 0, none⟩ = some (St p0) := by rw [cell_of_heap ((HY.out.block _ (heap_lt X3.out)).trans X3.out)]; rfl
         have jQ1 : y4.cell? ⟨wr.heap.size + 1 + 1 + 1, 1, none⟩ = some (St p1) := by rw [cell_of_heap ((HY.out.block _ (heap_lt X3.out)).trans X3.out)]; rfl
         have jQ2 : y4.cell? ⟨wr.heap.size + 1 + 1 + 1, 2, none⟩ = some (St p2) := by rw [cell_of_heap ((HY.out.block _ (heap_lt X3.out)).trans X3.out)]; rfl
         have jQ3 : y4.cell? ⟨wr.heap.size + 1 + 1 + 1, 3, none⟩ = some (St t) := by rw [cell_of_heap ((HY.out.block _ (heap_lt X3.out)).trans X3.out)]; rfl
         have jQ4 : y4.cell? ⟨wr.heap.size + 1 + 1 + 1, 4, none⟩ = some (St p4) := by rw [cell_of_heap ((HY.out.block _ (heap_lt X3.out)).trans X3.out)]; rfl
         have ltQ : wr.heap.size + 1 + 1 + 1 < y4.heap.size := heap_lt ((HY.out.block _ (heap_lt X3.out)).trans X3.out)
         go_wp2_with fail
         refine (C17.out p0 p1 p2 p3 p4 p0 p1 p2 p3 t [80, 110, 49, 59] HF.out.2.2.2.1 HF.out.2.2.2.2 HF.out.1 HF.out.2.1 HF.out.2.2.1 HT.out (by decide) y4 (HWX.out.trans (HY.out.mono HWX.out.size))).mono ?_
         clear jP0 jP1 jP2 jP3 jP4 ltP jK0 jK1 jK2 jK3 jK4 ltK jM0 jM1 jM2 jM3 jM4 ltM jO0 jO1 jO2 jO3 jO4 ltO jQ0 jQ1 jQ2 jQ3 jQ4 ltQ
         rintro _ y5 ⟨rfl, hb⟩
         have HY2 := hid (HY.out.trans (hb.mono HY.out.size))
         clear hb HY
         have HY := HY2
         clear HY2
         have jP0 : y5.cell? ⟨gp, 0, none⟩ = some (St p0) := by rw [cell_of_heap ((HY.out.block _ (heap_lt XPx.out)).trans XPx.out)]; rfl
         have jP1 : y5.cell? ⟨gp, 1, none⟩ = some (St p1) := by rw [cell_of_heap ((HY.out.block _ (heap_lt XPx.out)).trans XPx.out)]; rfl
         have jP2 : y5.cell? ⟨gp, 2, none⟩ = some (St p2) := by rw [cell_of_heap ((HY.out.block _ (heap_lt XPx.out)).trans XPx.out)]; rfl
         have jP3 : y5.cell? ⟨gp, 3, none⟩ = some (St p3) := by rw [cell_of_heap ((HY.out.block _ (heap_lt XPx.out)).trans XPx.out)]; rfl
         have jP4 : y5.cell? ⟨gp, 4, none⟩ = some (St p4) := by rw [cell_of_heap ((HY.out.block _ (heap_lt XPx.out)).trans XPx.out)]; rfl
         have ltP : gp < y5.heap.size := heap_lt ((HY.out.block _ (heap_lt XPx.out)).trans XPx.out)
         have jK0 : y5.cell? ⟨wr.heap.size, 0, none⟩ = some (St p0) := by rw [cell_of_heap ((HY.out.block _ (heap_lt X0.out)).trans X0.out)]; rfl
         have jK1 : y5.cell? ⟨wr.heap.size, 1, none⟩ = some (St p1) := by rw [cell_of_heap ((HY.out.block _ (heap_lt X0.out)).trans X0.out)]; rfl
         have jK2 : y5.cell? ⟨wr.heap.size, 2, none⟩ = some (St t) := by rw [cell_of_heap ((HY.out.block _ (heap_lt X0.out)).trans X0.out)]; rfl
         have jK3 : y5.cell? ⟨wr.heap.size, 3, none⟩ = some (St p3) := by rw [cell_of_heap ((HY.out.block _ (heap_lt X0.out)).trans X0.out)]; rfl
         have jK4 : y5.cell? ⟨wr.heap.size, 4, none⟩ = some (St p4) := by rw [cell_of_heap ((HY.out.block _ (heap_lt X0.out)).trans X0.out)]; rfl
         have ltK : wr.heap.size < y5.heap.size := heap_lt ((HY.out.block _ (heap_lt X0.out)).trans X0.out)
         have jM0 : y5.cell? ⟨wr.heap.size + 1, 0, none⟩ = some (St p0) := by rw [cell_of_heap ((HY.out.block _ (heap_lt X1.out)).trans X1.out)]; rfl
         have jM1 : y5.cell? ⟨wr.heap.size + 1, 1, none⟩ = some (St t) := by rw [cell_of_heap ((HY.out.block _ (heap_lt X1.out)).trans X1.out)]; rfl
         have jM2 : y5.cell? ⟨wr.heap.size + 1, 2, none⟩ = some (St p2) := by rw [cell_of_heap ((HY.out.block _ (heap_lt X1.out)).trans X1.out)]; rfl
         have jM3 : y5.cell? ⟨wr.heap.size + 1, 3, none⟩ = some (St p3) := by rw [cell_of_heap ((HY.out.block _ (heap_lt X1.out)).trans X1.out)]; rfl
         have jM4 : y5.cell? ⟨wr.heap.size + 1, 4, none⟩ = some (St p4) := by rw [cell_of_heap ((HY.out.block _ (heap_lt X1.out)).trans X1.out)]; rfl
         have ltM : wr.heap.size + 1 < y5.heap.size := heap_lt ((HY.out.block _ (heap_lt X1.out)).trans X1.out)
         have jO0 : y5.cell? ⟨wr.heap.size + 1 + 1, 0, none⟩ = some (St p0) := by rw [cell_of_heap ((HY.out.block _ (heap_lt X2.out)).trans X2.out)]; rfl
         have jO1 : y5.cell? ⟨wr.heap.size + 1 + 1, 1, none⟩ = some (St p1) := by rw [cell_of_heap ((HY.out.block _ (heap_lt X2.out)).trans X2.out)]; rfl
         have jO2 : y5.cell? ⟨wr.heap.size + 1 + 1, 2, none⟩ = some (St p2) := by rw [cell_of_heap ((HY.out.block _ (heap_lt X2.out)).trans X2.out)]; rfl
         have jO3 : y5.cell? ⟨wr.heap.size + 1 + 1, 3, none⟩ = some (St p3) := by rw [cell_of_heap ((HY.out.block _ (heap_lt X2.out)).trans X2.out)]; rfl
         have jO4 : y5.cell? ⟨wr.heap.size + 1 + 1, 4, none⟩ = some (St t) := by rw [cell_of_heap ((HY.out.block _ (heap_lt X2.out)).trans X2.out)]; rfl
         have ltO : wr.heap.size + 1 + 1 < y5.heap.size := heap_lt ((HY.out.block _ (heap_lt X2.out)).trans X2.out)
         have jQ0 : y5.cell? ⟨wr.heap.size + 1 + 1 + 1, 0, none⟩ = some (St p0) := by rw [cell_of_heap ((HY.out.block _ (heap_lt X3.out)).trans X3.out)]; rfl
         have jQ1 : y5.cell? ⟨wr.heap.size + 1 + 1 + 1, 1, none⟩ = some (St p1) := by rw [cell_of_heap ((HY.out.block _ (heap_lt X3.out)).trans X3.out)]; rfl
         have jQ2 : y5.cell? ⟨wr.heap.size + 1 + 1 + 1, 2, none⟩ = some (St p2) := by rw [cell_of_heap ((HY.out.block _ (heap_lt X3.out)).trans X3.out)]; rfl
         have jQ3 : y5.cell? ⟨wr.heap.size + 1 + 1 + 1, 3, none⟩ = some (St t) := by rw [cell_of_heap ((HY.out.block _ (heap_lt X3.out)).trans X3.out)]; rfl
         have jQ4 : y5.cell? ⟨wr.heap.size + 1 + 1 + 1, 4, none⟩ = some (St p4) := by rw [cell_of_heap ((HY.out.block _ (heap_lt X3.out)).trans X3.out)]; rfl
         have ltQ : wr.heap.size + 1 + 1 + 1 < y5.heap.size := heap_lt ((HY.out.block _ (heap_lt X3.out)).trans X3.out)
         go_wp2_with fail
         refine (C17.out p0 p1 p2 t p4 p0 p1 p2 p3 p4 [87, 80, 110, 49, 59, 80, 110, 50, 59] HT.out HF.out.2.2.2.2 HF.out.1 HF.out.2.1 HF.out.2.2.1 HF.out.2.2.2.2 (by decide) y5 (HWX.out.trans (HY.out.mono HWX.out.size))).mono ?_
         clear jP0 jP1 jP2 jP3 jP4 ltP jK0 jK1 jK2 jK3 jK4 ltK jM0 jM1 jM2 jM3 jM4 ltM jO0 jO1 jO2 jO3 jO4 ltO jQ0 jQ1 jQ2 jQ3 jQ4 ltQ
         rintro _ y6 ⟨rfl, hb⟩
         have HY2 := hid (HY.out.trans (hb.mono HY.out.size))
         clear hb HY
         have HY := HY2
         clear HY2
         have jP0 : y6.cell? ⟨gp, 0, none⟩ = some (St p0) := by rw [cell_of_heap ((HY.out.block _ (heap_lt XPx.out)).trans XPx.out)]; rfl
         have jP1 : y6.cell? ⟨gp, 1, none⟩ = some (St p1) := by rw [cell_of_heap ((HY.out.block _ (heap_lt XPx.out)).trans XPx.out)]; rfl
         have jP2 : y6.cell? ⟨gp, 2, none⟩ = some (St p2) := by rw [cell_of_heap ((HY.out.block _ (heap_lt XPx.out)).trans XPx.out)]; rfl
         have jP3 : y6.cell? ⟨gp, 3, none⟩ = some (St p3) := by rw [cell_of_heap ((HY.out.block _ (heap_lt XPx.out)).trans XPx.out)]; rfl
         have jP4 : y6.cell? ⟨gp, 4, none⟩ = some (St p4) := by rw [cell_of_heap ((HY.out.block _ (heap_lt XPx.out)).trans XPx.out)]; rfl
         have ltP : gp < y6.heap.size := heap_lt ((HY.out.block _ (heap_lt XPx.out)).trans XPx.out)
         have jK0 : y6.cell? ⟨wr.heap.size, 0, none⟩ = some (St p0) := by rw [cell_of_heap ((HY.out.block _ (heap_lt X0.out)).trans X0.out)]; rfl
         have jK1 : y6.cell? ⟨wr.heap.size, 1, none⟩ = some (St p1) := by rw [cell_of_heap ((HY.out.block _ (heap_lt X0.out)).trans X0.out)]; rfl
         have jK2 : y6.cell? ⟨wr.heap.size, 2, none⟩ = some (St t) := by rw [cell_of_heap ((HY.out.block _ (heap_lt X0.out)).trans X0.out)]; rfl
         have jK3 : y6.cell? ⟨wr.heap.size, 3, none⟩ = some (St p3) := by rw [cell_of_heap ((HY.out.block _ (heap_lt X0.out)).trans X0.out)]; rfl
         have jK4 : y6.cell? ⟨wr.heap.size, 4, none⟩ = some (St p4) := by rw [cell_of_heap ((HY.out.block _ (heap_lt X0.out)).trans X0.out)]; rfl
         have ltK : wr.heap.size < y6.heap.size := heap_lt ((HY.out.block _ (heap_lt X0.out)).trans X0.out)
         have jM0 : y6.cell? ⟨wr.heap.size + 1, 0, none⟩ = some (St p0) := by rw [cell_of_heap ((HY.out.block _ (heap_lt X1.out)).trans X1.out)]; rfl
         have jM1 : y6.cell? ⟨wr.heap.size + 1, 1, none⟩ = some (St t) := by rw [cell_of_heap ((HY.out.block _ (heap_lt X1.out)).trans X1.out)]; rfl
         have jM2 : y6.cell? ⟨wr.heap.size + 1, 2, none⟩ = some (St p2) := by rw [cell_of_heap ((HY.out.block _ (heap_lt X1.out)).trans X1.out)]; rfl
         have jM3 : y6.cell? ⟨wr.heap.size + 1, 3, none⟩ = some (St p3) := by rw [cell_of_heap ((HY.out.block _ (heap_lt X1.out)).trans X1.out)]; rfl
         have jM4 : y6.cell? ⟨wr.heap.size + 1, 4, none⟩ = some (St p4) := by rw [cell_of_heap ((HY.out.block _ (heap_lt X1.out)).trans X1.out)]; rfl
         have ltM : wr.heap.size + 1 < y6.heap.size := heap_lt ((HY.out.block _ (heap_lt X1.out)).trans X1.out)
         have jO0 : y6.cell? ⟨wr.heap.size + 1 + 1, 0, none⟩ = some (St p0) := by rw [cell_of_heap ((HY.out.block _ (heap_lt X2.out)).trans X2.out)]; rfl
         have jO1 : y6.cell? ⟨wr.heap.size + 1 + 1, 1, none⟩ = some (St p1) := by rw [cell_of_heap ((HY.out.block _ (heap_lt X2.out)).trans X2.out)]; rfl
         have jO2 : y6.cell? ⟨wr.heap.size + 1 + 1, 2, none⟩ = some (St p2) := by rw [cell_of_heap ((HY.out.block _ (heap_lt X2.out)).trans X2.out)]; rfl
         have jO3 : y6.cell? ⟨wr.heap.size + 1 + 1, 3, none⟩ = some (St p3) := by rw [cell_of_heap ((HY.out.block _ (heap_lt X2.out)).trans X2.out)]; rfl
         have jO4 : y6.cell? ⟨wr.heap.size + 1 + 1, 4, none⟩ = some (St t) := by rw [cell_of_heap ((HY.out.block _ (heap_lt X2.out)).trans X2.out)]; rfl
         have ltO : wr.heap.size + 1 + 1 < y6.heap.size := heap_lt ((HY.out.block _ (heap_lt X2.out)).trans X2.out)
         have jQ0 : y6.cell? ⟨wr.heap.size + 1 + 1 + 1, 0, none⟩ = some (St p0) := by rw [cell_of_heap ((HY.out.block _ (heap_lt X3.out)).trans X3.out)]; rfl
         have jQ1 : y6.cell? ⟨wr.heap.size + 1 + 1 + 1, 1, none⟩ = some (St p1) := by rw [cell_of_heap ((HY.out.block _ (heap_lt X3.out)).trans X3.out)]; rfl
         have jQ2 : y6.cell? ⟨wr.heap.size + 1 + 1 + 1, 2, none⟩ = some (St p2) := by rw [cell_of_heap ((HY.out.block _ (heap_lt X3.out)).trans X3.out)]; rfl
         have jQ3 : y6.cell? ⟨wr.heap.size + 1 + 1 + 1, 3, none⟩ = some (St t) := by rw [cell_of_heap ((HY.out.block _ (heap_lt X3.out)).trans X3.out)]; rfl
         have jQ4 : y6.cell? ⟨wr.heap.size + 1 + 1 + 1, 4, none⟩ = some (St p4) := by rw [cell_of_heap ((HY.out.block _ (heap_lt X3.out)).trans X3.out)]; rfl
         have ltQ : wr.heap.size + 1 + 1 + 1 < y6.heap.size := heap_lt ((HY.out.block _ (heap_lt X3.out)).trans X3.out)
         go_wp2_with fail
         refine (C17.out t [] [] [] [] p0 p1 p2 p3 p4 [110, 49, 59] (by decide) (by decide) HT.out HF.out.2.1 HF.out.2.2.1 HF.out.2.2.2.2 (by decide) y6 (HWX.out.trans (HY.out.mono HWX.out.size))).mono ?_
         clear jP0 jP1 jP2 jP3 jP4 ltP jK0 jK1 jK2 jK3 jK4 ltK jM0 jM1 jM2 jM3 jM4 ltM jO0 jO1 jO2 jO3 jO4 ltO jQ0 jQ1 jQ2 jQ3 jQ4 ltQ
         rintro _ y7 ⟨rfl, hb⟩
         have HY2 := hid (HY.out.trans (hb.mono HY.out.size))
         clear hb HY
         have HY := HY2
         clear HY2
         go_wp2_with fail
         have HBZ := hid (HX.out.trans (HY.out.mono HX.out.size))
         go_roundg (7 - (i + 1))
         case measure => have := HIL.out; omega
         case rel => exact ⟨i + 1, by have := HIL.out; omega, rfl, by go_num, HBZ.out⟩
   · obtain rfl : i = 7 := by omega
     generalize hz : ((7 : Nat) : Int) = z
     obtain rfl : (7 : Int) = z := hz
     clear hi hil YG YP YT XG XP XT HE
     have HB7 := hid (HR.out.trans (HBE.out.mono HR.out.size))
     clear HBE HR
     obtain ⟨w7, hw7⟩ : ∃ x, x = wr := ⟨_, rfl⟩
     rw [← hw7] at HB7 ⊢
     clear hw7
     go_wp2_with fail
     go_loopg [12] 5 (fun gg' v wr => ∃ i : Nat, i ≤ 5 ∧ gg' = 5 - i ∧ v = .int .i64 (i : Int) ∧ Below w7.heap.size w7 wr)
     case atStart => exact ⟨0, by omega, by omega, rfl, Below.refl _ _⟩
     case round =>
       obtain ⟨i, hi, rfl, rfl, hbel⟩ := hrel
       have HBE := hid (HB7.out.trans (hbel.mono HB7.out.size))
       have HBL := hid hbel
       clear hbel
       by_cases hil : i < 5
       · rcases (show i = 0 ∨ i = 1 ∨ i = 2 ∨ i = 3 ∨ i = 4 by omega) with h | h | h | h | h
         · obtain rfl : i = 0 := by omega
           generalize hz : ((0 : Nat) : Int) = z
           obtain rfl : (0 : Int) = z := hz
           clear hi hil
           go_wp2_with fail
           refine (C18.out _ _ _ (by decide) (by decide) wr HBE.out).mono ?_
           rintro _ u1 ⟨rfl, hb⟩
           have HB8 := hid (HBE.out.trans (hb.mono HBE.out.size))
           have HL8 := hid (HBL.out.trans (hb.mono HBL.out.size))
           clear hb
           go_wp2_with fail
           refine (C3.out _ _ _ (by decide) (by decide) u1 HB8.out).mono ?_
           rintro _ u2 ⟨rfl, hb⟩
           have HL9 := hid (HL8.out.trans (hb.mono HL8.out.size))
           clear hb
           go_wp2_with fail
           go_roundg (5 - (0 + 1))
           case measure => omega
           case rel => exact ⟨0 + 1, by omega, rfl, rfl, HL9.out⟩
         · obtain rfl : i = 1 := by omega
           generalize hz : ((1 : Nat) : Int) = z
           obtain rfl : (1 : Int) = z := hz
           clear hi hil
           go_wp2_with fail
           refine (C18.out _ _ _ (by decide) (by decide) wr HBE.out).mono ?_
           rintro _ u1 ⟨rfl, hb⟩
           have HB8 := hid (HBE.out.trans (hb.mono HBE.out.size))
           have HL8 := hid (HBL.out.trans (hb.mono HBL.out.size))
           clear hb
           go_wp2_with fail
           refine (C3.out _ _ _ (by decide) (by decide) u1 HB8.out).mono ?_
           rintro _ u2 ⟨rfl, hb⟩
           have HL9 := hid (HL8.out.trans (hb.mono HL8.out.size))
           clear hb
           go_wp2_with fail
           go_roundg (5 - (1 + 1))
           case measure => omega
           case rel => exact ⟨1 + 1, by omega, rfl, rfl, HL9.out⟩
         · obtain rfl : i = 2 := by omega
           generalize hz : ((2 : Nat) : Int) = z
           obtain rfl : (2 : Int) = z := hz
           clear hi hil
           go_wp2_with fail
           refine (C18.out _ _ _ (by decide) (by decide) wr HBE.out).mono ?_
           rintro _ u1 ⟨rfl, hb⟩
           have HB8 := hid (HBE.out.trans (hb.mono HBE.out.size))
           have HL8 := hid (HBL.out.trans (hb.mono HBL.out.size))
           clear hb
           go_wp2_with fail
           refine (C3.out _ _ _ (by decide) (by decide) u1 HB8.out).mono ?_
           rintro _ u2 ⟨rfl, hb⟩
           have HL9 := hid (HL8.out.trans (hb.mono HL8.out.size))
           clear hb
           go_wp2_with fail
           go_roundg (5 - (2 + 1))
           case measure => omega
           case rel => exact ⟨2 + 1, by omega, rfl, rfl, HL9.out⟩
         · obtain rfl : i = 3 := by omega
           generalize hz : ((3 : Nat) : Int) = z
           obtain rfl : (3 : Int) = z := hz
           clear hi hil
           go_wp2_with fail
           refine (C18.out _ _ _ (by decide) (by decide) wr HBE.out).mono ?_
           rintro _ u1 ⟨rfl, hb⟩
           have HB8 := hid (HBE.out.trans (hb.mono HBE.out.size))
           have HL8 := hid (HBL.out.trans (hb.mono HBL.out.size))
           clear hb
           go_wp2_with fail
           refine (C3.out _ _ _ (by decide) (by decide) u1 HB8.out).mono ?_
           rintro _ u2 ⟨rfl, hb⟩
           have HL9 := hid (HL8.out.trans (hb.mono HL8.out.size))
           clear hb
           go_wp2_with fail
           go_roundg (5 - (3 + 1))
           case measure => omega
           case rel => exact ⟨3 + 1, by omega, rfl, rfl, HL9.out⟩
         · obtain rfl : i = 4 := by omega
           generalize hz : ((4 : Nat) : Int) = z
           obtain rfl : (4 : Int) = z := hz
           clear hi hil
           go_wp2_with fail
           refine (C18.out _ _ _ (by decide) (by decide) wr HBE.out).mono ?_
           rintro _ u1 ⟨rfl, hb⟩
           have HB8 := hid (HBE.out.trans (hb.mono HBE.out.size))
           have HL8 := hid (HBL.out.trans (hb.mono HBL.out.size))
           clear hb
           go_wp2_with fail
           refine (C3.out _ _ _ (by decide) (by decide) u1 HB8.out).mono ?_
           rintro _ u2 ⟨rfl, hb⟩
           have HL9 := hid (HL8.out.trans (hb.mono HL8.out.size))
           clear hb
           go_wp2_with fail
           go_roundg (5 - (4 + 1))
           case measure => omega
           case rel => exact ⟨4 + 1, by omega, rfl, rfl, HL9.out⟩
       · obtain rfl : i = 5 := by omega
         generalize hz : ((5 : Nat) : Int) = z
         obtain rfl : (5 : Int) = z := hz
         clear hi hil
         go_wp2_with fail
         refine (pick_1 wr).mono ?_
         rintro _ u1 ⟨rfl, rfl⟩
         go_wp2_with fail
         refine (HW.out u1 HBE.out).mono ?_
         rintro _ u2 ⟨rfl, hb⟩
         have HB9 := hid (HBE.out.trans (hb.mono HBE.out.size))
         clear hb
         go_wp2_with fail
         go_ret
         exact ⟨rfl, HB9.out⟩
end Go.Proofs.YtkifchjpgdmcoaaGreatDoor
