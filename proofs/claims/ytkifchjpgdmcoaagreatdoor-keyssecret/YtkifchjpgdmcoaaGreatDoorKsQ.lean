/- KeysSecret: the program. -/
import Derived.Test.YtkifchjpgdmcoaaGreatDoorKyX
import Derived.Test.YtkifchjpgdmcoaaGreatDoorKyL
import Derived.Test.YtkifchjpgdmcoaaGreatDoorCoAll
namespace Go.Proofs.YtkifchjpgdmcoaaGreatDoor
open Go.RowKit
theorem take_rev (ts : List Bs) {i : Nat} (h : i < ts.length) : (ts.take (i + 1)).reverse = ts.getD i [] :: (ts.take i).reverse := by
 rw [List.take_succ_eq_append_getElem h]
 simp [List.getD, h]
theorem Ms.lt {U : List Bs} {A n : Nat} {P : Nat → Nat} {L : Nat → List Bs} {w : World} (h : Ms U A P L n w) {i : Nat} (hi : i < n) : P i < w.heap.size := by
 obtain ⟨O, N, h1, _, _⟩ := h.mi
 exact (h1 i hi).rm.lt
set_option maxHeartbeats 1000000 in
set_option maxRecDepth 100000 in
theorem secret_neg (a b n : Int) (h : a < 0 ∨ b < 0 ∨ a = b) (w : World) : Calls Tryz.prog 3 #[.int .i64 a, .int .i64 b, .int .i64 n] w fun e w' => e = .returned (.bool true) ∧ Below w.heap.size w w' := by
 by_cases ha : a < 0
 · clear h
   go_enter Tryz.func3, Tryz.ntmps3
   go_wp2_with fail
   go_ret
   exact ⟨rfl, Below.refl _ _⟩
 · by_cases hb : b < 0
   · clear h
     go_enter Tryz.func3, Tryz.ntmps3
     go_wp2_with fail
     go_ret
     exact ⟨rfl, Below.refl _ _⟩
   · have hab : a = b := by omega
     subst hab
     clear h
     go_enter Tryz.func3, Tryz.ntmps3
     go_wp2_with fail
     go_ret
     exact ⟨rfl, Below.refl _ _⟩
set_option maxHeartbeats 8000000 in
set_option maxRecDepth 100000 in
theorem secret_core {a b n m : Int} {sec pt rev mine theirs : Bs} {s0 s1 s2 s3 s4 s5 o0 o1 o2 o3 o4 o5 t0 t1 t2 t3 t4 p0 p1 p2 p3 p4 q0 q1 q2 q3 q4 : Bs} (ha : ¬ a < 0) (hb : ¬ b < 0) (hab : ¬ a = b) (hm : bits .and .i64 n 1048575 = m) (h0 : 0 ≤ m) (h1 : m ≤ 1048575) (w : World)
   (H1 : ∀ W, Below w.heap.size w W → Calls Tryz.prog 5 #[.int .i64 a, .int .i64 b, .int .i64 m] W fun e w' => e = .returned (.tuple #[.agg #[St s0, St s1, St s2, St s3, St s4, St s5], .agg #[St o0, St o1, St o2, St o3, St o4, St o5], .agg #[St t0, St t1, St t2, St t3, St t4], St sec, .bool true]) ∧ Below W.heap.size W w')
   (hpt : pntRes s5 m = (pt, 0)) (hps : pubs5 ⟨s0, s1, s2, s3, s4, s5⟩ = (⟨p0, p1, p2, p3, p4⟩, 0)) (hpo : pubs5 ⟨o0, o1, o2, o3, o4, o5⟩ = (⟨q0, q1, q2, q3, q4⟩, 0)) (b1 : bRes 86 [] [o1, sec] = (rev, 0)) (b2 : bRes 75 [] [s4, pt] = (mine, 0)) (b3 : bRes 75 [] [o4, pt] = (theirs, 0))
   (hp : Pw w) (hl : Lb w) (hG : G0 w) {U : List Bs} (hU : Uni U) (hin : ∀ x ∈ [p0, p1, p2, p3, p4, q0, q1, q2, q3, q4, pt, t0, t1, t2, t3, s0, s1, s2, s3, s4, s5, o0, o1, o2, o3, o4, o5, sec], x ∈ U) (lr : rev.length ≤ 100000) (lm : mine.length ≤ 100000) (lt : theirs.length ≤ 100000) (lo : o2.length ≤ 100000) (lS : s3.length ≤ 100000)
   (ka0 : ¬ Can (fun x => x ∈ [p0, p1, p2, p3, p4, q0, q1, q2, q3, q4, pt, t0, t1, t2, t3].reverse) rev) (ka1 : ¬ Can (fun x => x ∈ [p0, p1, p2, p3, p4, q0, q1, q2, q3, q4, pt, t0, t1, t2, t3].reverse) mine) (ka2 : ¬ Can (fun x => x ∈ [p0, p1, p2, p3, p4, q0, q1, q2, q3, q4, pt, t0, t1, t2, t3].reverse) theirs) (kb0 : ¬ Can (fun x => x ∈ [s0, s1, s2, s3, s4, s5].reverse ++ [p0, p1, p2, p3, p4, q0, q1, q2, q3, q4, pt, t0, t1, t2, t3].reverse) rev) (kb1 : ¬ Can (fun x => x ∈ [s0, s1, s2, s3, s4, s5].reverse ++ [p0, p1, p2, p3, p4, q0, q1, q2, q3, q4, pt, t0, t1, t2, t3].reverse) theirs) (kb2 : Can (fun x => x ∈ [s0, s1, s2, s3, s4, s5].reverse ++ [p0, p1, p2, p3, p4, q0, q1, q2, q3, q4, pt, t0, t1, t2, t3].reverse) mine) (kc0 : ¬ Can (fun x => x ∈ [o0, o1, o2, o3, o4, o5].reverse ++ [p0, p1, p2, p3, p4, q0, q1, q2, q3, q4, pt, t0, t1, t2, t3].reverse) rev) (kc1 : ¬ Can (fun x => x ∈ [o0, o1, o2, o3, o4, o5].reverse ++ [p0, p1, p2, p3, p4, q0, q1, q2, q3, q4, pt, t0, t1, t2, t3].reverse) mine) (kc2 : Can (fun x => x ∈ [o0, o1, o2, o3, o4, o5].reverse ++ [p0, p1, p2, p3, p4, q0, q1, q2, q3, q4, pt, t0, t1, t2, t3].reverse) theirs) (kb3 : ¬ Can (fun x => x ∈ [s0, s1, s2, s3, s4, s5].reverse ++ [p0, p1, p2, p3, p4, q0, q1, q2, q3, q4, pt, t0, t1, t2, t3].reverse) o2) (kc3 : ¬ Can (fun x => x ∈ [o0, o1, o2, o3, o4, o5].reverse ++ [p0, p1, p2, p3, p4, q0, q1, q2, q3, q4, pt, t0, t1, t2, t3].reverse) s3) (kd0 : Can (fun x => x ∈ sec :: ([o0, o1, o2, o3, o4, o5].reverse ++ [p0, p1, p2, p3, p4, q0, q1, q2, q3, q4, pt, t0, t1, t2, t3].reverse)) rev) (kd1 : ¬ Can (fun x => x ∈ sec :: ([o0, o1, o2, o3, o4, o5].reverse ++ [p0, p1, p2, p3, p4, q0, q1, q2, q3, q4, pt, t0, t1, t2, t3].reverse)) mine) :
   Calls Tryz.prog 3 #[.int .i64 a, .int .i64 b, .int .i64 n] w fun e w' => e = .returned (.bool true) ∧ Below w.heap.size w w' := by
 have C1 := hid H1
 have C2 := hid (fun (W : World) (hb : Below w.heap.size w W) => point_any ⟨s0, s1, s2, s3, s4, s5⟩ m (by omega) (by omega) W (hp.below hb))
 rw [show (S6.s ⟨s0, s1, s2, s3, s4, s5⟩) = s5 from rfl, hpt] at C2
 have C3 := hid (fun (W : World) (_ : Below w.heap.size w W) => public_any ⟨s0, s1, s2, s3, s4, s5⟩ W)
 rw [hps] at C3
 have C4 := hid (fun (W : World) (_ : Below w.heap.size w W) => public_any ⟨o0, o1, o2, o3, o4, o5⟩ W)
 rw [hpo] at C4
 unfold S6.v K5.v at *
 dsimp only at C2 C3 C4
 have C5 := hid (fun (W : World) (_ : Below w.heap.size w W) => revoke_any o1 sec W)
 rw [b1] at C5
 have C6 := hid (fun (W : World) (_ : Below w.heap.size w W) => bindk_any s4 pt W)
 rw [b2] at C6
 have C7 := hid (fun (W : World) (_ : Below w.heap.size w W) => bindk_any o4 pt W)
 rw [b3] at C7
 have C8 := hid (fun (W : World) (hb : Below w.heap.size w W) => ms_new U W (hG.below hb))
 have HW := hid (fun (W : World) (hb : Below w.heap.size w W) => works_any W (hp.below hb) (hl.below hb))
 have HG2 : Hid (2 < w.heap.size) := hid (by obtain ⟨_, _, hg⟩ := hG; exact heap_lt hg)
 have HIN := hid hin
 have HLEN := hid (And.intro lr (And.intro lm (And.intro lt (And.intro lo lS))))
 obtain ⟨ts, hts⟩ : ∃ l, l = [p0, p1, p2, p3, p4, q0, q1, q2, q3, q4, pt, t0, t1, t2, t3] := ⟨_, rfl⟩
 obtain ⟨ss, hss⟩ : ∃ l, l = [s0, s1, s2, s3, s4, s5] := ⟨_, rfl⟩
 obtain ⟨os, hos⟩ : ∃ l, l = [o0, o1, o2, o3, o4, o5] := ⟨_, rfl⟩
 rw [← hts] at ka0 ka1 ka2 kb0 kb1 kb2 kc0 kc1 kc2 kb3 kc3 kd0 kd1
 rw [← hss] at kb0 kb1 kb2 kb3
 rw [← hos] at kc0 kc1 kc2 kc3 kd0 kd1
 have Ka0 := hid ka0
 have Ka1 := hid ka1
 have Ka2 := hid ka2
 have Kb0 := hid kb0
 have Kb1 := hid kb1
 have Kb2 := hid kb2
 have Kc0 := hid kc0
 have Kc1 := hid kc1
 have Kc2 := hid kc2
 have Kb3 := hid kb3
 have Kc3 := hid kc3
 have Kd0 := hid kd0
 have Kd1 := hid kd1
 have HTS := hid hts
 have HSS := hid hss
 have HOS := hid hos
 clear H1 hpt hps hpo b1 b2 b3 hp hl hG h0 h1 hin lr lm lt lo lS hts hss hos ka0 ka1 ka2 kb0 kb1 kb2 kc0 kc1 kc2 kb3 kc3 kd0 kd1
 have HB0 := hid (Below.refl w.heap.size w)
 have HR := hid (Below.refl w.heap.size w)
 go_enter Tryz.func3, Tryz.ntmps3
 go_wp2_with fail
 have hcc := C1.out w HR.out
 refine hcc.mono ?_
 clear hcc C1
 rintro _ v1 ⟨rfl, hb⟩
 have HR1 := hid hb
 clear hb HR
 obtain ⟨x0, hx0⟩ : ∃ b, b = v1.alloc (.cells #[St s0, St s1, St s2, St s3, St s4, St s5] 24) := ⟨_, rfl⟩
 have l0' : Below v1.heap.size v1 x0 := by rw [hx0]; exact bel_alloc v1 _
 have z0 : x0.heap.size = v1.heap.size + 1 := by rw [hx0]; simp
 obtain ⟨x1, hx1⟩ : ∃ b, b = x0.alloc (.cells #[St o0, St o1, St o2, St o3, St o4, St o5] 24) := ⟨_, rfl⟩
 have l1' : Below x0.heap.size x0 x1 := by rw [hx1]; exact bel_alloc x0 _
 have z1 : x1.heap.size = v1.heap.size + 2 := by rw [hx1]; simp [z0]
 obtain ⟨x2, hx2⟩ : ∃ b, b = x1.alloc (.cells #[St t0, St t1, St t2, St t3, St t4] 26) := ⟨_, rfl⟩
 have l2' : Below x1.heap.size x1 x2 := by rw [hx2]; exact bel_alloc x1 _
 have z2 : x2.heap.size = v1.heap.size + 3 := by rw [hx2]; simp [z1]
 have XS : Hid (x2.heap[v1.heap.size]? = some (.cells #[St s0, St s1, St s2, St s3, St s4, St s5] 24 (0, 0))) := hid ((l2'.block _ (by omega)).trans ((l1'.block _ (by omega)).trans (by rw [hx0]; exact heap_alloc_new v1 _)))
 have XO : Hid (x2.heap[v1.heap.size + 1]? = some (.cells #[St o0, St o1, St o2, St o3, St o4, St o5] 24 (0, 0))) := hid ((l2'.block _ (by omega)).trans (by rw [hx1, ← z0]; exact heap_alloc_new x0 _))
 have XT : Hid (x2.heap[v1.heap.size + 2]? = some (.cells #[St t0, St t1, St t2, St t3, St t4] 26 (0, 0))) := hid (by rw [hx2, ← z1]; exact heap_alloc_new x1 _)
 have HR : Hid (Below w.heap.size w x2) := hid (HR1.out.trans (((l0'.trans (l1'.mono (by omega))).trans (l2'.mono (by omega))).mono HR1.out.size))
 have HE : Hid (x2 = ((v1.alloc (.cells #[St s0, St s1, St s2, St s3, St s4, St s5] 24)).alloc (.cells #[St o0, St o1, St o2, St o3, St o4, St o5] 24)).alloc (.cells #[St t0, St t1, St t2, St t3, St t4] 26)) := hid (by rw [hx2, hx1, hx0])
 clear l0' l1' l2' z0 z1 z2 hx0 hx1 hx2 HR1
 go_wp2_with fail
 have hcc := C2.out x2 (HB0.out.trans (HR.out.mono HB0.out.size))
 rw [HE.out] at hcc
 refine hcc.mono ?_
 clear hcc C2
 rintro _ v2 ⟨rfl, hb⟩
 rw [← HE.out] at hb
 have HR2 := hid (HR.out.trans (hb.mono HR.out.size))
 replace XS := hid ((hb.block _ (heap_lt XS.out)).trans XS.out)
 replace XO := hid ((hb.block _ (heap_lt XO.out)).trans XO.out)
 replace XT := hid ((hb.block _ (heap_lt XT.out)).trans XT.out)
 clear hb HR HE
 have HR := HR2
 clear HR2
 have jXS0 : v2.cell? ⟨v1.heap.size, 0, none⟩ = some (St s0) := by rw [cell_of_heap XS.out]; rfl
 have jXS1 : v2.cell? ⟨v1.heap.size, 1, none⟩ = some (St s1) := by rw [cell_of_heap XS.out]; rfl
 have jXS2 : v2.cell? ⟨v1.heap.size, 2, none⟩ = some (St s2) := by rw [cell_of_heap XS.out]; rfl
 have jXS3 : v2.cell? ⟨v1.heap.size, 3, none⟩ = some (St s3) := by rw [cell_of_heap XS.out]; rfl
 have jXS4 : v2.cell? ⟨v1.heap.size, 4, none⟩ = some (St s4) := by rw [cell_of_heap XS.out]; rfl
 have jXS5 : v2.cell? ⟨v1.heap.size, 5, none⟩ = some (St s5) := by rw [cell_of_heap XS.out]; rfl
 have ltXS : v1.heap.size < v2.heap.size := heap_lt XS.out
 have jXO0 : v2.cell? ⟨v1.heap.size + 1, 0, none⟩ = some (St o0) := by rw [cell_of_heap XO.out]; rfl
 have jXO1 : v2.cell? ⟨v1.heap.size + 1, 1, none⟩ = some (St o1) := by rw [cell_of_heap XO.out]; rfl
 have jXO2 : v2.cell? ⟨v1.heap.size + 1, 2, none⟩ = some (St o2) := by rw [cell_of_heap XO.out]; rfl
 have jXO3 : v2.cell? ⟨v1.heap.size + 1, 3, none⟩ = some (St o3) := by rw [cell_of_heap XO.out]; rfl
 have jXO4 : v2.cell? ⟨v1.heap.size + 1, 4, none⟩ = some (St o4) := by rw [cell_of_heap XO.out]; rfl
 have jXO5 : v2.cell? ⟨v1.heap.size + 1, 5, none⟩ = some (St o5) := by rw [cell_of_heap XO.out]; rfl
 have ltXO : v1.heap.size + 1 < v2.heap.size := heap_lt XO.out
 have jXT0 : v2.cell? ⟨v1.heap.size + 2, 0, none⟩ = some (St t0) := by rw [cell_of_heap XT.out]; rfl
 have jXT1 : v2.cell? ⟨v1.heap.size + 2, 1, none⟩ = some (St t1) := by rw [cell_of_heap XT.out]; rfl
 have jXT2 : v2.cell? ⟨v1.heap.size + 2, 2, none⟩ = some (St t2) := by rw [cell_of_heap XT.out]; rfl
 have jXT3 : v2.cell? ⟨v1.heap.size + 2, 3, none⟩ = some (St t3) := by rw [cell_of_heap XT.out]; rfl
 have jXT4 : v2.cell? ⟨v1.heap.size + 2, 4, none⟩ = some (St t4) := by rw [cell_of_heap XT.out]; rfl
 have ltXT : v1.heap.size + 2 < v2.heap.size := heap_lt XT.out
 go_wp2_with fail
 clear jXS0 jXS1 jXS2 jXS3 jXS4 jXS5 ltXS jXO0 jXO1 jXO2 jXO3 jXO4 jXO5 ltXO jXT0 jXT1 jXT2 jXT3 jXT4 ltXT
 have hcc := C3.out v2 (HB0.out.trans (HR.out.mono HB0.out.size))
 refine hcc.mono ?_
 clear hcc C3
 rintro _ v3 ⟨rfl, hb⟩
 have HR2 := hid (HR.out.trans (hb.mono HR.out.size))
 replace XS := hid ((hb.block _ (heap_lt XS.out)).trans XS.out)
 replace XO := hid ((hb.block _ (heap_lt XO.out)).trans XO.out)
 replace XT := hid ((hb.block _ (heap_lt XT.out)).trans XT.out)
 clear hb HR
 have HR := HR2
 clear HR2
 have jXS0 : v3.cell? ⟨v1.heap.size, 0, none⟩ = some (St s0) := by rw [cell_of_heap XS.out]; rfl
 have jXS1 : v3.cell? ⟨v1.heap.size, 1, none⟩ = some (St s1) := by rw [cell_of_heap XS.out]; rfl
 have jXS2 : v3.cell? ⟨v1.heap.size, 2, none⟩ = some (St s2) := by rw [cell_of_heap XS.out]; rfl
 have jXS3 : v3.cell? ⟨v1.heap.size, 3, none⟩ = some (St s3) := by rw [cell_of_heap XS.out]; rfl
 have jXS4 : v3.cell? ⟨v1.heap.size, 4, none⟩ = some (St s4) := by rw [cell_of_heap XS.out]; rfl
 have jXS5 : v3.cell? ⟨v1.heap.size, 5, none⟩ = some (St s5) := by rw [cell_of_heap XS.out]; rfl
 have ltXS : v1.heap.size < v3.heap.size := heap_lt XS.out
 have jXO0 : v3.cell? ⟨v1.heap.size + 1, 0, none⟩ = some (St o0) := by rw [cell_of_heap XO.out]; rfl
 have jXO1 : v3.cell? ⟨v1.heap.size + 1, 1, none⟩ = some (St o1) := by rw [cell_of_heap XO.out]; rfl
 have jXO2 : v3.cell? ⟨v1.heap.size + 1, 2, none⟩ = some (St o2) := by rw [cell_of_heap XO.out]; rfl
 have jXO3 : v3.cell? ⟨v1.heap.size + 1, 3, none⟩ = some (St o3) := by rw [cell_of_heap XO.out]; rfl
 have jXO4 : v3.cell? ⟨v1.heap.size + 1, 4, none⟩ = some (St o4) := by rw [cell_of_heap XO.out]; rfl
 have jXO5 : v3.cell? ⟨v1.heap.size + 1, 5, none⟩ = some (St o5) := by rw [cell_of_heap XO.out]; rfl
 have ltXO : v1.heap.size + 1 < v3.heap.size := heap_lt XO.out
 have jXT0 : v3.cell? ⟨v1.heap.size + 2, 0, none⟩ = some (St t0) := by rw [cell_of_heap XT.out]; rfl
 have jXT1 : v3.cell? ⟨v1.heap.size + 2, 1, none⟩ = some (St t1) := by rw [cell_of_heap XT.out]; rfl
 have jXT2 : v3.cell? ⟨v1.heap.size + 2, 2, none⟩ = some (St t2) := by rw [cell_of_heap XT.out]; rfl
 have jXT3 : v3.cell? ⟨v1.heap.size + 2, 3, none⟩ = some (St t3) := by rw [cell_of_heap XT.out]; rfl
 have jXT4 : v3.cell? ⟨v1.heap.size + 2, 4, none⟩ = some (St t4) := by rw [cell_of_heap XT.out]; rfl
 have ltXT : v1.heap.size + 2 < v3.heap.size := heap_lt XT.out
 obtain ⟨a3, ha3⟩ : ∃ b, b = v3.alloc (.cells #[St p0, St p1, St p2, St p3, St p4] 33) := ⟨_, rfl⟩
 have hz : Below v3.heap.size v3 a3 := by rw [ha3]; exact bel_alloc v3 _
 replace XS := hid ((hz.block _ (heap_lt XS.out)).trans XS.out)
 replace XO := hid ((hz.block _ (heap_lt XO.out)).trans XO.out)
 replace XT := hid ((hz.block _ (heap_lt XT.out)).trans XT.out)
 have XN3 : Hid (a3.heap[v3.heap.size]? = some (.cells #[St p0, St p1, St p2, St p3, St p4] 33 (0, 0))) := hid (by rw [ha3]; exact heap_alloc_new v3 _)
 have HR2 := hid (HR.out.trans (hz.mono HR.out.size))
 have HE3 := hid ha3
 clear hz ha3 HR
 have HR := HR2
 clear HR2
 go_wp2_with fail
 clear jXS0 jXS1 jXS2 jXS3 jXS4 jXS5 ltXS jXO0 jXO1 jXO2 jXO3 jXO4 jXO5 ltXO jXT0 jXT1 jXT2 jXT3 jXT4 ltXT
 have hcc := C4.out a3 (HB0.out.trans (HR.out.mono HB0.out.size))
 rw [HE3.out] at hcc
 refine hcc.mono ?_
 clear hcc C4
 rintro _ v4 ⟨rfl, hb⟩
 rw [← HE3.out] at hb
 have HR2 := hid (HR.out.trans (hb.mono HR.out.size))
 replace XS := hid ((hb.block _ (heap_lt XS.out)).trans XS.out)
 replace XO := hid ((hb.block _ (heap_lt XO.out)).trans XO.out)
 replace XT := hid ((hb.block _ (heap_lt XT.out)).trans XT.out)
 replace XN3 := hid ((hb.block _ (heap_lt XN3.out)).trans XN3.out)
 clear hb HR HE3
 have HR := HR2
 clear HR2
 have jXS0 : v4.cell? ⟨v1.heap.size, 0, none⟩ = some (St s0) := by rw [cell_of_heap XS.out]; rfl
 have jXS1 : v4.cell? ⟨v1.heap.size, 1, none⟩ = some (St s1) := by rw [cell_of_heap XS.out]; rfl
 have jXS2 : v4.cell? ⟨v1.heap.size, 2, none⟩ = some (St s2) := by rw [cell_of_heap XS.out]; rfl
 have jXS3 : v4.cell? ⟨v1.heap.size, 3, none⟩ = some (St s3) := by rw [cell_of_heap XS.out]; rfl
 have jXS4 : v4.cell? ⟨v1.heap.size, 4, none⟩ = some (St s4) := by rw [cell_of_heap XS.out]; rfl
 have jXS5 : v4.cell? ⟨v1.heap.size, 5, none⟩ = some (St s5) := by rw [cell_of_heap XS.out]; rfl
 have ltXS : v1.heap.size < v4.heap.size := heap_lt XS.out
 have jXO0 : v4.cell? ⟨v1.heap.size + 1, 0, none⟩ = some (St o0) := by rw [cell_of_heap XO.out]; rfl
 have jXO1 : v4.cell? ⟨v1.heap.size + 1, 1, none⟩ = some (St o1) := by rw [cell_of_heap XO.out]; rfl
 have jXO2 : v4.cell? ⟨v1.heap.size + 1, 2, none⟩ = some (St o2) := by rw [cell_of_heap XO.out]; rfl
 have jXO3 : v4.cell? ⟨v1.heap.size + 1, 3, none⟩ = some (St o3) := by rw [cell_of_heap XO.out]; rfl
 have jXO4 : v4.cell? ⟨v1.heap.size + 1, 4, none⟩ = some (St o4) := by rw [cell_of_heap XO.out]; rfl
 have jXO5 : v4.cell? ⟨v1.heap.size + 1, 5, none⟩ = some (St o5) := by rw [cell_of_heap XO.out]; rfl
 have ltXO : v1.heap.size + 1 < v4.heap.size := heap_lt XO.out
 have jXT0 : v4.cell? ⟨v1.heap.size + 2, 0, none⟩ = some (St t0) := by rw [cell_of_heap XT.out]; rfl
 have jXT1 : v4.cell? ⟨v1.heap.size + 2, 1, none⟩ = some (St t1) := by rw [cell_of_heap XT.out]; rfl
 have jXT2 : v4.cell? ⟨v1.heap.size + 2, 2, none⟩ = some (St t2) := by rw [cell_of_heap XT.out]; rfl
 have jXT3 : v4.cell? ⟨v1.heap.size + 2, 3, none⟩ = some (St t3) := by rw [cell_of_heap XT.out]; rfl
 have jXT4 : v4.cell? ⟨v1.heap.size + 2, 4, none⟩ = some (St t4) := by rw [cell_of_heap XT.out]; rfl
 have ltXT : v1.heap.size + 2 < v4.heap.size := heap_lt XT.out
 have jXN30 : v4.cell? ⟨v3.heap.size, 0, none⟩ = some (St p0) := by rw [cell_of_heap XN3.out]; rfl
 have jXN31 : v4.cell? ⟨v3.heap.size, 1, none⟩ = some (St p1) := by rw [cell_of_heap XN3.out]; rfl
 have jXN32 : v4.cell? ⟨v3.heap.size, 2, none⟩ = some (St p2) := by rw [cell_of_heap XN3.out]; rfl
 have jXN33 : v4.cell? ⟨v3.heap.size, 3, none⟩ = some (St p3) := by rw [cell_of_heap XN3.out]; rfl
 have jXN34 : v4.cell? ⟨v3.heap.size, 4, none⟩ = some (St p4) := by rw [cell_of_heap XN3.out]; rfl
 have ltXN3 : v3.heap.size < v4.heap.size := heap_lt XN3.out
 obtain ⟨a4, ha4⟩ : ∃ b, b = v4.alloc (.cells #[St q0, St q1, St q2, St q3, St q4] 33) := ⟨_, rfl⟩
 have hz : Below v4.heap.size v4 a4 := by rw [ha4]; exact bel_alloc v4 _
 replace XS := hid ((hz.block _ (heap_lt XS.out)).trans XS.out)
 replace XO := hid ((hz.block _ (heap_lt XO.out)).trans XO.out)
 replace XT := hid ((hz.block _ (heap_lt XT.out)).trans XT.out)
 replace XN3 := hid ((hz.block _ (heap_lt XN3.out)).trans XN3.out)
 have XN4 : Hid (a4.heap[v4.heap.size]? = some (.cells #[St q0, St q1, St q2, St q3, St q4] 33 (0, 0))) := hid (by rw [ha4]; exact heap_alloc_new v4 _)
 have HR2 := hid (HR.out.trans (hz.mono HR.out.size))
 have HE4 := hid ha4
 clear hz ha4 HR
 have HR := HR2
 clear HR2
 go_wp2_with fail
 clear jXS0 jXS1 jXS2 jXS3 jXS4 jXS5 ltXS jXO0 jXO1 jXO2 jXO3 jXO4 jXO5 ltXO jXT0 jXT1 jXT2 jXT3 jXT4 ltXT jXN30 jXN31 jXN32 jXN33 jXN34 ltXN3
 have hcc := C5.out a4 (HB0.out.trans (HR.out.mono HB0.out.size))
 rw [HE4.out] at hcc
 refine hcc.mono ?_
 clear hcc C5
 rintro _ v5 ⟨rfl, hb⟩
 rw [← HE4.out] at hb
 have HR2 := hid (HR.out.trans (hb.mono HR.out.size))
 replace XS := hid ((hb.block _ (heap_lt XS.out)).trans XS.out)
 replace XO := hid ((hb.block _ (heap_lt XO.out)).trans XO.out)
 replace XT := hid ((hb.block _ (heap_lt XT.out)).trans XT.out)
 replace XN3 := hid ((hb.block _ (heap_lt XN3.out)).trans XN3.out)
 replace XN4 := hid ((hb.block _ (heap_lt XN4.out)).trans XN4.out)
 clear hb HR HE4
 have HR := HR2
 clear HR2
 have jXS0 : v5.cell? ⟨v1.heap.size, 0, none⟩ = some (St s0) := by rw [cell_of_heap XS.out]; rfl
 have jXS1 : v5.cell? ⟨v1.heap.size, 1, none⟩ = some (St s1) := by rw [cell_of_heap XS.out]; rfl
 have jXS2 : v5.cell? ⟨v1.heap.size, 2, none⟩ = some (St s2) := by rw [cell_of_heap XS.out]; rfl
 have jXS3 : v5.cell? ⟨v1.heap.size, 3, none⟩ = some (St s3) := by rw [cell_of_heap XS.out]; rfl
 have jXS4 : v5.cell? ⟨v1.heap.size, 4, none⟩ = some (St s4) := by rw [cell_of_heap XS.out]; rfl
 have jXS5 : v5.cell? ⟨v1.heap.size, 5, none⟩ = some (St s5) := by rw [cell_of_heap XS.out]; rfl
 have ltXS : v1.heap.size < v5.heap.size := heap_lt XS.out
 have jXO0 : v5.cell? ⟨v1.heap.size + 1, 0, none⟩ = some (St o0) := by rw [cell_of_heap XO.out]; rfl
 have jXO1 : v5.cell? ⟨v1.heap.size + 1, 1, none⟩ = some (St o1) := by rw [cell_of_heap XO.out]; rfl
 have jXO2 : v5.cell? ⟨v1.heap.size + 1, 2, none⟩ = some (St o2) := by rw [cell_of_heap XO.out]; rfl
 have jXO3 : v5.cell? ⟨v1.heap.size + 1, 3, none⟩ = some (St o3) := by rw [cell_of_heap XO.out]; rfl
 have jXO4 : v5.cell? ⟨v1.heap.size + 1, 4, none⟩ = some (St o4) := by rw [cell_of_heap XO.out]; rfl
 have jXO5 : v5.cell? ⟨v1.heap.size + 1, 5, none⟩ = some (St o5) := by rw [cell_of_heap XO.out]; rfl
 have ltXO : v1.heap.size + 1 < v5.heap.size := heap_lt XO.out
 have jXT0 : v5.cell? ⟨v1.heap.size + 2, 0, none⟩ = some (St t0) := by rw [cell_of_heap XT.out]; rfl
 have jXT1 : v5.cell? ⟨v1.heap.size + 2, 1, none⟩ = some (St t1) := by rw [cell_of_heap XT.out]; rfl
 have jXT2 : v5.cell? ⟨v1.heap.size + 2, 2, none⟩ = some (St t2) := by rw [cell_of_heap XT.out]; rfl
 have jXT3 : v5.cell? ⟨v1.heap.size + 2, 3, none⟩ = some (St t3) := by rw [cell_of_heap XT.out]; rfl
 have jXT4 : v5.cell? ⟨v1.heap.size + 2, 4, none⟩ = some (St t4) := by rw [cell_of_heap XT.out]; rfl
 have ltXT : v1.heap.size + 2 < v5.heap.size := heap_lt XT.out
 have jXN30 : v5.cell? ⟨v3.heap.size, 0, none⟩ = some (St p0) := by rw [cell_of_heap XN3.out]; rfl
 have jXN31 : v5.cell? ⟨v3.heap.size, 1, none⟩ = some (St p1) := by rw [cell_of_heap XN3.out]; rfl
 have jXN32 : v5.cell? ⟨v3.heap.size, 2, none⟩ = some (St p2) := by rw [cell_of_heap XN3.out]; rfl
 have jXN33 : v5.cell? ⟨v3.heap.size, 3, none⟩ = some (St p3) := by rw [cell_of_heap XN3.out]; rfl
 have jXN34 : v5.cell? ⟨v3.heap.size, 4, none⟩ = some (St p4) := by rw [cell_of_heap XN3.out]; rfl
 have ltXN3 : v3.heap.size < v5.heap.size := heap_lt XN3.out
 have jXN40 : v5.cell? ⟨v4.heap.size, 0, none⟩ = some (St q0) := by rw [cell_of_heap XN4.out]; rfl
 have jXN41 : v5.cell? ⟨v4.heap.size, 1, none⟩ = some (St q1) := by rw [cell_of_heap XN4.out]; rfl
 have jXN42 : v5.cell? ⟨v4.heap.size, 2, none⟩ = some (St q2) := by rw [cell_of_heap XN4.out]; rfl
 have jXN43 : v5.cell? ⟨v4.heap.size, 3, none⟩ = some (St q3) := by rw [cell_of_heap XN4.out]; rfl
 have jXN44 : v5.cell? ⟨v4.heap.size, 4, none⟩ = some (St q4) := by rw [cell_of_heap XN4.out]; rfl
 have ltXN4 : v4.heap.size < v5.heap.size := heap_lt XN4.out
 go_wp2_with fail
 clear jXS0 jXS1 jXS2 jXS3 jXS4 jXS5 ltXS jXO0 jXO1 jXO2 jXO3 jXO4 jXO5 ltXO jXT0 jXT1 jXT2 jXT3 jXT4 ltXT jXN30 jXN31 jXN32 jXN33 jXN34 ltXN3 jXN40 jXN41 jXN42 jXN43 jXN44 ltXN4
 have hcc := C6.out v5 (HB0.out.trans (HR.out.mono HB0.out.size))
 refine hcc.mono ?_
 clear hcc C6
 rintro _ v6 ⟨rfl, hb⟩
 have HR2 := hid (HR.out.trans (hb.mono HR.out.size))
 replace XS := hid ((hb.block _ (heap_lt XS.out)).trans XS.out)
 replace XO := hid ((hb.block _ (heap_lt XO.out)).trans XO.out)
 replace XT := hid ((hb.block _ (heap_lt XT.out)).trans XT.out)
 replace XN3 := hid ((hb.block _ (heap_lt XN3.out)).trans XN3.out)
 replace XN4 := hid ((hb.block _ (heap_lt XN4.out)).trans XN4.out)
 clear hb HR
 have HR := HR2
 clear HR2
 have jXS0 : v6.cell? ⟨v1.heap.size, 0, none⟩ = some (St s0) := by rw [cell_of_heap XS.out]; rfl
 have jXS1 : v6.cell? ⟨v1.heap.size, 1, none⟩ = some (St s1) := by rw [cell_of_heap XS.out]; rfl
 have jXS2 : v6.cell? ⟨v1.heap.size, 2, none⟩ = some (St s2) := by rw [cell_of_heap XS.out]; rfl
 have jXS3 : v6.cell? ⟨v1.heap.size, 3, none⟩ = some (St s3) := by rw [cell_of_heap XS.out]; rfl
 have jXS4 : v6.cell? ⟨v1.heap.size, 4, none⟩ = some (St s4) := by rw [cell_of_heap XS.out]; rfl
 have jXS5 : v6.cell? ⟨v1.heap.size, 5, none⟩ = some (St s5) := by rw [cell_of_heap XS.out]; rfl
 have ltXS : v1.heap.size < v6.heap.size := heap_lt XS.out
 have jXO0 : v6.cell? ⟨v1.heap.size + 1, 0, none⟩ = some (St o0) := by rw [cell_of_heap XO.out]; rfl
 have jXO1 : v6.cell? ⟨v1.heap.size + 1, 1, none⟩ = some (St o1) := by rw [cell_of_heap XO.out]; rfl
 have jXO2 : v6.cell? ⟨v1.heap.size + 1, 2, none⟩ = some (St o2) := by rw [cell_of_heap XO.out]; rfl
 have jXO3 : v6.cell? ⟨v1.heap.size + 1, 3, none⟩ = some (St o3) := by rw [cell_of_heap XO.out]; rfl
 have jXO4 : v6.cell? ⟨v1.heap.size + 1, 4, none⟩ = some (St o4) := by rw [cell_of_heap XO.out]; rfl
 have jXO5 : v6.cell? ⟨v1.heap.size + 1, 5, none⟩ = some (St o5) := by rw [cell_of_heap XO.out]; rfl
 have ltXO : v1.heap.size + 1 < v6.heap.size := heap_lt XO.out
 have jXT0 : v6.cell? ⟨v1.heap.size + 2, 0, none⟩ = some (St t0) := by rw [cell_of_heap XT.out]; rfl
 have jXT1 : v6.cell? ⟨v1.heap.size + 2, 1, none⟩ = some (St t1) := by rw [cell_of_heap XT.out]; rfl
 have jXT2 : v6.cell? ⟨v1.heap.size + 2, 2, none⟩ = some (St t2) := by rw [cell_of_heap XT.out]; rfl
 have jXT3 : v6.cell? ⟨v1.heap.size + 2, 3, none⟩ = some (St t3) := by rw [cell_of_heap XT.out]; rfl
 have jXT4 : v6.cell? ⟨v1.heap.size + 2, 4, none⟩ = some (St t4) := by rw [cell_of_heap XT.out]; rfl
 have ltXT : v1.heap.size + 2 < v6.heap.size := heap_lt XT.out
 have jXN30 : v6.cell? ⟨v3.heap.size, 0, none⟩ = some (St p0) := by rw [cell_of_heap XN3.out]; rfl
 have jXN31 : v6.cell? ⟨v3.heap.size, 1, none⟩ = some (St p1) := by rw [cell_of_heap XN3.out]; rfl
 have jXN32 : v6.cell? ⟨v3.heap.size, 2, none⟩ = some (St p2) := by rw [cell_of_heap XN3.out]; rfl
 have jXN33 : v6.cell? ⟨v3.heap.size, 3, none⟩ = some (St p3) := by rw [cell_of_heap XN3.out]; rfl
 have jXN34 : v6.cell? ⟨v3.heap.size, 4, none⟩ = some (St p4) := by rw [cell_of_heap XN3.out]; rfl
 have ltXN3 : v3.heap.size < v6.heap.size := heap_lt XN3.out
 have jXN40 : v6.cell? ⟨v4.heap.size, 0, none⟩ = some (St q0) := by rw [cell_of_heap XN4.out]; rfl
 have jXN41 : v6.cell? ⟨v4.heap.size, 1, none⟩ = some (St q1) := by rw [cell_of_heap XN4.out]; rfl
 have jXN42 : v6.cell? ⟨v4.heap.size, 2, none⟩ = some (St q2) := by rw [cell_of_heap XN4.out]; rfl
 have jXN43 : v6.cell? ⟨v4.heap.size, 3, none⟩ = some (St q3) := by rw [cell_of_heap XN4.out]; rfl
 have jXN44 : v6.cell? ⟨v4.heap.size, 4, none⟩ = some (St q4) := by rw [cell_of_heap XN4.out]; rfl
 have ltXN4 : v4.heap.size < v6.heap.size := heap_lt XN4.out
 go_wp2_with fail
 clear jXS0 jXS1 jXS2 jXS3 jXS4 jXS5 ltXS jXO0 jXO1 jXO2 jXO3 jXO4 jXO5 ltXO jXT0 jXT1 jXT2 jXT3 jXT4 ltXT jXN30 jXN31 jXN32 jXN33 jXN34 ltXN3 jXN40 jXN41 jXN42 jXN43 jXN44 ltXN4
 have hcc := C7.out v6 (HB0.out.trans (HR.out.mono HB0.out.size))
 refine hcc.mono ?_
 clear hcc C7
 rintro _ v7 ⟨rfl, hb⟩
 have HR2 := hid (HR.out.trans (hb.mono HR.out.size))
 replace XS := hid ((hb.block _ (heap_lt XS.out)).trans XS.out)
 replace XO := hid ((hb.block _ (heap_lt XO.out)).trans XO.out)
 replace XT := hid ((hb.block _ (heap_lt XT.out)).trans XT.out)
 replace XN3 := hid ((hb.block _ (heap_lt XN3.out)).trans XN3.out)
 replace XN4 := hid ((hb.block _ (heap_lt XN4.out)).trans XN4.out)
 clear hb HR
 have HR := HR2
 clear HR2
 have jXS0 : v7.cell? ⟨v1.heap.size, 0, none⟩ = some (St s0) := by rw [cell_of_heap XS.out]; rfl
 have jXS1 : v7.cell? ⟨v1.heap.size, 1, none⟩ = some (St s1) := by rw [cell_of_heap XS.out]; rfl
 have jXS2 : v7.cell? ⟨v1.heap.size, 2, none⟩ = some (St s2) := by rw [cell_of_heap XS.out]; rfl
 have jXS3 : v7.cell? ⟨v1.heap.size, 3, none⟩ = some (St s3) := by rw [cell_of_heap XS.out]; rfl
 have jXS4 : v7.cell? ⟨v1.heap.size, 4, none⟩ = some (St s4) := by rw [cell_of_heap XS.out]; rfl
 have jXS5 : v7.cell? ⟨v1.heap.size, 5, none⟩ = some (St s5) := by rw [cell_of_heap XS.out]; rfl
 have ltXS : v1.heap.size < v7.heap.size := heap_lt XS.out
 have jXO0 : v7.cell? ⟨v1.heap.size + 1, 0, none⟩ = some (St o0) := by rw [cell_of_heap XO.out]; rfl
 have jXO1 : v7.cell? ⟨v1.heap.size + 1, 1, none⟩ = some (St o1) := by rw [cell_of_heap XO.out]; rfl
 have jXO2 : v7.cell? ⟨v1.heap.size + 1, 2, none⟩ = some (St o2) := by rw [cell_of_heap XO.out]; rfl
 have jXO3 : v7.cell? ⟨v1.heap.size + 1, 3, none⟩ = some (St o3) := by rw [cell_of_heap XO.out]; rfl
 have jXO4 : v7.cell? ⟨v1.heap.size + 1, 4, none⟩ = some (St o4) := by rw [cell_of_heap XO.out]; rfl
 have jXO5 : v7.cell? ⟨v1.heap.size + 1, 5, none⟩ = some (St o5) := by rw [cell_of_heap XO.out]; rfl
 have ltXO : v1.heap.size + 1 < v7.heap.size := heap_lt XO.out
 have jXT0 : v7.cell? ⟨v1.heap.size + 2, 0, none⟩ = some (St t0) := by rw [cell_of_heap XT.out]; rfl
 have jXT1 : v7.cell? ⟨v1.heap.size + 2, 1, none⟩ = some (St t1) := by rw [cell_of_heap XT.out]; rfl
 have jXT2 : v7.cell? ⟨v1.heap.size + 2, 2, none⟩ = some (St t2) := by rw [cell_of_heap XT.out]; rfl
 have jXT3 : v7.cell? ⟨v1.heap.size + 2, 3, none⟩ = some (St t3) := by rw [cell_of_heap XT.out]; rfl
 have jXT4 : v7.cell? ⟨v1.heap.size + 2, 4, none⟩ = some (St t4) := by rw [cell_of_heap XT.out]; rfl
 have ltXT : v1.heap.size + 2 < v7.heap.size := heap_lt XT.out
 have jXN30 : v7.cell? ⟨v3.heap.size, 0, none⟩ = some (St p0) := by rw [cell_of_heap XN3.out]; rfl
 have jXN31 : v7.cell? ⟨v3.heap.size, 1, none⟩ = some (St p1) := by rw [cell_of_heap XN3.out]; rfl
 have jXN32 : v7.cell? ⟨v3.heap.size, 2, none⟩ = some (St p2) := by rw [cell_of_heap XN3.out]; rfl
 have jXN33 : v7.cell? ⟨v3.heap.size, 3, none⟩ = some (St p3) := by rw [cell_of_heap XN3.out]; rfl
 have jXN34 : v7.cell? ⟨v3.heap.size, 4, none⟩ = some (St p4) := by rw [cell_of_heap XN3.out]; rfl
 have ltXN3 : v3.heap.size < v7.heap.size := heap_lt XN3.out
 have jXN40 : v7.cell? ⟨v4.heap.size, 0, none⟩ = some (St q0) := by rw [cell_of_heap XN4.out]; rfl
 have jXN41 : v7.cell? ⟨v4.heap.size, 1, none⟩ = some (St q1) := by rw [cell_of_heap XN4.out]; rfl
 have jXN42 : v7.cell? ⟨v4.heap.size, 2, none⟩ = some (St q2) := by rw [cell_of_heap XN4.out]; rfl
 have jXN43 : v7.cell? ⟨v4.heap.size, 3, none⟩ = some (St q3) := by rw [cell_of_heap XN4.out]; rfl
 have jXN44 : v7.cell? ⟨v4.heap.size, 4, none⟩ = some (St q4) := by rw [cell_of_heap XN4.out]; rfl
 have ltXN4 : v4.heap.size < v7.heap.size := heap_lt XN4.out
 go_wp2_with fail
 clear jXS0 jXS1 jXS2 jXS3 jXS4 jXS5 ltXS jXO0 jXO1 jXO2 jXO3 jXO4 jXO5 ltXO jXT0 jXT1 jXT2 jXT3 jXT4 ltXT jXN30 jXN31 jXN32 jXN33 jXN34 ltXN3 jXN40 jXN41 jXN42 jXN43 jXN44 ltXN4
 obtain ⟨A, hA⟩ : ∃ A, A = v7.heap.size := ⟨_, rfl⟩
 have HLA : Hid (w.heap.size ≤ A ∧ v1.heap.size + 2 < A) := hid ⟨by rw [hA]; exact HR.out.size, by rw [hA]; exact heap_lt XT.out⟩
 have hcc := C8.out v7 (HB0.out.trans (HR.out.mono HB0.out.size))
 rw [← hA] at hcc
 refine hcc.mono ?_
 clear hcc C8
 rintro _ v8 ⟨rfl, hms, hb⟩
 have HR2 := hid (HR.out.trans (hb.mono (by rw [hA]; exact HR.out.size)))
 replace XS := hid ((hb.block _ (by rw [hA]; exact heap_lt XS.out)).trans XS.out)
 replace XO := hid ((hb.block _ (by rw [hA]; exact heap_lt XO.out)).trans XO.out)
 replace XT := hid ((hb.block _ (by rw [hA]; exact heap_lt XT.out)).trans XT.out)
 replace XN3 := hid ((hb.block _ (by rw [hA]; exact heap_lt XN3.out)).trans XN3.out)
 replace XN4 := hid ((hb.block _ (by rw [hA]; exact heap_lt XN4.out)).trans XN4.out)
 have HM := hid hms
 have HAS : Hid (A ≤ v8.heap.size) := hid (by have := hb.size; omega)
 clear hms hb hA HR
 have HR := HR2
 clear HR2
 have jXS0 : v8.cell? ⟨v1.heap.size, 0, none⟩ = some (St s0) := by rw [cell_of_heap XS.out]; rfl
 have jXS1 : v8.cell? ⟨v1.heap.size, 1, none⟩ = some (St s1) := by rw [cell_of_heap XS.out]; rfl
 have jXS2 : v8.cell? ⟨v1.heap.size, 2, none⟩ = some (St s2) := by rw [cell_of_heap XS.out]; rfl
 have jXS3 : v8.cell? ⟨v1.heap.size, 3, none⟩ = some (St s3) := by rw [cell_of_heap XS.out]; rfl
 have jXS4 : v8.cell? ⟨v1.heap.size, 4, none⟩ = some (St s4) := by rw [cell_of_heap XS.out]; rfl
 have jXS5 : v8.cell? ⟨v1.heap.size, 5, none⟩ = some (St s5) := by rw [cell_of_heap XS.out]; rfl
 have ltXS : v1.heap.size < v8.heap.size := heap_lt XS.out
 have jXO0 : v8.cell? ⟨v1.heap.size + 1, 0, none⟩ = some (St o0) := by rw [cell_of_heap XO.out]; rfl
 have jXO1 : v8.cell? ⟨v1.heap.size + 1, 1, none⟩ = some (St o1) := by rw [cell_of_heap XO.out]; rfl
 have jXO2 : v8.cell? ⟨v1.heap.size + 1, 2, none⟩ = some (St o2) := by rw [cell_of_heap XO.out]; rfl
 have jXO3 : v8.cell? ⟨v1.heap.size + 1, 3, none⟩ = some (St o3) := by rw [cell_of_heap XO.out]; rfl
 have jXO4 : v8.cell? ⟨v1.heap.size + 1, 4, none⟩ = some (St o4) := by rw [cell_of_heap XO.out]; rfl
 have jXO5 : v8.cell? ⟨v1.heap.size + 1, 5, none⟩ = some (St o5) := by rw [cell_of_heap XO.out]; rfl
 have ltXO : v1.heap.size + 1 < v8.heap.size := heap_lt XO.out
 have jXT0 : v8.cell? ⟨v1.heap.size + 2, 0, none⟩ = some (St t0) := by rw [cell_of_heap XT.out]; rfl
 have jXT1 : v8.cell? ⟨v1.heap.size + 2, 1, none⟩ = some (St t1) := by rw [cell_of_heap XT.out]; rfl
 have jXT2 : v8.cell? ⟨v1.heap.size + 2, 2, none⟩ = some (St t2) := by rw [cell_of_heap XT.out]; rfl
 have jXT3 : v8.cell? ⟨v1.heap.size + 2, 3, none⟩ = some (St t3) := by rw [cell_of_heap XT.out]; rfl
 have jXT4 : v8.cell? ⟨v1.heap.size + 2, 4, none⟩ = some (St t4) := by rw [cell_of_heap XT.out]; rfl
 have ltXT : v1.heap.size + 2 < v8.heap.size := heap_lt XT.out
 have jXN30 : v8.cell? ⟨v3.heap.size, 0, none⟩ = some (St p0) := by rw [cell_of_heap XN3.out]; rfl
 have jXN31 : v8.cell? ⟨v3.heap.size, 1, none⟩ = some (St p1) := by rw [cell_of_heap XN3.out]; rfl
 have jXN32 : v8.cell? ⟨v3.heap.size, 2, none⟩ = some (St p2) := by rw [cell_of_heap XN3.out]; rfl
 have jXN33 : v8.cell? ⟨v3.heap.size, 3, none⟩ = some (St p3) := by rw [cell_of_heap XN3.out]; rfl
 have jXN34 : v8.cell? ⟨v3.heap.size, 4, none⟩ = some (St p4) := by rw [cell_of_heap XN3.out]; rfl
 have ltXN3 : v3.heap.size < v8.heap.size := heap_lt XN3.out
 have jXN40 : v8.cell? ⟨v4.heap.size, 0, none⟩ = some (St q0) := by rw [cell_of_heap XN4.out]; rfl
 have jXN41 : v8.cell? ⟨v4.heap.size, 1, none⟩ = some (St q1) := by rw [cell_of_heap XN4.out]; rfl
 have jXN42 : v8.cell? ⟨v4.heap.size, 2, none⟩ = some (St q2) := by rw [cell_of_heap XN4.out]; rfl
 have jXN43 : v8.cell? ⟨v4.heap.size, 3, none⟩ = some (St q3) := by rw [cell_of_heap XN4.out]; rfl
 have jXN44 : v8.cell? ⟨v4.heap.size, 4, none⟩ = some (St q4) := by rw [cell_of_heap XN4.out]; rfl
 have ltXN4 : v4.heap.size < v8.heap.size := heap_lt XN4.out
 go_wp2_with fail
 clear jXS0 jXS1 jXS2 jXS3 jXS4 jXS5 ltXS jXO0 jXO1 jXO2 jXO3 jXO4 jXO5 ltXO jXT0 jXT1 jXT2 jXT3 jXT4 ltXT jXN30 jXN31 jXN32 jXN33 jXN34 ltXN3 jXN40 jXN41 jXN42 jXN43 jXN44 ltXN4
 obtain ⟨y, hy⟩ : ∃ b, b = v8.alloc (.cells #[St p0, St p1, St p2, St p3, St p4, St q0, St q1, St q2, St q3, St q4, St pt, St t0, St t1, St t2, St t3] 22) := ⟨_, rfl⟩
 have hz : Below v8.heap.size v8 y := by rw [hy]; exact bel_alloc v8 _
 obtain ⟨gy, hgy⟩ : ∃ r, r = v8.heap.size := ⟨_, rfl⟩
 have XRy : Hid (y.heap[gy]? = some (.cells #[St p0, St p1, St p2, St p3, St p4, St q0, St q1, St q2, St q3, St q4, St pt, St t0, St t1, St t2, St t3] 22 (0, 0))) := hid (by rw [hy, hgy]; exact heap_alloc_new v8 _)
 have HGY : Hid (gy ≠ A) := hid (by have := HM.out.lt (show 0 < 1 by decide); have h2 : A < v8.heap.size := this; omega)
 have HMY := hid (HM.out.below hz)
 have HYS : Hid (A ≤ y.heap.size) := hid (by have := hz.size; have := HAS.out; omega)
 have HRY := hid (HR.out.trans (hz.mono HR.out.size))
 have HEY := hid hy
 replace XS := hid ((hz.block _ (heap_lt XS.out)).trans XS.out)
 replace XO := hid ((hz.block _ (heap_lt XO.out)).trans XO.out)
 rw [← hgy]
 clear hz hy hgy HM HAS HR XT XN3 XN4
 go_loopg [127] 15 (fun gg v wr => ∃ i : Nat, i ≤ 15 ∧ gg = 15 - i ∧ v = .int .i64 (i : Int) ∧ ∃ L : Nat → List Bs, (L 0 = (ts.take i).reverse) ∧ Ms U A (fun _ => A) L 1 wr ∧ Below A y wr ∧ wr.heap[gy]? = some (.cells #[St p0, St p1, St p2, St p3, St p4, St q0, St q1, St q2, St q3, St q4, St pt, St t0, St t1, St t2, St t3] 22 (0, 0)))
 case atStart => exact ⟨0, by omega, by omega, rfl, fun _ => [], rfl, by rw [← HEY.out]; exact HMY.out, by rw [HEY.out]; exact Below.refl _ _, by rw [← HEY.out]; exact XRy.out⟩
 case round =>
   obtain ⟨i, hi, rfl, rfl, L, hL0, hms, hbel, hrow⟩ := hrel
   have HBE := hid hbel
   have HMM := hid hms
   have HROW := hid hrow
   clear hbel hms hrow
   by_cases hil : i < 15
   · obtain ⟨t, ht⟩ : ∃ t, t = ts.getD i [] := ⟨_, rfl⟩
     have htl : i < ts.length := by rw [HTS.out]; exact hil
     have htU : t ∈ U := HIN.out t (by
       have hmem : t ∈ ts := by rw [ht, List.getD_eq_getElem?_getD, List.getElem?_eq_getElem htl]; exact List.getElem_mem htl
       rw [HTS.out] at hmem
       simp only [List.mem_cons, List.not_mem_nil, or_false] at hmem ⊢
       rcases hmem with h | h | h | h | h | h | h | h | h | h | h | h | h | h | h <;> simp [h])
     have hcl : wr.cell? ⟨gy, i, none⟩ = some (St t) := by
       rw [cell_of_heap HROW.out, ht, HTS.out]
       rcases (show i = 0 ∨ i = 1 ∨ i = 2 ∨ i = 3 ∨ i = 4 ∨ i = 5 ∨ i = 6 ∨ i = 7 ∨ i = 8 ∨ i = 9 ∨ i = 10 ∨ i = 11 ∨ i = 12 ∨ i = 13 ∨ i = 14 by omega) with h | h | h | h | h | h | h | h | h | h | h | h | h | h | h <;> subst h <;> rfl
     have HC := hid (HMM.out.learn hU (by have := HG2.out; have := HLA.out.1; omega) (by have := HBE.out.size; have := HYS.out; omega) (i := 0) (by decide) htU (by rw [hL0]; simp [HTS.out]; omega))
     have HSTEP : Hid ((ts.take (i + 1)).reverse = t :: (ts.take i).reverse) := hid (by rw [ht]; exact take_rev _ htl)
     have HLF := hid (And.intro hL0 trivial)
     skip
     clear ht htl htU hL0
     go_wp2_with fail
     have hcc := HC.out
     refine hcc.mono ?_
     clear hcc HC hcl
     rintro _ u ⟨rfl, hms, hbA, hsz, hrw⟩
     have HM2 := hid hms
     have HB2 := hid (HBE.out.trans hbA)
     have HR2 := hid (hrw _ _ _ HROW.out (by have := HGY.out; exact this))
     clear hms hbA hsz hrw
     go_wp2_with fail
     go_roundg (15 - (i + 1))
     case measure => omega
     case rel => exact ⟨i + 1, by omega, rfl, by go_num, put1 L 0 (t :: L 0), by rw [put1_same, HLF.out.1, HSTEP.out], HM2.out, HB2.out, HR2.out⟩
   · obtain rfl : i = 15 := by omega
     generalize hz : ((15 : Nat) : Int) = z
     obtain rfl : (15 : Int) = z := hz
     clear hi hil
     have HL0 : Hid (L 0 = ts.reverse) := hid (by rw [hL0, List.take_of_length_le (by rw [HTS.out]; exact Nat.le_refl _)])
     have HSZ : Hid (A ≤ wr.heap.size) := hid (by have := HBE.out.size; have := HYS.out; omega)
     have HBW := hid (HRY.out.trans (HBE.out.mono HLA.out.1))
     have XS2 := hid ((HBE.out.block _ (by have := HLA.out.2; omega)).trans XS.out)
     have XO2 := hid ((HBE.out.block _ (by have := HLA.out.2; omega)).trans XO.out)
     clear hL0 XS XO XRy HROW HRY HYS HMY HEY HGY HBE
     have hcc := HMM.out.copy HSZ.out (show 0 < 1 by decide)
     go_wp2_with fail
     refine hcc.mono ?_
     clear hcc
     rintro _ c1 ⟨q, rfl, hq, hms, hb⟩
     obtain ⟨P1, hP1⟩ : ∃ P, P = put1 (fun _ => A) 1 q := ⟨_, rfl⟩
     obtain ⟨L1, hL1⟩ : ∃ P, P = put1 L 1 (L 0) := ⟨_, rfl⟩
     rw [← hP1, ← hL1] at hms
     have hP10 : P1 0 = A := by rw [hP1]; rfl
     have hP11 : P1 1 = q := by rw [hP1]; rfl
     have HL1 : Hid (L1 0 = ts.reverse ∧ L1 1 = ts.reverse) := hid (by rw [hL1]; exact ⟨HL0.out, HL0.out⟩)
     have HS1 : Hid (A ≤ c1.heap.size) := hid (by have := hb.size; have := HSZ.out; omega)
     have HBW1 := hid (HBW.out.trans (hb.mono HBW.out.size))
     have XS3 := hid ((hb.block _ (heap_lt XS2.out)).trans XS2.out)
     have XO3 := hid ((hb.block _ (heap_lt XO2.out)).trans XO2.out)
     have HM1 : Hid (Ms U A P1 L1 2 c1) := hid hms
     have hcc := HM1.out.copy HS1.out (show 0 < 2 by decide)
     rw [hP10] at hcc
     have HP1 := hid (And.intro hP10 hP11)
     clear hms hb hq hP1 hL1 HL0 HSZ HBW XS2 XO2 HMM hP10 hP11
     go_wp2_with fail
     refine hcc.mono ?_
     clear hcc
     rintro _ c2 ⟨q2, rfl, hq, hms, hb⟩
     obtain ⟨P2, hP2⟩ : ∃ P, P = put1 P1 2 q2 := ⟨_, rfl⟩
     obtain ⟨L2, hL2⟩ : ∃ P, P = put1 L1 2 (L1 0) := ⟨_, rfl⟩
     rw [← hP2, ← hL2] at hms
     have HP2 : Hid (P2 0 = A ∧ P2 1 = q ∧ P2 2 = q2) := hid (by rw [hP2]; exact ⟨HP1.out.1, HP1.out.2, rfl⟩)
     have HL2 : Hid (L2 0 = ts.reverse ∧ L2 1 = ts.reverse ∧ L2 2 = ts.reverse) := hid (by rw [hL2]; exact ⟨HL1.out.1, HL1.out.2, HL1.out.1⟩)
     have HS2 : Hid (A ≤ c2.heap.size) := hid (by have := hb.size; have := HS1.out; omega)
     have HBW2 := hid (HBW1.out.trans (hb.mono HBW1.out.size))
     have XS := hid ((hb.block _ (heap_lt XS3.out)).trans XS3.out)
     have XO := hid ((hb.block _ (heap_lt XO3.out)).trans XO3.out)
     have HM2 : Hid (Ms U A P2 L2 3 c2) := hid hms
     clear hms hb hq hP2 hL2 HL1 HS1 HBW1 XS3 XO3 HM1 HP1
     have jXS0 : c2.cell? ⟨v1.heap.size, 0, none⟩ = some (St s0) := by rw [cell_of_heap XS.out]; rfl
     have jXS1 : c2.cell? ⟨v1.heap.size, 1, none⟩ = some (St s1) := by rw [cell_of_heap XS.out]; rfl
     have jXS2 : c2.cell? ⟨v1.heap.size, 2, none⟩ = some (St s2) := by rw [cell_of_heap XS.out]; rfl
     have jXS3 : c2.cell? ⟨v1.heap.size, 3, none⟩ = some (St s3) := by rw [cell_of_heap XS.out]; rfl
     have jXS4 : c2.cell? ⟨v1.heap.size, 4, none⟩ = some (St s4) := by rw [cell_of_heap XS.out]; rfl
     have jXS5 : c2.cell? ⟨v1.heap.size, 5, none⟩ = some (St s5) := by rw [cell_of_heap XS.out]; rfl
     have ltXS : v1.heap.size < c2.heap.size := heap_lt XS.out
     have jXO0 : c2.cell? ⟨v1.heap.size + 1, 0, none⟩ = some (St o0) := by rw [cell_of_heap XO.out]; rfl
     have jXO1 : c2.cell? ⟨v1.heap.size + 1, 1, none⟩ = some (St o1) := by rw [cell_of_heap XO.out]; rfl
     have jXO2 : c2.cell? ⟨v1.heap.size + 1, 2, none⟩ = some (St o2) := by rw [cell_of_heap XO.out]; rfl
     have jXO3 : c2.cell? ⟨v1.heap.size + 1, 3, none⟩ = some (St o3) := by rw [cell_of_heap XO.out]; rfl
     have jXO4 : c2.cell? ⟨v1.heap.size + 1, 4, none⟩ = some (St o4) := by rw [cell_of_heap XO.out]; rfl
     have jXO5 : c2.cell? ⟨v1.heap.size + 1, 5, none⟩ = some (St o5) := by rw [cell_of_heap XO.out]; rfl
     have ltXO : v1.heap.size + 1 < c2.heap.size := heap_lt XO.out
     go_wp2_with fail
     clear jXS0 jXS1 jXS2 jXS3 jXS4 jXS5 ltXS jXO0 jXO1 jXO2 jXO3 jXO4 jXO5 ltXO
     obtain ⟨y2, hy2⟩ : ∃ b, b = c2.alloc (.cells #[St s0, St s1, St s2, St s3, St s4, St s5] 22) := ⟨_, rfl⟩
     have hz : Below c2.heap.size c2 y2 := by rw [hy2]; exact bel_alloc c2 _
     obtain ⟨gy2, hgy2⟩ : ∃ r, r = c2.heap.size := ⟨_, rfl⟩
     have XRy2 : Hid (y2.heap[gy2]? = some (.cells #[St s0, St s1, St s2, St s3, St s4, St s5] 22 (0, 0))) := hid (by rw [hy2, hgy2]; exact heap_alloc_new c2 _)
     have HGY2 : Hid (gy2 ≠ P2 1) := hid (by have := HM2.out.lt (show 1 < 3 by decide); omega)
     have HMy2 := hid (HM2.out.below hz)
     have HY2S : Hid (A ≤ y2.heap.size) := hid (by have := hz.size; have := HS2.out; omega)
     have HRy2 := hid (HBW2.out.trans (hz.mono HBW2.out.size))
     have HEy2 := hid hy2
     replace XS := hid ((hz.block _ (heap_lt XS.out)).trans XS.out)
     replace XO := hid ((hz.block _ (heap_lt XO.out)).trans XO.out)
     rw [← hgy2]
     clear hz hy2 hgy2 HM2 HS2 HBW2
     go_loopg [154] 6 (fun gg v wr => ∃ i : Nat, i ≤ 6 ∧ gg = 6 - i ∧ v = .int .i64 (i : Int) ∧ ∃ L : Nat → List Bs, (L 0 = ts.reverse ∧ L 1 = (ss.take i).reverse ++ ts.reverse ∧ L 2 = ts.reverse) ∧ Ms U A P2 L 3 wr ∧ Below A y2 wr ∧ wr.heap[gy2]? = some (.cells #[St s0, St s1, St s2, St s3, St s4, St s5] 22 (0, 0)))
     case atStart => exact ⟨0, by omega, by omega, rfl, L2, HL2.out, by rw [← HEy2.out]; exact HMy2.out, by rw [HEy2.out]; exact Below.refl _ _, by rw [← HEy2.out]; exact XRy2.out⟩
     case round =>
       obtain ⟨i, hi, rfl, rfl, L, ⟨hL0, hL1, hL2⟩, hms, hbel, hrow⟩ := hrel
       have HBE := hid hbel
       have HMM := hid hms
       have HROW := hid hrow
       clear hbel hms hrow
       by_cases hil : i < 6
       · obtain ⟨t, ht⟩ : ∃ t, t = ss.getD i [] := ⟨_, rfl⟩
         have htl : i < ss.length := by rw [HSS.out]; exact hil
         have htU : t ∈ U := HIN.out t (by
           have hmem : t ∈ ss := by rw [ht, List.getD_eq_getElem?_getD, List.getElem?_eq_getElem htl]; exact List.getElem_mem htl
           rw [HSS.out] at hmem
           simp only [List.mem_cons, List.not_mem_nil, or_false] at hmem ⊢
           rcases hmem with h | h | h | h | h | h <;> simp [h])
         have hcl : wr.cell? ⟨gy2, i, none⟩ = some (St t) := by
           rw [cell_of_heap HROW.out, ht, HSS.out]
           rcases (show i = 0 ∨ i = 1 ∨ i = 2 ∨ i = 3 ∨ i = 4 ∨ i = 5 by omega) with h | h | h | h | h | h <;> subst h <;> rfl
         have HC := hid (HMM.out.learn hU (by have := HG2.out; have := HLA.out.1; omega) (by have := HBE.out.size; have := HY2S.out; omega) (i := 1) (by decide) htU (by rw [hL1]; simp [HTS.out, HSS.out]; omega))
         have HSTEP : Hid ((ss.take (i + 1)).reverse = t :: (ss.take i).reverse) := hid (by rw [ht]; exact take_rev _ htl)
         have HLF := hid (And.intro hL0 (And.intro hL1 hL2))
         have HC2 := HC.out
         rw [HP2.out.2.1] at HC2
         clear HC
         have HC := hid HC2
         clear HC2
         clear ht htl htU hL0 hL1 hL2
         go_wp2_with fail
         have hcc := HC.out
         refine hcc.mono ?_
         clear hcc HC hcl
         rintro _ u ⟨rfl, hms, hbA, hsz, hrw⟩
         have HM2 := hid hms
         have HB2 := hid (HBE.out.trans hbA)
         have HR2 := hid (hrw _ _ _ HROW.out (by have := HGY2.out; rw [HP2.out.2.1] at this; exact this))
         clear hms hbA hsz hrw
         go_wp2_with fail
         go_roundg (6 - (i + 1))
         case measure => omega
         case rel => exact ⟨i + 1, by omega, rfl, by go_num, put1 L 1 (t :: L 1), ⟨HLF.out.1, by rw [put1_same, HLF.out.2.1, HSTEP.out]; rfl, HLF.out.2.2⟩, HM2.out, HB2.out, HR2.out⟩
       · obtain rfl : i = 6 := by omega
         generalize hz : ((6 : Nat) : Int) = z
         obtain rfl : (6 : Int) = z := hz
         clear hi hil
         have HL3 : Hid (L 0 = ts.reverse ∧ L 1 = ss.reverse ++ ts.reverse ∧ L 2 = ts.reverse) := hid ⟨hL0, by rw [hL1, List.take_of_length_le (by rw [HSS.out]; exact Nat.le_refl _)], hL2⟩
         have HS3 : Hid (A ≤ wr.heap.size) := hid (by have := HBE.out.size; have := HY2S.out; omega)
         have HBW3 := hid (HRy2.out.trans (HBE.out.mono HLA.out.1))
         have XS2 := hid ((HBE.out.block _ (by have := HLA.out.2; omega)).trans XS.out)
         have XO2 := hid ((HBE.out.block _ (by have := HLA.out.2; omega)).trans XO.out)
         clear hL0 hL1 hL2 XS XO XRy2 HROW HRy2 HY2S HMy2 HEy2 HGY2 HBE HL2
         have XS := XS2
         have XO := XO2
         clear XS2 XO2
         obtain ⟨L3, hL3⟩ : ∃ x, x = L := ⟨_, rfl⟩
         obtain ⟨w3, hw3⟩ : ∃ x, x = wr := ⟨_, rfl⟩
         rw [← hL3] at HL3 HMM
         rw [← hw3] at HS3 HBW3 XS XO HMM ⊢
         clear hL3 hw3
         have jXS0 : w3.cell? ⟨v1.heap.size, 0, none⟩ = some (St s0) := by rw [cell_of_heap XS.out]; rfl
         have jXS1 : w3.cell? ⟨v1.heap.size, 1, none⟩ = some (St s1) := by rw [cell_of_heap XS.out]; rfl
         have jXS2 : w3.cell? ⟨v1.heap.size, 2, none⟩ = some (St s2) := by rw [cell_of_heap XS.out]; rfl
         have jXS3 : w3.cell? ⟨v1.heap.size, 3, none⟩ = some (St s3) := by rw [cell_of_heap XS.out]; rfl
         have jXS4 : w3.cell? ⟨v1.heap.size, 4, none⟩ = some (St s4) := by rw [cell_of_heap XS.out]; rfl
         have jXS5 : w3.cell? ⟨v1.heap.size, 5, none⟩ = some (St s5) := by rw [cell_of_heap XS.out]; rfl
         have ltXS : v1.heap.size < w3.heap.size := heap_lt XS.out
         have jXO0 : w3.cell? ⟨v1.heap.size + 1, 0, none⟩ = some (St o0) := by rw [cell_of_heap XO.out]; rfl
         have jXO1 : w3.cell? ⟨v1.heap.size + 1, 1, none⟩ = some (St o1) := by rw [cell_of_heap XO.out]; rfl
         have jXO2 : w3.cell? ⟨v1.heap.size + 1, 2, none⟩ = some (St o2) := by rw [cell_of_heap XO.out]; rfl
         have jXO3 : w3.cell? ⟨v1.heap.size + 1, 3, none⟩ = some (St o3) := by rw [cell_of_heap XO.out]; rfl
         have jXO4 : w3.cell? ⟨v1.heap.size + 1, 4, none⟩ = some (St o4) := by rw [cell_of_heap XO.out]; rfl
         have jXO5 : w3.cell? ⟨v1.heap.size + 1, 5, none⟩ = some (St o5) := by rw [cell_of_heap XO.out]; rfl
         have ltXO : v1.heap.size + 1 < w3.heap.size := heap_lt XO.out
         go_wp2_with fail
         clear jXS0 jXS1 jXS2 jXS3 jXS4 jXS5 ltXS jXO0 jXO1 jXO2 jXO3 jXO4 jXO5 ltXO
         obtain ⟨y3, hy3⟩ : ∃ b, b = w3.alloc (.cells #[St o0, St o1, St o2, St o3, St o4, St o5] 22) := ⟨_, rfl⟩
         have hz : Below w3.heap.size w3 y3 := by rw [hy3]; exact bel_alloc w3 _
         obtain ⟨gy3, hgy3⟩ : ∃ r, r = w3.heap.size := ⟨_, rfl⟩
         have XRy3 : Hid (y3.heap[gy3]? = some (.cells #[St o0, St o1, St o2, St o3, St o4, St o5] 22 (0, 0))) := hid (by rw [hy3, hgy3]; exact heap_alloc_new w3 _)
         have HGY3 : Hid (gy3 ≠ P2 2) := hid (by have := HMM.out.lt (show 2 < 3 by decide); omega)
         have HMy3 := hid (HMM.out.below hz)
         have HY3S : Hid (A ≤ y3.heap.size) := hid (by have := hz.size; have := HS3.out; omega)
         have HRy3 := hid (HBW3.out.trans (hz.mono HBW3.out.size))
         have HEy3 := hid hy3
         replace XS := hid ((hz.block _ (heap_lt XS.out)).trans XS.out)
         replace XO := hid ((hz.block _ (heap_lt XO.out)).trans XO.out)
         rw [← hgy3]
         clear hz hy3 hgy3 HMM HS3 HBW3
         go_loopg [176] 6 (fun gg v wr => ∃ i : Nat, i ≤ 6 ∧ gg = 6 - i ∧ v = .int .i64 (i : Int) ∧ ∃ L : Nat → List Bs, (L 0 = ts.reverse ∧ L 1 = ss.reverse ++ ts.reverse ∧ L 2 = (os.take i).reverse ++ ts.reverse) ∧ Ms U A P2 L 3 wr ∧ Below A y3 wr ∧ wr.heap[gy3]? = some (.cells #[St o0, St o1, St o2, St o3, St o4, St o5] 22 (0, 0)))
         case atStart => exact ⟨0, by omega, by omega, rfl, L3, HL3.out, by rw [← HEy3.out]; exact HMy3.out, by rw [HEy3.out]; exact Below.refl _ _, by rw [← HEy3.out]; exact XRy3.out⟩
         case round =>
           obtain ⟨i, hi, rfl, rfl, L, ⟨hL0, hL1, hL2⟩, hms, hbel, hrow⟩ := hrel
           have HBE := hid hbel
           have HMM := hid hms
           have HROW := hid hrow
           clear hbel hms hrow
           by_cases hil : i < 6
           · obtain ⟨t, ht⟩ : ∃ t, t = os.getD i [] := ⟨_, rfl⟩
             have htl : i < os.length := by rw [HOS.out]; exact hil
             have htU : t ∈ U := HIN.out t (by
               have hmem : t ∈ os := by rw [ht, List.getD_eq_getElem?_getD, List.getElem?_eq_getElem htl]; exact List.getElem_mem htl
               rw [HOS.out] at hmem
               simp only [List.mem_cons, List.not_mem_nil, or_false] at hmem ⊢
               rcases hmem with h | h | h | h | h | h <;> simp [h])
             have hcl : wr.cell? ⟨gy3, i, none⟩ = some (St t) := by
               rw [cell_of_heap HROW.out, ht, HOS.out]
               rcases (show i = 0 ∨ i = 1 ∨ i = 2 ∨ i = 3 ∨ i = 4 ∨ i = 5 by omega) with h | h | h | h | h | h <;> subst h <;> rfl
             have HC := hid (HMM.out.learn hU (by have := HG2.out; have := HLA.out.1; omega) (by have := HBE.out.size; have := HY3S.out; omega) (i := 2) (by decide) htU (by rw [hL2]; simp [HTS.out, HOS.out]; omega))
             have HSTEP : Hid ((os.take (i + 1)).reverse = t :: (os.take i).reverse) := hid (by rw [ht]; exact take_rev _ htl)
             have HLF := hid (And.intro hL0 (And.intro hL1 hL2))
             have HC2 := HC.out
             rw [HP2.out.2.2] at HC2
             clear HC
             have HC := hid HC2
             clear HC2
             clear ht htl htU hL0 hL1 hL2
             go_wp2_with fail
             have hcc := HC.out
             refine hcc.mono ?_
             clear hcc HC hcl
             rintro _ u ⟨rfl, hms, hbA, hsz, hrw⟩
             have HM2 := hid hms
             have HB2 := hid (HBE.out.trans hbA)
             have HR2 := hid (hrw _ _ _ HROW.out (by have := HGY3.out; rw [HP2.out.2.2] at this; exact this))
             clear hms hbA hsz hrw
             go_wp2_with fail
             go_roundg (6 - (i + 1))
             case measure => omega
             case rel => exact ⟨i + 1, by omega, rfl, by go_num, put1 L 2 (t :: L 2), ⟨HLF.out.1, HLF.out.2.1, by rw [put1_same, HLF.out.2.2, HSTEP.out]; rfl⟩, HM2.out, HB2.out, HR2.out⟩
           · obtain rfl : i = 6 := by omega
             generalize hz : ((6 : Nat) : Int) = z
             obtain rfl : (6 : Int) = z := hz
             clear hi hil
             have HL4 : Hid (L 0 = ts.reverse ∧ L 1 = ss.reverse ++ ts.reverse ∧ L 2 = os.reverse ++ ts.reverse) := hid ⟨hL0, hL1, by rw [hL2, List.take_of_length_le (by rw [HOS.out]; exact Nat.le_refl _)]⟩
             have HS4 : Hid (A ≤ wr.heap.size) := hid (by have := HBE.out.size; have := HY3S.out; omega)
             have HBW4 := hid (HRy3.out.trans (HBE.out.mono HLA.out.1))
             have XS2 := hid ((HBE.out.block _ (by have := HLA.out.2; omega)).trans XS.out)
             have XO2 := hid ((HBE.out.block _ (by have := HLA.out.2; omega)).trans XO.out)
             clear hL0 hL1 hL2 XS XO XRy3 HROW HRy3 HY3S HMy3 HEy3 HGY3 HBE HL3
             have XS := XS2
             have XO := XO2
             clear XS2 XO2
             obtain ⟨w4, hw4⟩ : ∃ x, x = wr := ⟨_, rfl⟩
             rw [← hw4] at HS4 HBW4 XS XO HMM ⊢
             clear hw4
             have Ea0 := hid (fun (W : World) (hb : Below w4.heap.size w4 W) => (HMM.out.below hb).no (show 0 < 3 by decide) HLEN.out.1 (by rw [HL4.out.1]; exact Ka0.out))
             rw [HP2.out.1] at Ea0
             have Ea1 := hid (fun (W : World) (hb : Below w4.heap.size w4 W) => (HMM.out.below hb).no (show 0 < 3 by decide) HLEN.out.2.1 (by rw [HL4.out.1]; exact Ka1.out))
             rw [HP2.out.1] at Ea1
             have Ea2 := hid (fun (W : World) (hb : Below w4.heap.size w4 W) => (HMM.out.below hb).no (show 0 < 3 by decide) HLEN.out.2.2.1 (by rw [HL4.out.1]; exact Ka2.out))
             rw [HP2.out.1] at Ea2
             have Eb0 := hid (fun (W : World) (hb : Below w4.heap.size w4 W) => (HMM.out.below hb).no (show 1 < 3 by decide) HLEN.out.1 (by rw [HL4.out.2.1]; exact Kb0.out))
             rw [HP2.out.2.1] at Eb0
             have Eb1 := hid (fun (W : World) (hb : Below w4.heap.size w4 W) => (HMM.out.below hb).no (show 1 < 3 by decide) HLEN.out.2.2.1 (by rw [HL4.out.2.1]; exact Kb1.out))
             rw [HP2.out.2.1] at Eb1
             have Eb2 := hid (fun (W : World) (hb : Below w4.heap.size w4 W) => (HMM.out.below hb).yes (show 1 < 3 by decide) HLEN.out.2.1 (by rw [HL4.out.2.1]; exact Kb2.out))
             rw [HP2.out.2.1] at Eb2
             have Ec0 := hid (fun (W : World) (hb : Below w4.heap.size w4 W) => (HMM.out.below hb).no (show 2 < 3 by decide) HLEN.out.1 (by rw [HL4.out.2.2]; exact Kc0.out))
             rw [HP2.out.2.2] at Ec0
             have Ec1 := hid (fun (W : World) (hb : Below w4.heap.size w4 W) => (HMM.out.below hb).no (show 2 < 3 by decide) HLEN.out.2.1 (by rw [HL4.out.2.2]; exact Kc1.out))
             rw [HP2.out.2.2] at Ec1
             have Ec2 := hid (fun (W : World) (hb : Below w4.heap.size w4 W) => (HMM.out.below hb).yes (show 2 < 3 by decide) HLEN.out.2.2.1 (by rw [HL4.out.2.2]; exact Kc2.out))
             rw [HP2.out.2.2] at Ec2
             have Eb3 := hid (fun (W : World) (hb : Below w4.heap.size w4 W) => (HMM.out.below hb).no (show 1 < 3 by decide) HLEN.out.2.2.2.1 (by rw [HL4.out.2.1]; exact Kb3.out))
             rw [HP2.out.2.1] at Eb3
             have Ec3 := hid (fun (W : World) (hb : Below w4.heap.size w4 W) => (HMM.out.below hb).no (show 2 < 3 by decide) HLEN.out.2.2.2.2 (by rw [HL4.out.2.2]; exact Kc3.out))
             rw [HP2.out.2.2] at Ec3
             have HQ := hid (Below.refl w4.heap.size w4)
             have jXS3 : w4.cell? ⟨v1.heap.size, 3, none⟩ = some (St s3) := by rw [cell_of_heap ((HQ.out.block _ (heap_lt XS.out)).trans XS.out)]; rfl
             have ltXS : v1.heap.size < w4.heap.size := heap_lt ((HQ.out.block _ (heap_lt XS.out)).trans XS.out)
             have jXO2 : w4.cell? ⟨v1.heap.size + 1, 2, none⟩ = some (St o2) := by rw [cell_of_heap ((HQ.out.block _ (heap_lt XO.out)).trans XO.out)]; rfl
             have ltXO : v1.heap.size + 1 < w4.heap.size := heap_lt ((HQ.out.block _ (heap_lt XO.out)).trans XO.out)
             go_wp2_with fail
             clear jXS3 ltXS jXO2 ltXO
             have hcc := Ea0.out w4 HQ.out
             refine hcc.mono ?_
             clear hcc Ea0
             rintro _ k0 ⟨rfl, hb⟩
             have HQ2 := hid (HQ.out.trans (hb.mono HQ.out.size))
             clear hb HQ
             have HQ := HQ2
             clear HQ2
             have jXS3 : k0.cell? ⟨v1.heap.size, 3, none⟩ = some (St s3) := by rw [cell_of_heap ((HQ.out.block _ (heap_lt XS.out)).trans XS.out)]; rfl
             have ltXS : v1.heap.size < k0.heap.size := heap_lt ((HQ.out.block _ (heap_lt XS.out)).trans XS.out)
             have jXO2 : k0.cell? ⟨v1.heap.size + 1, 2, none⟩ = some (St o2) := by rw [cell_of_heap ((HQ.out.block _ (heap_lt XO.out)).trans XO.out)]; rfl
             have ltXO : v1.heap.size + 1 < k0.heap.size := heap_lt ((HQ.out.block _ (heap_lt XO.out)).trans XO.out)
             go_wp2_with fail
             clear jXS3 ltXS jXO2 ltXO
             have hcc := Ea1.out k0 HQ.out
             refine hcc.mono ?_
             clear hcc Ea1
             rintro _ k1 ⟨rfl, hb⟩
             have HQ2 := hid (HQ.out.trans (hb.mono HQ.out.size))
             clear hb HQ
             have HQ := HQ2
             clear HQ2
             have jXS3 : k1.cell? ⟨v1.heap.size, 3, none⟩ = some (St s3) := by rw [cell_of_heap ((HQ.out.block _ (heap_lt XS.out)).trans XS.out)]; rfl
             have ltXS : v1.heap.size < k1.heap.size := heap_lt ((HQ.out.block _ (heap_lt XS.out)).trans XS.out)
             have jXO2 : k1.cell? ⟨v1.heap.size + 1, 2, none⟩ = some (St o2) := by rw [cell_of_heap ((HQ.out.block _ (heap_lt XO.out)).trans XO.out)]; rfl
             have ltXO : v1.heap.size + 1 < k1.heap.size := heap_lt ((HQ.out.block _ (heap_lt XO.out)).trans XO.out)
             go_wp2_with fail
             clear jXS3 ltXS jXO2 ltXO
             have hcc := Ea2.out k1 HQ.out
             refine hcc.mono ?_
             clear hcc Ea2
             rintro _ k2 ⟨rfl, hb⟩
             have HQ2 := hid (HQ.out.trans (hb.mono HQ.out.size))
             clear hb HQ
             have HQ := HQ2
             clear HQ2
             have jXS3 : k2.cell? ⟨v1.heap.size, 3, none⟩ = some (St s3) := by rw [cell_of_heap ((HQ.out.block _ (heap_lt XS.out)).trans XS.out)]; rfl
             have ltXS : v1.heap.size < k2.heap.size := heap_lt ((HQ.out.block _ (heap_lt XS.out)).trans XS.out)
             have jXO2 : k2.cell? ⟨v1.heap.size + 1, 2, none⟩ = some (St o2) := by rw [cell_of_heap ((HQ.out.block _ (heap_lt XO.out)).trans XO.out)]; rfl
             have ltXO : v1.heap.size + 1 < k2.heap.size := heap_lt ((HQ.out.block _ (heap_lt XO.out)).trans XO.out)
             go_wp2_with fail
             clear jXS3 ltXS jXO2 ltXO
             have hcc := Eb0.out k2 HQ.out
             refine hcc.mono ?_
             clear hcc Eb0
             rintro _ k3 ⟨rfl, hb⟩
             have HQ2 := hid (HQ.out.trans (hb.mono HQ.out.size))
             clear hb HQ
             have HQ := HQ2
             clear HQ2
             have jXS3 : k3.cell? ⟨v1.heap.size, 3, none⟩ = some (St s3) := by rw [cell_of_heap ((HQ.out.block _ (heap_lt XS.out)).trans XS.out)]; rfl
             have ltXS : v1.heap.size < k3.heap.size := heap_lt ((HQ.out.block _ (heap_lt XS.out)).trans XS.out)
             have jXO2 : k3.cell? ⟨v1.heap.size + 1, 2, none⟩ = some (St o2) := by rw [cell_of_heap ((HQ.out.block _ (heap_lt XO.out)).trans XO.out)]; rfl
             have ltXO : v1.heap.size + 1 < k3.heap.size := heap_lt ((HQ.out.block _ (heap_lt XO.out)).trans XO.out)
             go_wp2_with fail
             clear jXS3 ltXS jXO2 ltXO
             have hcc := Eb1.out k3 HQ.out
             refine hcc.mono ?_
             clear hcc Eb1
             rintro _ k4 ⟨rfl, hb⟩
             have HQ2 := hid (HQ.out.trans (hb.mono HQ.out.size))
             clear hb HQ
             have HQ := HQ2
             clear HQ2
             have jXS3 : k4.cell? ⟨v1.heap.size, 3, none⟩ = some (St s3) := by rw [cell_of_heap ((HQ.out.block _ (heap_lt XS.out)).trans XS.out)]; rfl
             have ltXS : v1.heap.size < k4.heap.size := heap_lt ((HQ.out.block _ (heap_lt XS.out)).trans XS.out)
             have jXO2 : k4.cell? ⟨v1.heap.size + 1, 2, none⟩ = some (St o2) := by rw [cell_of_heap ((HQ.out.block _ (heap_lt XO.out)).trans XO.out)]; rfl
             have ltXO : v1.heap.size + 1 < k4.heap.size := heap_lt ((HQ.out.block _ (heap_lt XO.out)).trans XO.out)
             go_wp2_with fail
             clear jXS3 ltXS jXO2 ltXO
             have hcc := Eb2.out k4 HQ.out
             refine hcc.mono ?_
             clear hcc Eb2
             rintro _ k5 ⟨rfl, hb⟩
             have HQ2 := hid (HQ.out.trans (hb.mono HQ.out.size))
             clear hb HQ
             have HQ := HQ2
             clear HQ2
             have jXS3 : k5.cell? ⟨v1.heap.size, 3, none⟩ = some (St s3) := by rw [cell_of_heap ((HQ.out.block _ (heap_lt XS.out)).trans XS.out)]; rfl
             have ltXS : v1.heap.size < k5.heap.size := heap_lt ((HQ.out.block _ (heap_lt XS.out)).trans XS.out)
             have jXO2 : k5.cell? ⟨v1.heap.size + 1, 2, none⟩ = some (St o2) := by rw [cell_of_heap ((HQ.out.block _ (heap_lt XO.out)).trans XO.out)]; rfl
             have ltXO : v1.heap.size + 1 < k5.heap.size := heap_lt ((HQ.out.block _ (heap_lt XO.out)).trans XO.out)
             go_wp2_with fail
             clear jXS3 ltXS jXO2 ltXO
             have hcc := Ec0.out k5 HQ.out
             refine hcc.mono ?_
             clear hcc Ec0
             rintro _ k6 ⟨rfl, hb⟩
             have HQ2 := hid (HQ.out.trans (hb.mono HQ.out.size))
             clear hb HQ
             have HQ := HQ2
             clear HQ2
             have jXS3 : k6.cell? ⟨v1.heap.size, 3, none⟩ = some (St s3) := by rw [cell_of_heap ((HQ.out.block _ (heap_lt XS.out)).trans XS.out)]; rfl
             have ltXS : v1.heap.size < k6.heap.size := heap_lt ((HQ.out.block _ (heap_lt XS.out)).trans XS.out)
             have jXO2 : k6.cell? ⟨v1.heap.size + 1, 2, none⟩ = some (St o2) := by rw [cell_of_heap ((HQ.out.block _ (heap_lt XO.out)).trans XO.out)]; rfl
             have ltXO : v1.heap.size + 1 < k6.heap.size := heap_lt ((HQ.out.block _ (heap_lt XO.out)).trans XO.out)
             go_wp2_with fail
             clear jXS3 ltXS jXO2 ltXO
             have hcc := Ec1.out k6 HQ.out
             refine hcc.mono ?_
             clear hcc Ec1
             rintro _ k7 ⟨rfl, hb⟩
             have HQ2 := hid (HQ.out.trans (hb.mono HQ.out.size))
             clear hb HQ
             have HQ := HQ2
             clear HQ2
             have jXS3 : k7.cell? ⟨v1.heap.size, 3, none⟩ = some (St s3) := by rw [cell_of_heap ((HQ.out.block _ (heap_lt XS.out)).trans XS.out)]; rfl
             have ltXS : v1.heap.size < k7.heap.size := heap_lt ((HQ.out.block _ (heap_lt XS.out)).trans XS.out)
             have jXO2 : k7.cell? ⟨v1.heap.size + 1, 2, none⟩ = some (St o2) := by rw [cell_of_heap ((HQ.out.block _ (heap_lt XO.out)).trans XO.out)]; rfl
             have ltXO : v1.heap.size + 1 < k7.heap.size := heap_lt ((HQ.out.block _ (heap_lt XO.out)).trans XO.out)
             go_wp2_with fail
             clear jXS3 ltXS jXO2 ltXO
             have hcc := Ec2.out k7 HQ.out
             refine hcc.mono ?_
             clear hcc Ec2
             rintro _ k8 ⟨rfl, hb⟩
             have HQ2 := hid (HQ.out.trans (hb.mono HQ.out.size))
             clear hb HQ
             have HQ := HQ2
             clear HQ2
             have jXS3 : k8.cell? ⟨v1.heap.size, 3, none⟩ = some (St s3) := by rw [cell_of_heap ((HQ.out.block _ (heap_lt XS.out)).trans XS.out)]; rfl
             have ltXS : v1.heap.size < k8.heap.size := heap_lt ((HQ.out.block _ (heap_lt XS.out)).trans XS.out)
             have jXO2 : k8.cell? ⟨v1.heap.size + 1, 2, none⟩ = some (St o2) := by rw [cell_of_heap ((HQ.out.block _ (heap_lt XO.out)).trans XO.out)]; rfl
             have ltXO : v1.heap.size + 1 < k8.heap.size := heap_lt ((HQ.out.block _ (heap_lt XO.out)).trans XO.out)
             go_wp2_with fail
             clear jXS3 ltXS jXO2 ltXO
             have hcc := Eb3.out k8 HQ.out
             refine hcc.mono ?_
             clear hcc Eb3
             rintro _ k9 ⟨rfl, hb⟩
             have HQ2 := hid (HQ.out.trans (hb.mono HQ.out.size))
             clear hb HQ
             have HQ := HQ2
             clear HQ2
             have jXS3 : k9.cell? ⟨v1.heap.size, 3, none⟩ = some (St s3) := by rw [cell_of_heap ((HQ.out.block _ (heap_lt XS.out)).trans XS.out)]; rfl
             have ltXS : v1.heap.size < k9.heap.size := heap_lt ((HQ.out.block _ (heap_lt XS.out)).trans XS.out)
             have jXO2 : k9.cell? ⟨v1.heap.size + 1, 2, none⟩ = some (St o2) := by rw [cell_of_heap ((HQ.out.block _ (heap_lt XO.out)).trans XO.out)]; rfl
             have ltXO : v1.heap.size + 1 < k9.heap.size := heap_lt ((HQ.out.block _ (heap_lt XO.out)).trans XO.out)
             go_wp2_with fail
             clear jXS3 ltXS jXO2 ltXO
             have hcc := Ec3.out k9 HQ.out
             refine hcc.mono ?_
             clear hcc Ec3
             rintro _ k10 ⟨rfl, hb⟩
             have HQ2 := hid (HQ.out.trans (hb.mono HQ.out.size))
             clear hb HQ
             have HQ := HQ2
             clear HQ2
             have HC := hid ((HMM.out.below HQ.out).learn hU (by have := HG2.out; have := HLA.out.1; omega) (by have := HQ.out.size; have := HS4.out; omega) (i := 2) (by decide) (HIN.out sec (by simp)) (by rw [HL4.out.2.2]; simp [HTS.out, HOS.out]))
             rw [HP2.out.2.2] at HC
             have HBW5 := hid (HBW4.out.trans (HQ.out.mono HBW4.out.size))
             clear HQ HBW4 XS XO
             go_wp2_with fail
             have hcc := HC.out
             refine hcc.mono ?_
             clear hcc HC
             rintro _ e1 ⟨rfl, hms, hbA, hsz, hrw⟩
             have HBW6 := hid (HBW5.out.trans (hbA.mono HLA.out.1))
             have HL6 : Hid (put1 L 2 (sec :: L 2) 2 = sec :: (os.reverse ++ ts.reverse)) := hid (by rw [put1_same, HL4.out.2.2])
             have HM6 := hid hms
             clear hms hbA hsz hrw HBW5
             have Ed0 := hid (fun (W : World) (hb : Below e1.heap.size e1 W) => (HM6.out.below hb).yes (show 2 < 3 by decide) HLEN.out.1 (by rw [HL6.out]; exact Kd0.out))
             rw [HP2.out.2.2] at Ed0
             have Ed1 := hid (fun (W : World) (hb : Below e1.heap.size e1 W) => (HM6.out.below hb).no (show 2 < 3 by decide) HLEN.out.2.1 (by rw [HL6.out]; exact Kd1.out))
             rw [HP2.out.2.2] at Ed1
             have HQ := hid (Below.refl e1.heap.size e1)
             go_wp2_with fail
             have hcc := Ed0.out e1 HQ.out
             refine hcc.mono ?_
             clear hcc Ed0
             rintro _ e2 ⟨rfl, hb⟩
             have HQ2 := hid (HQ.out.trans (hb.mono HQ.out.size))
             clear hb HQ
             go_wp2_with fail
             have hcc := Ed1.out e2 HQ2.out
             refine hcc.mono ?_
             clear hcc Ed1
             rintro _ e3 ⟨rfl, hb⟩
             have HQ := hid (HQ2.out.trans (hb.mono HQ2.out.size))
             clear hb HQ2
             have HBW7 := hid (HBW6.out.trans (HQ.out.mono HBW6.out.size))
             go_wp2_with fail
             have hcc := HW.out e3 HBW7.out
             refine hcc.mono ?_
             clear hcc HW
             rintro _ e4 ⟨rfl, hb⟩
             have HB8 := hid (HBW7.out.trans (hb.mono HBW7.out.size))
             clear hb
             go_wp2_with fail
             go_ret
             exact ⟨rfl, HB8.out⟩
end Go.Proofs.YtkifchjpgdmcoaaGreatDoor
