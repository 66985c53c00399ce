/- KeysFit. -/
import Derived.Test.YtkifchjpgdmcoaaGreatDoorKyX
import Derived.Test.YtkifchjpgdmcoaaGreatDoorKyL
namespace Go.Proofs.YtkifchjpgdmcoaaGreatDoor
open Go.RowKit
theorem and_mask (n : Int) : 0 ≤ bits .and .i64 n 1048575 ∧ bits .and .i64 n 1048575 ≤ 1048575 := by
 have h2 : (BitVec.ofInt 64 (1048575 : Int)).toNat = 1048575 := by decide
 change 0 ≤ IntKind.i64.wrap ((BitVec.ofInt 64 n &&& BitVec.ofInt 64 (1048575 : Int)).toNat : Int) ∧ IntKind.i64.wrap ((BitVec.ofInt 64 n &&& BitVec.ofInt 64 (1048575 : Int)).toNat : Int) ≤ 1048575
 rw [BitVec.toNat_and, h2, IntKind.wrap_i64]
 have : (BitVec.ofInt 64 n).toNat &&& 1048575 ≤ 1048575 := Nat.and_le_right
 omega
set_option maxHeartbeats 1000000 in
theorem fit_neg (a b n : Int) (h : a < 0 ∨ b < 0) (w : World) : Calls Tryz.prog 18 #[.int .i64 a, .int .i64 b, .int .i64 n] w fun e w' => e = .returned (.bool true) ∧ Below w.heap.size w w' := by
 by_cases ha : a < 0
 · clear h
   go_enter Tryz.func18, Tryz.ntmps18
   go_wp2_with fail
   go_ret
   exact ⟨rfl, Below.refl _ _⟩
 · have hb : b < 0 := by omega
   clear h
   go_enter Tryz.func18, Tryz.ntmps18
   go_wp2_with fail
   go_ret
   exact ⟨rfl, Below.refl _ _⟩
set_option maxHeartbeats 4000000 in
set_option maxRecDepth 100000 in
theorem fit_core {a b n m : Int} {sec pt l1 l2 l3 l4 : Bs} {s0 s1 s2 s3 s4 s5 o0 o1 o2 o3 o4 o5 t0 t1 t2 t3 t4 : Bs} (ha : ¬ a < 0) (hb : ¬ b < 0) (hm : bits .and .i64 n 1048575 = m) (h0 : 0 ≤ m) (h1 : m ≤ 1048575) (w : World)
   (H1 : ∀ W, Below w.heap.size w W → Calls Tryz.prog 5 #[.int .i64 a, .int .i64 b, .int .i64 m] W fun e w' => e = .returned (.tuple #[.agg #[St s0, St s1, St s2, St s3, St s4, St s5], .agg #[St o0, St o1, St o2, St o3, St o4, St o5], .agg #[St t0, St t1, St t2, St t3, St t4], St sec, .bool true]) ∧ Below W.heap.size W w')
   (hpt : pntRes s5 m = (pt, 0)) (b1 : bRes 75 [] [s3, pt] = (l1, 0)) (b2 : bRes 75 [] [s4, pt] = (l2, 0)) (b3 : bRes 75 [] [o4, pt] = (l3, 0)) (b4 : bRes 86 [] [o1, sec] = (l4, 0))
   (p1 : pubRes l1 = (t1, 0)) (p2 : pubRes l2 = (t2, 0)) (p3 : pubRes l3 = (t3, 0)) (p4 : pubRes l4 = (t0, 0)) (p5 : pubRes o2 = (t4, 0)) (hp : Pw w) (hl : Lb w) :
   Calls Tryz.prog 18 #[.int .i64 a, .int .i64 b, .int .i64 n] w fun e w' => e = .returned (.bool true) ∧ Below w.heap.size w w' := by
 have C1 := hid H1
 have C2 := hid (fun (W : World) (hb : Below w.heap.size w W) => point_any ⟨s0, s1, s2, s3, s4, s5⟩ m (by omega) (by omega) W (hp.below hb))
 rw [show (S6.s ⟨s0, s1, s2, s3, s4, s5⟩) = s5 from rfl, hpt] at C2
 unfold S6.v at C2
 dsimp only at C2
 have C3 := hid (fun (W : World) (_ : Below w.heap.size w W) => bindk_any s3 pt W)
 rw [b1] at C3
 have C4 := hid (fun (W : World) (_ : Below w.heap.size w W) => bindk_any s4 pt W)
 rw [b2] at C4
 have C5 := hid (fun (W : World) (_ : Below w.heap.size w W) => bindk_any o4 pt W)
 rw [b3] at C5
 have C6 := hid (fun (W : World) (_ : Below w.heap.size w W) => revoke_any o1 sec W)
 rw [b4] at C6
 have D0 := hid (fun (W : World) => pubs_any l1 W)
 rw [p1] at D0
 have D1 := hid (fun (W : World) => pubs_any l2 W)
 rw [p2] at D1
 have D2 := hid (fun (W : World) => pubs_any l3 W)
 rw [p3] at D2
 have D3 := hid (fun (W : World) => pubs_any l4 W)
 rw [p4] at D3
 have D4 := hid (fun (W : World) => pubs_any o2 W)
 rw [p5] at D4
 have HW := hid (fun (W : World) (hb : Below w.heap.size w W) => works_any W (hp.below hb) (hl.below hb))
 clear H1 hpt b1 b2 b3 b4 p1 p2 p3 p4 p5 hp hl h0 h1
 have HB0 := hid (Below.refl w.heap.size w)
 have HR := hid (Below.refl w.heap.size w)
 go_enter Tryz.func18, Tryz.ntmps18
 go_wp2_with fail
 skip
 have hcc := C1.out w HR.out
 refine hcc.mono ?_
 clear hcc C1
 rintro _ v1 ⟨rfl, hb⟩
 have HR1 := hid hb
 clear hb HR
 obtain ⟨x0, hx0⟩ : ∃ b, b = v1.alloc (.cells #[St s0, St s1, St s2, St s3, St s4, St s5] 24) := ⟨_, rfl⟩
 have l0' : Below v1.heap.size v1 x0 := by rw [hx0]; exact bel_alloc v1 _
 have z0 : x0.heap.size = v1.heap.size + 1 := by rw [hx0]; simp
 obtain ⟨x1, hx1⟩ : ∃ b, b = x0.alloc (.cells #[St o0, St o1, St o2, St o3, St o4, St o5] 24) := ⟨_, rfl⟩
 have l1' : Below x0.heap.size x0 x1 := by rw [hx1]; exact bel_alloc x0 _
 have z1 : x1.heap.size = v1.heap.size + 2 := by rw [hx1]; simp [z0]
 obtain ⟨x2, hx2⟩ : ∃ b, b = x1.alloc (.cells #[St t0, St t1, St t2, St t3, St t4] 26) := ⟨_, rfl⟩
 have l2' : Below x1.heap.size x1 x2 := by rw [hx2]; exact bel_alloc x1 _
 have z2 : x2.heap.size = v1.heap.size + 3 := by rw [hx2]; simp [z1]
 have XS : Hid (x2.heap[v1.heap.size]? = some (.cells #[St s0, St s1, St s2, St s3, St s4, St s5] 24 (0, 0))) := hid ((l2'.block _ (by omega)).trans ((l1'.block _ (by omega)).trans (by rw [hx0]; exact heap_alloc_new v1 _)))
 have XO : Hid (x2.heap[v1.heap.size + 1]? = some (.cells #[St o0, St o1, St o2, St o3, St o4, St o5] 24 (0, 0))) := hid ((l2'.block _ (by omega)).trans (by rw [hx1, ← z0]; exact heap_alloc_new x0 _))
 have XT : Hid (x2.heap[v1.heap.size + 2]? = some (.cells #[St t0, St t1, St t2, St t3, St t4] 26 (0, 0))) := hid (by rw [hx2, ← z1]; exact heap_alloc_new x1 _)
 have HR : Hid (Below w.heap.size w x2) := hid (HR1.out.trans (((l0'.trans (l1'.mono (by omega))).trans (l2'.mono (by omega))).mono HR1.out.size))
 have HE : Hid (x2 = ((v1.alloc (.cells #[St s0, St s1, St s2, St s3, St s4, St s5] 24)).alloc (.cells #[St o0, St o1, St o2, St o3, St o4, St o5] 24)).alloc (.cells #[St t0, St t1, St t2, St t3, St t4] 26)) := hid (by rw [hx2, hx1, hx0])
 clear l0' l1' l2' z0 z1 z2 hx0 hx1 hx2 HR1
 go_wp2_with fail
 have hcc := C2.out x2 (HB0.out.trans (HR.out.mono HB0.out.size))
 rw [HE.out] at hcc
 refine hcc.mono ?_
 clear hcc C2
 rintro _ v2 ⟨rfl, hb⟩
 rw [← HE.out] at hb
 have HR2 := hid (HR.out.trans (hb.mono HR.out.size))
 replace XS := hid ((hb.block _ (heap_lt XS.out)).trans XS.out)
 replace XO := hid ((hb.block _ (heap_lt XO.out)).trans XO.out)
 replace XT := hid ((hb.block _ (heap_lt XT.out)).trans XT.out)
 clear hb HR HE
 have HR := HR2
 clear HR2
 have jXS0 : v2.cell? ⟨v1.heap.size, 0, none⟩ = some (St s0) := by rw [cell_of_heap XS.out]; rfl
 have jXS1 : v2.cell? ⟨v1.heap.size, 1, none⟩ = some (St s1) := by rw [cell_of_heap XS.out]; rfl
 have jXS2 : v2.cell? ⟨v1.heap.size, 2, none⟩ = some (St s2) := by rw [cell_of_heap XS.out]; rfl
 have jXS3 : v2.cell? ⟨v1.heap.size, 3, none⟩ = some (St s3) := by rw [cell_of_heap XS.out]; rfl
 have jXS4 : v2.cell? ⟨v1.heap.size, 4, none⟩ = some (St s4) := by rw [cell_of_heap XS.out]; rfl
 have jXS5 : v2.cell? ⟨v1.heap.size, 5, none⟩ = some (St s5) := by rw [cell_of_heap XS.out]; rfl
 have ltXS : v1.heap.size < v2.heap.size := heap_lt XS.out
 have jXO0 : v2.cell? ⟨v1.heap.size + 1, 0, none⟩ = some (St o0) := by rw [cell_of_heap XO.out]; rfl
 have jXO1 : v2.cell? ⟨v1.heap.size + 1, 1, none⟩ = some (St o1) := by rw [cell_of_heap XO.out]; rfl
 have jXO2 : v2.cell? ⟨v1.heap.size + 1, 2, none⟩ = some (St o2) := by rw [cell_of_heap XO.out]; rfl
 have jXO3 : v2.cell? ⟨v1.heap.size + 1, 3, none⟩ = some (St o3) := by rw [cell_of_heap XO.out]; rfl
 have jXO4 : v2.cell? ⟨v1.heap.size + 1, 4, none⟩ = some (St o4) := by rw [cell_of_heap XO.out]; rfl
 have jXO5 : v2.cell? ⟨v1.heap.size + 1, 5, none⟩ = some (St o5) := by rw [cell_of_heap XO.out]; rfl
 have ltXO : v1.heap.size + 1 < v2.heap.size := heap_lt XO.out
 have jXT0 : v2.cell? ⟨v1.heap.size + 2, 0, none⟩ = some (St t0) := by rw [cell_of_heap XT.out]; rfl
 have jXT1 : v2.cell? ⟨v1.heap.size + 2, 1, none⟩ = some (St t1) := by rw [cell_of_heap XT.out]; rfl
 have jXT2 : v2.cell? ⟨v1.heap.size + 2, 2, none⟩ = some (St t2) := by rw [cell_of_heap XT.out]; rfl
 have jXT3 : v2.cell? ⟨v1.heap.size + 2, 3, none⟩ = some (St t3) := by rw [cell_of_heap XT.out]; rfl
 have jXT4 : v2.cell? ⟨v1.heap.size + 2, 4, none⟩ = some (St t4) := by rw [cell_of_heap XT.out]; rfl
 have ltXT : v1.heap.size + 2 < v2.heap.size := heap_lt XT.out
 go_wp2_with fail
 clear jXS0 jXS1 jXS2 jXS3 jXS4 jXS5 ltXS jXO0 jXO1 jXO2 jXO3 jXO4 jXO5 ltXO jXT0 jXT1 jXT2 jXT3 jXT4 ltXT
 have hcc := C3.out v2 (HB0.out.trans (HR.out.mono HB0.out.size))
 refine hcc.mono ?_
 clear hcc C3
 rintro _ v3 ⟨rfl, hb⟩
 have HR2 := hid (HR.out.trans (hb.mono HR.out.size))
 replace XS := hid ((hb.block _ (heap_lt XS.out)).trans XS.out)
 replace XO := hid ((hb.block _ (heap_lt XO.out)).trans XO.out)
 replace XT := hid ((hb.block _ (heap_lt XT.out)).trans XT.out)
 clear hb HR
 have HR := HR2
 clear HR2
 have jXS0 : v3.cell? ⟨v1.heap.size, 0, none⟩ = some (St s0) := by rw [cell_of_heap XS.out]; rfl
 have jXS1 : v3.cell? ⟨v1.heap.size, 1, none⟩ = some (St s1) := by rw [cell_of_heap XS.out]; rfl
 have jXS2 : v3.cell? ⟨v1.heap.size, 2, none⟩ = some (St s2) := by rw [cell_of_heap XS.out]; rfl
 have jXS3 : v3.cell? ⟨v1.heap.size, 3, none⟩ = some (St s3) := by rw [cell_of_heap XS.out]; rfl
 have jXS4 : v3.cell? ⟨v1.heap.size, 4, none⟩ = some (St s4) := by rw [cell_of_heap XS.out]; rfl
 have jXS5 : v3.cell? ⟨v1.heap.size, 5, none⟩ = some (St s5) := by rw [cell_of_heap XS.out]; rfl
 have ltXS : v1.heap.size < v3.heap.size := heap_lt XS.out
 have jXO0 : v3.cell? ⟨v1.heap.size + 1, 0, none⟩ = some (St o0) := by rw [cell_of_heap XO.out]; rfl
 have jXO1 : v3.cell? ⟨v1.heap.size + 1, 1, none⟩ = some (St o1) := by rw [cell_of_heap XO.out]; rfl
 have jXO2 : v3.cell? ⟨v1.heap.size + 1, 2, none⟩ = some (St o2) := by rw [cell_of_heap XO.out]; rfl
 have jXO3 : v3.cell? ⟨v1.heap.size + 1, 3, none⟩ = some (St o3) := by rw [cell_of_heap XO.out]; rfl
 have jXO4 : v3.cell? ⟨v1.heap.size + 1, 4, none⟩ = some (St o4) := by rw [cell_of_heap XO.out]; rfl
 have jXO5 : v3.cell? ⟨v1.heap.size + 1, 5, none⟩ = some (St o5) := by rw [cell_of_heap XO.out]; rfl
 have ltXO : v1.heap.size + 1 < v3.heap.size := heap_lt XO.out
 have jXT0 : v3.cell? ⟨v1.heap.size + 2, 0, none⟩ = some (St t0) := by rw [cell_of_heap XT.out]; rfl
 have jXT1 : v3.cell? ⟨v1.heap.size + 2, 1, none⟩ = some (St t1) := by rw [cell_of_heap XT.out]; rfl
 have jXT2 : v3.cell? ⟨v1.heap.size + 2, 2, none⟩ = some (St t2) := by rw [cell_of_heap XT.out]; rfl
 have jXT3 : v3.cell? ⟨v1.heap.size + 2, 3, none⟩ = some (St t3) := by rw [cell_of_heap XT.out]; rfl
 have jXT4 : v3.cell? ⟨v1.heap.size + 2, 4, none⟩ = some (St t4) := by rw [cell_of_heap XT.out]; rfl
 have ltXT : v1.heap.size + 2 < v3.heap.size := heap_lt XT.out
 go_wp2_with fail
 clear jXS0 jXS1 jXS2 jXS3 jXS4 jXS5 ltXS jXO0 jXO1 jXO2 jXO3 jXO4 jXO5 ltXO jXT0 jXT1 jXT2 jXT3 jXT4 ltXT
 have hcc := C4.out v3 (HB0.out.trans (HR.out.mono HB0.out.size))
 refine hcc.mono ?_
 clear hcc C4
 rintro _ v4 ⟨rfl, hb⟩
 have HR2 := hid (HR.out.trans (hb.mono HR.out.size))
 replace XS := hid ((hb.block _ (heap_lt XS.out)).trans XS.out)
 replace XO := hid ((hb.block _ (heap_lt XO.out)).trans XO.out)
 replace XT := hid ((hb.block _ (heap_lt XT.out)).trans XT.out)
 clear hb HR
 have HR := HR2
 clear HR2
 have jXS0 : v4.cell? ⟨v1.heap.size, 0, none⟩ = some (St s0) := by rw [cell_of_heap XS.out]; rfl
 have jXS1 : v4.cell? ⟨v1.heap.size, 1, none⟩ = some (St s1) := by rw [cell_of_heap XS.out]; rfl
 have jXS2 : v4.cell? ⟨v1.heap.size, 2, none⟩ = some (St s2) := by rw [cell_of_heap XS.out]; rfl
 have jXS3 : v4.cell? ⟨v1.heap.size, 3, none⟩ = some (St s3) := by rw [cell_of_heap XS.out]; rfl
 have jXS4 : v4.cell? ⟨v1.heap.size, 4, none⟩ = some (St s4) := by rw [cell_of_heap XS.out]; rfl
 have jXS5 : v4.cell? ⟨v1.heap.size, 5, none⟩ = some (St s5) := by rw [cell_of_heap XS.out]; rfl
 have ltXS : v1.heap.size < v4.heap.size := heap_lt XS.out
 have jXO0 : v4.cell? ⟨v1.heap.size + 1, 0, none⟩ = some (St o0) := by rw [cell_of_heap XO.out]; rfl
 have jXO1 : v4.cell? ⟨v1.heap.size + 1, 1, none⟩ = some (St o1) := by rw [cell_of_heap XO.out]; rfl
 have jXO2 : v4.cell? ⟨v1.heap.size + 1, 2, none⟩ = some (St o2) := by rw [cell_of_heap XO.out]; rfl
 have jXO3 : v4.cell? ⟨v1.heap.size + 1, 3, none⟩ = some (St o3) := by rw [cell_of_heap XO.out]; rfl
 have jXO4 : v4.cell? ⟨v1.heap.size + 1, 4, none⟩ = some (St o4) := by rw [cell_of_heap XO.out]; rfl
 have jXO5 : v4.cell? ⟨v1.heap.size + 1, 5, none⟩ = some (St o5) := by rw [cell_of_heap XO.out]; rfl
 have ltXO : v1.heap.size + 1 < v4.heap.size := heap_lt XO.out
 have jXT0 : v4.cell? ⟨v1.heap.size + 2, 0, none⟩ = some (St t0) := by rw [cell_of_heap XT.out]; rfl
 have jXT1 : v4.cell? ⟨v1.heap.size + 2, 1, none⟩ = some (St t1) := by rw [cell_of_heap XT.out]; rfl
 have jXT2 : v4.cell? ⟨v1.heap.size + 2, 2, none⟩ = some (St t2) := by rw [cell_of_heap XT.out]; rfl
 have jXT3 : v4.cell? ⟨v1.heap.size + 2, 3, none⟩ = some (St t3) := by rw [cell_of_heap XT.out]; rfl
 have jXT4 : v4.cell? ⟨v1.heap.size + 2, 4, none⟩ = some (St t4) := by rw [cell_of_heap XT.out]; rfl
 have ltXT : v1.heap.size + 2 < v4.heap.size := heap_lt XT.out
 go_wp2_with fail
 clear jXS0 jXS1 jXS2 jXS3 jXS4 jXS5 ltXS jXO0 jXO1 jXO2 jXO3 jXO4 jXO5 ltXO jXT0 jXT1 jXT2 jXT3 jXT4 ltXT
 have hcc := C5.out v4 (HB0.out.trans (HR.out.mono HB0.out.size))
 refine hcc.mono ?_
 clear hcc C5
 rintro _ v5 ⟨rfl, hb⟩
 have HR2 := hid (HR.out.trans (hb.mono HR.out.size))
 replace XS := hid ((hb.block _ (heap_lt XS.out)).trans XS.out)
 replace XO := hid ((hb.block _ (heap_lt XO.out)).trans XO.out)
 replace XT := hid ((hb.block _ (heap_lt XT.out)).trans XT.out)
 clear hb HR
 have HR := HR2
 clear HR2
 have jXS0 : v5.cell? ⟨v1.heap.size, 0, none⟩ = some (St s0) := by rw [cell_of_heap XS.out]; rfl
 have jXS1 : v5.cell? ⟨v1.heap.size, 1, none⟩ = some (St s1) := by rw [cell_of_heap XS.out]; rfl
 have jXS2 : v5.cell? ⟨v1.heap.size, 2, none⟩ = some (St s2) := by rw [cell_of_heap XS.out]; rfl
 have jXS3 : v5.cell? ⟨v1.heap.size, 3, none⟩ = some (St s3) := by rw [cell_of_heap XS.out]; rfl
 have jXS4 : v5.cell? ⟨v1.heap.size, 4, none⟩ = some (St s4) := by rw [cell_of_heap XS.out]; rfl
 have jXS5 : v5.cell? ⟨v1.heap.size, 5, none⟩ = some (St s5) := by rw [cell_of_heap XS.out]; rfl
 have ltXS : v1.heap.size < v5.heap.size := heap_lt XS.out
 have jXO0 : v5.cell? ⟨v1.heap.size + 1, 0, none⟩ = some (St o0) := by rw [cell_of_heap XO.out]; rfl
 have jXO1 : v5.cell? ⟨v1.heap.size + 1, 1, none⟩ = some (St o1) := by rw [cell_of_heap XO.out]; rfl
 have jXO2 : v5.cell? ⟨v1.heap.size + 1, 2, none⟩ = some (St o2) := by rw [cell_of_heap XO.out]; rfl
 have jXO3 : v5.cell? ⟨v1.heap.size + 1, 3, none⟩ = some (St o3) := by rw [cell_of_heap XO.out]; rfl
 have jXO4 : v5.cell? ⟨v1.heap.size + 1, 4, none⟩ = some (St o4) := by rw [cell_of_heap XO.out]; rfl
 have jXO5 : v5.cell? ⟨v1.heap.size + 1, 5, none⟩ = some (St o5) := by rw [cell_of_heap XO.out]; rfl
 have ltXO : v1.heap.size + 1 < v5.heap.size := heap_lt XO.out
 have jXT0 : v5.cell? ⟨v1.heap.size + 2, 0, none⟩ = some (St t0) := by rw [cell_of_heap XT.out]; rfl
 have jXT1 : v5.cell? ⟨v1.heap.size + 2, 1, none⟩ = some (St t1) := by rw [cell_of_heap XT.out]; rfl
 have jXT2 : v5.cell? ⟨v1.heap.size + 2, 2, none⟩ = some (St t2) := by rw [cell_of_heap XT.out]; rfl
 have jXT3 : v5.cell? ⟨v1.heap.size + 2, 3, none⟩ = some (St t3) := by rw [cell_of_heap XT.out]; rfl
 have jXT4 : v5.cell? ⟨v1.heap.size + 2, 4, none⟩ = some (St t4) := by rw [cell_of_heap XT.out]; rfl
 have ltXT : v1.heap.size + 2 < v5.heap.size := heap_lt XT.out
 go_wp2_with fail
 clear jXS0 jXS1 jXS2 jXS3 jXS4 jXS5 ltXS jXO0 jXO1 jXO2 jXO3 jXO4 jXO5 ltXO jXT0 jXT1 jXT2 jXT3 jXT4 ltXT
 have hcc := C6.out v5 (HB0.out.trans (HR.out.mono HB0.out.size))
 refine hcc.mono ?_
 clear hcc C6
 rintro _ v6 ⟨rfl, hb⟩
 have HR2 := hid (HR.out.trans (hb.mono HR.out.size))
 replace XS := hid ((hb.block _ (heap_lt XS.out)).trans XS.out)
 replace XO := hid ((hb.block _ (heap_lt XO.out)).trans XO.out)
 replace XT := hid ((hb.block _ (heap_lt XT.out)).trans XT.out)
 clear hb HR
 have HR := HR2
 clear HR2
 have jXS0 : v6.cell? ⟨v1.heap.size, 0, none⟩ = some (St s0) := by rw [cell_of_heap XS.out]; rfl
 have jXS1 : v6.cell? ⟨v1.heap.size, 1, none⟩ = some (St s1) := by rw [cell_of_heap XS.out]; rfl
 have jXS2 : v6.cell? ⟨v1.heap.size, 2, none⟩ = some (St s2) := by rw [cell_of_heap XS.out]; rfl
 have jXS3 : v6.cell? ⟨v1.heap.size, 3, none⟩ = some (St s3) := by rw [cell_of_heap XS.out]; rfl
 have jXS4 : v6.cell? ⟨v1.heap.size, 4, none⟩ = some (St s4) := by rw [cell_of_heap XS.out]; rfl
 have jXS5 : v6.cell? ⟨v1.heap.size, 5, none⟩ = some (St s5) := by rw [cell_of_heap XS.out]; rfl
 have ltXS : v1.heap.size < v6.heap.size := heap_lt XS.out
 have jXO0 : v6.cell? ⟨v1.heap.size + 1, 0, none⟩ = some (St o0) := by rw [cell_of_heap XO.out]; rfl
 have jXO1 : v6.cell? ⟨v1.heap.size + 1, 1, none⟩ = some (St o1) := by rw [cell_of_heap XO.out]; rfl
 have jXO2 : v6.cell? ⟨v1.heap.size + 1, 2, none⟩ = some (St o2) := by rw [cell_of_heap XO.out]; rfl
 have jXO3 : v6.cell? ⟨v1.heap.size + 1, 3, none⟩ = some (St o3) := by rw [cell_of_heap XO.out]; rfl
 have jXO4 : v6.cell? ⟨v1.heap.size + 1, 4, none⟩ = some (St o4) := by rw [cell_of_heap XO.out]; rfl
 have jXO5 : v6.cell? ⟨v1.heap.size + 1, 5, none⟩ = some (St o5) := by rw [cell_of_heap XO.out]; rfl
 have ltXO : v1.heap.size + 1 < v6.heap.size := heap_lt XO.out
 have jXT0 : v6.cell? ⟨v1.heap.size + 2, 0, none⟩ = some (St t0) := by rw [cell_of_heap XT.out]; rfl
 have jXT1 : v6.cell? ⟨v1.heap.size + 2, 1, none⟩ = some (St t1) := by rw [cell_of_heap XT.out]; rfl
 have jXT2 : v6.cell? ⟨v1.heap.size + 2, 2, none⟩ = some (St t2) := by rw [cell_of_heap XT.out]; rfl
 have jXT3 : v6.cell? ⟨v1.heap.size + 2, 3, none⟩ = some (St t3) := by rw [cell_of_heap XT.out]; rfl
 have jXT4 : v6.cell? ⟨v1.heap.size + 2, 4, none⟩ = some (St t4) := by rw [cell_of_heap XT.out]; rfl
 have ltXT : v1.heap.size + 2 < v6.heap.size := heap_lt XT.out
 go_wp2_with fail
 clear jXS0 jXS1 jXS2 jXS3 jXS4 jXS5 ltXS jXO0 jXO1 jXO2 jXO3 jXO4 jXO5 ltXO jXT0 jXT1 jXT2 jXT3 jXT4 ltXT
 obtain ⟨x0, hx0⟩ : ∃ b, b = v6.alloc (.cells #[St l1, St l2, St l3, St l4, St o2] 22) := ⟨_, rfl⟩
 have l0' : Below v6.heap.size v6 x0 := by rw [hx0]; exact bel_alloc v6 _
 have z0 : x0.heap.size = v6.heap.size + 1 := by rw [hx0]; simp
 obtain ⟨x1, hx1⟩ : ∃ b, b = x0.alloc (.cells #[St t1, St t2, St t3, St t0, St t4] 22) := ⟨_, rfl⟩
 have l1' : Below x0.heap.size x0 x1 := by rw [hx1]; exact bel_alloc x0 _
 have z1 : x1.heap.size = v6.heap.size + 2 := by rw [hx1]; simp [z0]
 obtain ⟨x2, hx2⟩ : ∃ b, b = x1.alloc (.cells #[.int .i64 0, .int .i64 0, .int .i64 0, .int .i64 0, .int .i64 0] 29) := ⟨_, rfl⟩
 have l2' : Below x1.heap.size x1 x2 := by rw [hx2]; exact bel_alloc x1 _
 have z2 : x2.heap.size = v6.heap.size + 3 := by rw [hx2]; simp [z1]
 have XH : Hid (x2.heap[v6.heap.size]? = some (.cells #[St l1, St l2, St l3, St l4, St o2] 22 (0, 0))) := hid ((l2'.block _ (by omega)).trans ((l1'.block _ (by omega)).trans (by rw [hx0]; exact heap_alloc_new v6 _)))
 have XW : Hid (x2.heap[v6.heap.size + 1]? = some (.cells #[St t1, St t2, St t3, St t0, St t4] 22 (0, 0))) := hid ((l2'.block _ (by omega)).trans (by rw [hx1, ← z0]; exact heap_alloc_new x0 _))
 have XE : Hid (x2.heap[v6.heap.size + 2]? = some (.cells #[.int .i64 0, .int .i64 0, .int .i64 0, .int .i64 0, .int .i64 0] 29 (0, 0))) := hid (by rw [hx2, ← z1]; exact heap_alloc_new x1 _)
 have HRX : Hid (Below w.heap.size w x2) := hid (HR.out.trans (((l0'.trans (l1'.mono (by omega))).trans (l2'.mono (by omega))).mono HR.out.size))
 have HX : Hid (x2 = ((v6.alloc (.cells #[St l1, St l2, St l3, St l4, St o2] 22)).alloc (.cells #[St t1, St t2, St t3, St t0, St t4] 22)).alloc (.cells #[.int .i64 0, .int .i64 0, .int .i64 0, .int .i64 0, .int .i64 0] 29)) := hid (by rw [hx2, hx1, hx0])
 clear l0' l1' l2' z0 z1 z2 hx0 hx1 hx2 XS XO XT
 obtain ⟨hg, hhg⟩ : ∃ r, r = v6.heap.size := ⟨_, rfl⟩
 rw [← hhg] at XH XW XE ⊢
 have HHG := hid hhg
 clear hhg
 go_loopg [110] 5 (fun gg v110 wr => ∃ i : Nat, i ≤ 5 ∧ gg = 5 - i ∧ v110 = .int .i64 (i : Int) ∧ Below x2.heap.size x2 wr)
 case atStart => exact ⟨0, by omega, by omega, rfl, by rw [HX.out]; exact Below.refl _ _⟩
 case round =>
   obtain ⟨i, hi, rfl, rfl, hbel⟩ := hrel
   have HBE := hid hbel
   clear hbel
   by_cases hil : i < 5
   · rcases (show i = 0 ∨ i = 1 ∨ i = 2 ∨ i = 3 ∨ i = 4 by omega) with h | h | h | h | h
     · obtain rfl : i = 0 := by omega
       generalize hz : ((0 : Nat) : Int) = z
       obtain rfl : (0 : Int) = z := hz
       have HCE := hid (fun (W : World) (hb : Below wr.heap.size wr W) => (⟨by rw [cell_of_heap ((hb.block _ (heap_lt ((HBE.out.block _ (heap_lt XH.out)).trans XH.out))).trans ((HBE.out.block _ (heap_lt XH.out)).trans XH.out))]; rfl, by rw [cell_of_heap ((hb.block _ (heap_lt ((HBE.out.block _ (heap_lt XW.out)).trans XW.out))).trans ((HBE.out.block _ (heap_lt XW.out)).trans XW.out))]; rfl, by rw [cell_of_heap ((hb.block _ (heap_lt ((HBE.out.block _ (heap_lt XE.out)).trans XE.out))).trans ((HBE.out.block _ (heap_lt XE.out)).trans XE.out))]; rfl⟩ : W.cell? ⟨hg, 0, none⟩ = some (St l1) ∧ W.cell? ⟨hg + 1, 0, none⟩ = some (St t1) ∧ W.cell? ⟨hg + 2, 0, none⟩ = some (.int .i64 0)))
       obtain ⟨k1, k2, k3⟩ := HCE.out wr (Below.refl _ _)
       clear hi hil
       go_wp2_with fail
       refine (D0.out wr).mono ?_
       rintro _ u1 ⟨rfl, hb⟩
       have HU := hid (HBE.out.trans (hb.mono HBE.out.size))
       clear k1 k2 k3
       obtain ⟨k1, k2, k3⟩ := HCE.out u1 hb
       clear hb
       go_wp2_with fail
       go_roundg (5 - (0 + 1))
       case measure => omega
       case rel => exact ⟨0 + 1, by omega, rfl, rfl, HU.out⟩
     · obtain rfl : i = 1 := by omega
       generalize hz : ((1 : Nat) : Int) = z
       obtain rfl : (1 : Int) = z := hz
       have HCE := hid (fun (W : World) (hb : Below wr.heap.size wr W) => (⟨by rw [cell_of_heap ((hb.block _ (heap_lt ((HBE.out.block _ (heap_lt XH.out)).trans XH.out))).trans ((HBE.out.block _ (heap_lt XH.out)).trans XH.out))]; rfl, by rw [cell_of_heap ((hb.block _ (heap_lt ((HBE.out.block _ (heap_lt XW.out)).trans XW.out))).trans ((HBE.out.block _ (heap_lt XW.out)).trans XW.out))]; rfl, by rw [cell_of_heap ((hb.block _ (heap_lt ((HBE.out.block _ (heap_lt XE.out)).trans XE.out))).trans ((HBE.out.block _ (heap_lt XE.out)).trans XE.out))]; rfl⟩ : W.cell? ⟨hg, 1, none⟩ = some (St l2) ∧ W.cell? ⟨hg + 1, 1, none⟩ = some (St t2) ∧ W.cell? ⟨hg + 2, 1, none⟩ = some (.int .i64 0)))
       obtain ⟨k1, k2, k3⟩ := HCE.out wr (Below.refl _ _)
       clear hi hil
       go_wp2_with fail
       refine (D1.out wr).mono ?_
       rintro _ u1 ⟨rfl, hb⟩
       have HU := hid (HBE.out.trans (hb.mono HBE.out.size))
       clear k1 k2 k3
       obtain ⟨k1, k2, k3⟩ := HCE.out u1 hb
       clear hb
       go_wp2_with fail
       go_roundg (5 - (1 + 1))
       case measure => omega
       case rel => exact ⟨1 + 1, by omega, rfl, rfl, HU.out⟩
     · obtain rfl : i = 2 := by omega
       generalize hz : ((2 : Nat) : Int) = z
       obtain rfl : (2 : Int) = z := hz
       have HCE := hid (fun (W : World) (hb : Below wr.heap.size wr W) => (⟨by rw [cell_of_heap ((hb.block _ (heap_lt ((HBE.out.block _ (heap_lt XH.out)).trans XH.out))).trans ((HBE.out.block _ (heap_lt XH.out)).trans XH.out))]; rfl, by rw [cell_of_heap ((hb.block _ (heap_lt ((HBE.out.block _ (heap_lt XW.out)).trans XW.out))).trans ((HBE.out.block _ (heap_lt XW.out)).trans XW.out))]; rfl, by rw [cell_of_heap ((hb.block _ (heap_lt ((HBE.out.block _ (heap_lt XE.out)).trans XE.out))).trans ((HBE.out.block _ (heap_lt XE.out)).trans XE.out))]; rfl⟩ : W.cell? ⟨hg, 2, none⟩ = some (St l3) ∧ W.cell? ⟨hg + 1, 2, none⟩ = some (St t3) ∧ W.cell? ⟨hg + 2, 2, none⟩ = some (.int .i64 0)))
       obtain ⟨k1, k2, k3⟩ := HCE.out wr (Below.refl _ _)
       clear hi hil
       go_wp2_with fail
       refine (D2.out wr).mono ?_
       rintro _ u1 ⟨rfl, hb⟩
       have HU := hid (HBE.out.trans (hb.mono HBE.out.size))
       clear k1 k2 k3
       obtain ⟨k1, k2, k3⟩ := HCE.out u1 hb
       clear hb
       go_wp2_with fail
       go_roundg (5 - (2 + 1))
       case measure => omega
       case rel => exact ⟨2 + 1, by omega, rfl, rfl, HU.out⟩
     · obtain rfl : i = 3 := by omega
       generalize hz : ((3 : Nat) : Int) = z
       obtain rfl : (3 : Int) = z := hz
       have HCE := hid (fun (W : World) (hb : Below wr.heap.size wr W) => (⟨by rw [cell_of_heap ((hb.block _ (heap_lt ((HBE.out.block _ (heap_lt XH.out)).trans XH.out))).trans ((HBE.out.block _ (heap_lt XH.out)).trans XH.out))]; rfl, by rw [cell_of_heap ((hb.block _ (heap_lt ((HBE.out.block _ (heap_lt XW.out)).trans XW.out))).trans ((HBE.out.block _ (heap_lt XW.out)).trans XW.out))]; rfl, by rw [cell_of_heap ((hb.block _ (heap_lt ((HBE.out.block _ (heap_lt XE.out)).trans XE.out))).trans ((HBE.out.block _ (heap_lt XE.out)).trans XE.out))]; rfl⟩ : W.cell? ⟨hg, 3, none⟩ = some (St l4) ∧ W.cell? ⟨hg + 1, 3, none⟩ = some (St t0) ∧ W.cell? ⟨hg + 2, 3, none⟩ = some (.int .i64 0)))
       obtain ⟨k1, k2, k3⟩ := HCE.out wr (Below.refl _ _)
       clear hi hil
       go_wp2_with fail
       refine (D3.out wr).mono ?_
       rintro _ u1 ⟨rfl, hb⟩
       have HU := hid (HBE.out.trans (hb.mono HBE.out.size))
       clear k1 k2 k3
       obtain ⟨k1, k2, k3⟩ := HCE.out u1 hb
       clear hb
       go_wp2_with fail
       go_roundg (5 - (3 + 1))
       case measure => omega
       case rel => exact ⟨3 + 1, by omega, rfl, rfl, HU.out⟩
     · obtain rfl : i = 4 := by omega
       generalize hz : ((4 : Nat) : Int) = z
       obtain rfl : (4 : Int) = z := hz
       have HCE := hid (fun (W : World) (hb : Below wr.heap.size wr W) => (⟨by rw [cell_of_heap ((hb.block _ (heap_lt ((HBE.out.block _ (heap_lt XH.out)).trans XH.out))).trans ((HBE.out.block _ (heap_lt XH.out)).trans XH.out))]; rfl, by rw [cell_of_heap ((hb.block _ (heap_lt ((HBE.out.block _ (heap_lt XW.out)).trans XW.out))).trans ((HBE.out.block _ (heap_lt XW.out)).trans XW.out))]; rfl, by rw [cell_of_heap ((hb.block _ (heap_lt ((HBE.out.block _ (heap_lt XE.out)).trans XE.out))).trans ((HBE.out.block _ (heap_lt XE.out)).trans XE.out))]; rfl⟩ : W.cell? ⟨hg, 4, none⟩ = some (St o2) ∧ W.cell? ⟨hg + 1, 4, none⟩ = some (St t4) ∧ W.cell? ⟨hg + 2, 4, none⟩ = some (.int .i64 0)))
       obtain ⟨k1, k2, k3⟩ := HCE.out wr (Below.refl _ _)
       clear hi hil
       go_wp2_with fail
       refine (D4.out wr).mono ?_
       rintro _ u1 ⟨rfl, hb⟩
       have HU := hid (HBE.out.trans (hb.mono HBE.out.size))
       clear k1 k2 k3
       obtain ⟨k1, k2, k3⟩ := HCE.out u1 hb
       clear hb
       go_wp2_with fail
       go_roundg (5 - (4 + 1))
       case measure => omega
       case rel => exact ⟨4 + 1, by omega, rfl, rfl, HU.out⟩
   · obtain rfl : i = 5 := by omega
     generalize hz : ((5 : Nat) : Int) = z
     obtain rfl : (5 : Int) = z := hz
     clear hi hil
     have HB9 := hid (HRX.out.trans (HBE.out.mono HRX.out.size))
     go_wp2_with fail
     refine (HW.out wr HB9.out).mono ?_
     rintro _ w9 ⟨rfl, hb⟩
     have HB8 := hid (HB9.out.trans (hb.mono HB9.out.size))
     clear hb
     go_wp2_with fail
     go_ret
     exact ⟨rfl, HB8.out⟩
theorem fitLaw_any (a b n : Int) (ha : a ≤ 9223372036854775807) (hb : b ≤ 9223372036854775807) (w : World) (hp : Pw w) (hl : Lb w) : Calls Tryz.prog 18 #[.int .i64 a, .int .i64 b, .int .i64 n] w fun e w' => e = .returned (.bool true) ∧ Below w.heap.size w w' := by
 by_cases hneg : a < 0 ∨ b < 0
 · exact fit_neg a b n hneg w
 · have hna : ¬ a < 0 := fun h => hneg (Or.inl h)
   have hnb : ¬ b < 0 := fun h => hneg (Or.inr h)
   obtain ⟨ra, e1, _, i1, g1, _⟩ := name_res (by omega) ha
   obtain ⟨rb, e2, _, i2, g2, _⟩ := name_res (by omega) hb
   have hm := and_mask n
   generalize hmm : bits .and .i64 n 1048575 = m at hm
   have hS := chan_is i1 g1 (Or.inl rfl : (1 : Nat) = 1 ∨ 1 = 2)
   have hO := chan_is i2 g2 (Or.inr rfl : (2 : Nat) = 1 ∨ 2 = 2)
   have dS := (bs_is i1 g1 (Or.inl rfl : (1 : Nat) = 1 ∨ 1 = 2)).2.1
   have dO := (bs_is i2 g2 (Or.inr rfl : (2 : Nat) = 1 ∨ 2 = 2)).2.1
   have D := fun (j : Nat) (hj : j < 6) => (cs_is dS hj).2.1
   have E := fun (j : Nat) (hj : j < 6) => (cs_is dO hj).2.1
   obtain ⟨t, hsec, dt⟩ := sec_dt (D 5 (by decide)) hm.1 hm.2
   have hpt := pnt_is hsec dt
   have hset := set_is dS dO dt
   exact fit_core hna hnb hmm hm.1 hm.2 w
     (fun W hbl => sides_any ha hb (by omega) (by omega) e1 e2 hS hO (pubs_is dS) (pubs_is dO) hsec hpt hset W (hp.below hbl) (hl.below hbl))
     hpt (bind_is (D 3 (by decide)) dt).1 (bind_is (D 4 (by decide)) dt).1 (bind_is (E 4 (by decide)) dt).1 (join_is (E 1 (by decide)) dt).1
     (bind_is (D 3 (by decide)) dt).2 (bind_is (D 4 (by decide)) dt).2 (bind_is (E 4 (by decide)) dt).2 (join_is (E 1 (by decide)) dt).2 (pub_is (E 2 (by decide)) (by decide) (by decide)).1 hp hl
end Go.Proofs.YtkifchjpgdmcoaaGreatDoor
