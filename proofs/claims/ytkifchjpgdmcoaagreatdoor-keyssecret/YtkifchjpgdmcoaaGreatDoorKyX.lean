/- Keys: two sides out of two names. -/
import Derived.Test.YtkifchjpgdmcoaaGreatDoorKyW
import Derived.Test.YtkifchjpgdmcoaaGreatDoorKyPr
namespace Go.Proofs.YtkifchjpgdmcoaaGreatDoor
open Go.RowKit
set_option maxRecDepth 100000 in
theorem lit106 (s : Nat → Value) : (#[s 0, s 1, s 2, s 3, s 4, s 5, s 6, s 7, s 8, s 9, s 10, s 11, s 12, s 13, s 14, s 15, s 16, s 17, s 18, s 19, s 20, s 21, s 22, s 23, s 24, s 25, s 26, s 27, s 28, s 29, s 30, s 31, s 32, s 33, s 34, s 35, s 36, s 37, s 38, s 39, s 40, s 41, s 42, s 43, s 44, s 45, s 46, s 47, s 48, s 49, s 50, s 51, s 52, s 53, s 54, s 55, s 56, s 57, s 58, s 59, s 60, s 61, s 62, s 63, s 64, s 65, s 66, s 67, s 68, s 69, s 70, s 71, s 72, s 73, s 74, s 75, s 76, s 77, s 78, s 79, s 80, s 81, s 82, s 83, s 84, s 85, s 86, s 87, s 88, s 89, s 90, s 91, s 92, s 93, s 94, s 95, s 96, s 97, s 98, s 99, s 100, s 101, s 102, s 103, s 104, s 105] : Array Value) = ((List.range 106).map s).toArray := by rfl
theorem act106 (a : Act) (h : a.tmps.size = 106) (hd : a.defers = []) : a = ⟨(#[gt a 0, gt a 1, gt a 2, gt a 3, gt a 4, gt a 5, gt a 6, gt a 7, gt a 8, gt a 9, gt a 10, gt a 11, gt a 12, gt a 13, gt a 14, gt a 15, gt a 16, gt a 17, gt a 18, gt a 19, gt a 20, gt a 21, gt a 22, gt a 23, gt a 24, gt a 25, gt a 26, gt a 27, gt a 28, gt a 29, gt a 30, gt a 31, gt a 32, gt a 33, gt a 34, gt a 35, gt a 36, gt a 37, gt a 38, gt a 39, gt a 40, gt a 41, gt a 42, gt a 43, gt a 44, gt a 45, gt a 46, gt a 47, gt a 48, gt a 49, gt a 50, gt a 51, gt a 52, gt a 53, gt a 54, gt a 55, gt a 56, gt a 57, gt a 58, gt a 59, gt a 60, gt a 61, gt a 62, gt a 63, gt a 64, gt a 65, gt a 66, gt a 67, gt a 68, gt a 69, gt a 70, gt a 71, gt a 72, gt a 73, gt a 74, gt a 75, gt a 76, gt a 77, gt a 78, gt a 79, gt a 80, gt a 81, gt a 82, gt a 83, gt a 84, gt a 85, gt a 86, gt a 87, gt a 88, gt a 89, gt a 90, gt a 91, gt a 92, gt a 93, gt a 94, gt a 95, gt a 96, gt a 97, gt a 98, gt a 99, gt a 100, gt a 101, gt a 102, gt a 103, gt a 104, gt a 105] : Array Value), []⟩ := by
 cases a with
 | mk t d =>
   have h' : t.size = 106 := h
   obtain rfl : d = [] := hd
   congr 1
   refine Eq.trans ?_ (lit106 (fun i => gt ⟨t, []⟩ i)).symm
   apply Array.ext
   · simp [h']
   · intro i h1 h2
     simp [gt, h1]
set_option maxHeartbeats 4000000 in
set_option maxRecDepth 100000 in
theorem sides_any {a b n : Int} {ra rb sec pt : Bs} {s0 s1 s2 s3 s4 s5 o0 o1 o2 o3 o4 o5 p0 p1 p2 p3 p4 q0 q1 q2 q3 q4 t0 t1 t2 t3 t4 : Bs} (ha : a ≤ 9223372036854775807) (hb : b ≤ 9223372036854775807) (hn1 : -9223372036854775808 ≤ n) (hn2 : n ≤ 9223372036854775807)
   (hra : nameRes a = (ra, 0)) (hrb : nameRes b = (rb, 0)) (hS : chanRes ra 1 = (⟨s0, s1, s2, s3, s4, s5⟩, 0)) (hO : chanRes rb 2 = (⟨o0, o1, o2, o3, o4, o5⟩, 0)) (hPS : pubs5 ⟨s0, s1, s2, s3, s4, s5⟩ = (⟨p0, p1, p2, p3, p4⟩, 0)) (hPO : pubs5 ⟨o0, o1, o2, o3, o4, o5⟩ = (⟨q0, q1, q2, q3, q4⟩, 0))
   (hsec : secRes s5 (1048575 - n) = (sec, 0)) (hpt : pntRes s5 n = (pt, 0)) (hST : setRes ⟨p0, p1, p2, p3, p4⟩ ⟨q0, q1, q2, q3, q4⟩ pt = (⟨t0, t1, t2, t3, t4⟩, 0)) (w : World) (hp : Pw w) (hl : Lb w) :
   Calls Tryz.prog 5 #[.int .i64 a, .int .i64 b, .int .i64 n] w fun e w' => e = .returned (.tuple #[.agg #[St s0, St s1, St s2, St s3, St s4, St s5], .agg #[St o0, St o1, St o2, St o3, St o4, St o5], .agg #[St t0, St t1, St t2, St t3, St t4], St sec, .bool true]) ∧ Below w.heap.size w w' := by
 have C1 := hid (fun (W : World) (hb : Below w.heap.size w W) => mkname_any a ha W (hp.below hb))
 have C2 := hid (fun (W : World) (hb' : Below w.heap.size w W) => mkname_any b hb W (hp.below hb'))
 have C3 := hid (fun (W : World) (hb : Below w.heap.size w W) => channel_any ra 1 (by decide) W (hp.below hb) (hl.below hb))
 have C4 := hid (fun (W : World) (hb : Below w.heap.size w W) => channel_any rb 2 (by decide) W (hp.below hb) (hl.below hb))
 have C5 := hid (fun (W : World) (_ : Below w.heap.size w W) => public_any ⟨s0, s1, s2, s3, s4, s5⟩ W)
 have C6 := hid (fun (W : World) (_ : Below w.heap.size w W) => public_any ⟨o0, o1, o2, o3, o4, o5⟩ W)
 have C7 := hid (fun (W : World) (hb : Below w.heap.size w W) => reveal_any ⟨s0, s1, s2, s3, s4, s5⟩ n hn1 hn2 W (hp.below hb))
 have C8 := hid (fun (W : World) (hb : Below w.heap.size w W) => point_any ⟨s0, s1, s2, s3, s4, s5⟩ n hn1 hn2 W (hp.below hb))
 have C9 := hid (fun (W : World) (_ : Below w.heap.size w W) => set_any ⟨p0, p1, p2, p3, p4⟩ ⟨q0, q1, q2, q3, q4⟩ pt W)
 rw [hra] at C1
 rw [hrb] at C2
 rw [hS] at C3
 rw [hO] at C4
 rw [hPS] at C5
 rw [hPO] at C6
 rw [show (S6.s ⟨s0, s1, s2, s3, s4, s5⟩) = s5 from rfl, hsec] at C7
 rw [show (S6.s ⟨s0, s1, s2, s3, s4, s5⟩) = s5 from rfl, hpt] at C8
 rw [hST] at C9
 unfold S6.v K5.v at *
 dsimp only at C3 C4 C5 C6 C7 C8 C9
 clear ha hb hn1 hn2 hra hrb hS hO hPS hPO hsec hpt hST hp hl
 obtain ⟨b0, hb0⟩ : ∃ b, b = w.alloc (.cells #[St [], St [], St [], St [], St [], St []] 24) := ⟨_, rfl⟩
 have z0 : b0.heap.size = w.heap.size + 1 := by rw [hb0]; simp
 have l0 : Below w.heap.size w b0 := by rw [hb0]; exact bel_alloc w _
 obtain ⟨b1, hb1⟩ : ∃ b, b = b0.alloc (.cells #[St [], St [], St [], St [], St [], St []] 24) := ⟨_, rfl⟩
 have z1 : b1.heap.size = w.heap.size + 2 := by rw [hb1]; simp [z0]
 have l1 : Below b0.heap.size b0 b1 := by rw [hb1]; exact bel_alloc b0 _
 obtain ⟨b2, hb2⟩ : ∃ b, b = b1.alloc (.cells #[St [], St [], St [], St [], St []] 26) := ⟨_, rfl⟩
 have z2 : b2.heap.size = w.heap.size + 3 := by rw [hb2]; simp [z1]
 have l2 : Below b1.heap.size b1 b2 := by rw [hb2]; exact bel_alloc b1 _
 have HB0 : Hid (Below w.heap.size w b2) := hid ((l0.trans (l1.mono (by omega))).trans (l2.mono (by omega)))
 have Y0 : Hid (b2.heap[w.heap.size]? = some (.cells #[St [], St [], St [], St [], St [], St []] 24 (0, 0))) := hid ((l2.block _ (by omega)).trans ((l1.block _ (by omega)).trans (by rw [hb0]; exact heap_alloc_new w _)))
 have Y1 : Hid (b2.heap[w.heap.size + 1]? = some (.cells #[St [], St [], St [], St [], St [], St []] 24 (0, 0))) := hid ((l2.block _ (by omega)).trans (by rw [hb1, ← z0]; exact heap_alloc_new b0 _))
 have Y2 : Hid (b2.heap[w.heap.size + 2]? = some (.cells #[St [], St [], St [], St [], St []] 26 (0, 0))) := hid (by rw [hb2, ← z1]; exact heap_alloc_new b1 _)
 have HE : Hid (b2 = ((w.alloc (.cells #[St [], St [], St [], St [], St [], St []] 24)).alloc (.cells #[St [], St [], St [], St [], St [], St []] 24)).alloc (.cells #[St [], St [], St [], St [], St []] 26)) := hid (by rw [hb2, hb1, hb0])
 have HZ2 := hid z2
 clear z0 z1 z2 l0 l1 l2 hb0 hb1 hb2
 have HR := hid (Below.refl b2.heap.size b2)
 go_enter Tryz.func5, Tryz.ntmps5
 go_wp2_with fail
 have hcc := C1.out b2 (HB0.out.trans (HR.out.mono HB0.out.size))
 rw [HE.out] at hcc
 refine hcc.mono ?_
 clear hcc C1
 rintro _ v1 ⟨rfl, hb⟩
 rw [← HE.out] at hb
 have HR2 := hid (HR.out.trans (hb.mono HR.out.size))
 clear hb HR HE
 have HR := HR2
 clear HR2
 go_wp2_with fail
 have hcc := C2.out v1 (HB0.out.trans (HR.out.mono HB0.out.size))
 refine hcc.mono ?_
 clear hcc C2
 rintro _ v2 ⟨rfl, hb⟩
 have HR2 := hid (HR.out.trans (hb.mono HR.out.size))
 clear hb HR
 have HR := HR2
 clear HR2
 go_wp2_with fail
 have hcc := C3.out v2 (HB0.out.trans (HR.out.mono HB0.out.size))
 refine hcc.mono ?_
 clear hcc C3
 rintro _ v3 ⟨rfl, hb⟩
 have HR2 := hid (HR.out.trans (hb.mono HR.out.size))
 clear hb HR
 have HR := HR2
 clear HR2
 have NE3 : Hid (w.heap.size + 3 ≤ v3.heap.size) := hid (by have h1 := HR.out.size; have h2 := HZ2.out; omega)
 obtain ⟨a3, ha3⟩ : ∃ b, b = v3.alloc (.cells #[St s0, St s1, St s2, St s3, St s4, St s5] 24) := ⟨_, rfl⟩
 have hz : Below v3.heap.size v3 a3 := by rw [ha3]; exact bel_alloc v3 _
 have XN3 : Hid (a3.heap[v3.heap.size]? = some (.cells #[St s0, St s1, St s2, St s3, St s4, St s5] 24 (0, 0))) := hid (by rw [ha3]; exact heap_alloc_new v3 _)
 have HR2 := hid (HR.out.trans (hz.mono HR.out.size))
 have HE3 := hid ha3
 clear hz ha3 HR
 have HR := HR2
 clear HR2
 go_wp2_with fail
 have hcc := C4.out a3 (HB0.out.trans (HR.out.mono HB0.out.size))
 rw [HE3.out] at hcc
 refine hcc.mono ?_
 clear hcc C4
 rintro _ v4 ⟨rfl, hb⟩
 rw [← HE3.out] at hb
 have HR2 := hid (HR.out.trans (hb.mono HR.out.size))
 replace XN3 := hid ((hb.block _ (heap_lt XN3.out)).trans XN3.out)
 clear hb HR HE3
 have HR := HR2
 clear HR2
 have jXN30 : v4.cell? ⟨v3.heap.size, 0, none⟩ = some (St s0) := by rw [cell_of_heap XN3.out]; rfl
 have jXN31 : v4.cell? ⟨v3.heap.size, 1, none⟩ = some (St s1) := by rw [cell_of_heap XN3.out]; rfl
 have jXN32 : v4.cell? ⟨v3.heap.size, 2, none⟩ = some (St s2) := by rw [cell_of_heap XN3.out]; rfl
 have jXN33 : v4.cell? ⟨v3.heap.size, 3, none⟩ = some (St s3) := by rw [cell_of_heap XN3.out]; rfl
 have jXN34 : v4.cell? ⟨v3.heap.size, 4, none⟩ = some (St s4) := by rw [cell_of_heap XN3.out]; rfl
 have jXN35 : v4.cell? ⟨v3.heap.size, 5, none⟩ = some (St s5) := by rw [cell_of_heap XN3.out]; rfl
 have ltXN3 : v3.heap.size < v4.heap.size := heap_lt XN3.out
 have NE4 : Hid (w.heap.size + 3 ≤ v4.heap.size) := hid (by have h1 := HR.out.size; have h2 := HZ2.out; omega)
 obtain ⟨a4, ha4⟩ : ∃ b, b = v4.alloc (.cells #[St o0, St o1, St o2, St o3, St o4, St o5] 24) := ⟨_, rfl⟩
 have hz : Below v4.heap.size v4 a4 := by rw [ha4]; exact bel_alloc v4 _
 replace XN3 := hid ((hz.block _ (heap_lt XN3.out)).trans XN3.out)
 have XN4 : Hid (a4.heap[v4.heap.size]? = some (.cells #[St o0, St o1, St o2, St o3, St o4, St o5] 24 (0, 0))) := hid (by rw [ha4]; exact heap_alloc_new v4 _)
 have HR2 := hid (HR.out.trans (hz.mono HR.out.size))
 have HE4 := hid ha4
 clear hz ha4 HR
 have HR := HR2
 clear HR2
 go_wp2_with fail
 clear jXN30 jXN31 jXN32 jXN33 jXN34 jXN35 ltXN3
 have hcc := C5.out a4 (HB0.out.trans (HR.out.mono HB0.out.size))
 rw [HE4.out] at hcc
 refine hcc.mono ?_
 clear hcc C5
 rintro _ v5 ⟨rfl, hb⟩
 rw [← HE4.out] at hb
 have HR2 := hid (HR.out.trans (hb.mono HR.out.size))
 replace XN3 := hid ((hb.block _ (heap_lt XN3.out)).trans XN3.out)
 replace XN4 := hid ((hb.block _ (heap_lt XN4.out)).trans XN4.out)
 clear hb HR HE4
 have HR := HR2
 clear HR2
 have jXN30 : v5.cell? ⟨v3.heap.size, 0, none⟩ = some (St s0) := by rw [cell_of_heap XN3.out]; rfl
 have jXN31 : v5.cell? ⟨v3.heap.size, 1, none⟩ = some (St s1) := by rw [cell_of_heap XN3.out]; rfl
 have jXN32 : v5.cell? ⟨v3.heap.size, 2, none⟩ = some (St s2) := by rw [cell_of_heap XN3.out]; rfl
 have jXN33 : v5.cell? ⟨v3.heap.size, 3, none⟩ = some (St s3) := by rw [cell_of_heap XN3.out]; rfl
 have jXN34 : v5.cell? ⟨v3.heap.size, 4, none⟩ = some (St s4) := by rw [cell_of_heap XN3.out]; rfl
 have jXN35 : v5.cell? ⟨v3.heap.size, 5, none⟩ = some (St s5) := by rw [cell_of_heap XN3.out]; rfl
 have ltXN3 : v3.heap.size < v5.heap.size := heap_lt XN3.out
 have jXN40 : v5.cell? ⟨v4.heap.size, 0, none⟩ = some (St o0) := by rw [cell_of_heap XN4.out]; rfl
 have jXN41 : v5.cell? ⟨v4.heap.size, 1, none⟩ = some (St o1) := by rw [cell_of_heap XN4.out]; rfl
 have jXN42 : v5.cell? ⟨v4.heap.size, 2, none⟩ = some (St o2) := by rw [cell_of_heap XN4.out]; rfl
 have jXN43 : v5.cell? ⟨v4.heap.size, 3, none⟩ = some (St o3) := by rw [cell_of_heap XN4.out]; rfl
 have jXN44 : v5.cell? ⟨v4.heap.size, 4, none⟩ = some (St o4) := by rw [cell_of_heap XN4.out]; rfl
 have jXN45 : v5.cell? ⟨v4.heap.size, 5, none⟩ = some (St o5) := by rw [cell_of_heap XN4.out]; rfl
 have ltXN4 : v4.heap.size < v5.heap.size := heap_lt XN4.out
 have NE5 : Hid (w.heap.size + 3 ≤ v5.heap.size) := hid (by have h1 := HR.out.size; have h2 := HZ2.out; omega)
 obtain ⟨a5, ha5⟩ : ∃ b, b = v5.alloc (.cells #[St p0, St p1, St p2, St p3, St p4] 33) := ⟨_, rfl⟩
 have hz : Below v5.heap.size v5 a5 := by rw [ha5]; exact bel_alloc v5 _
 replace XN3 := hid ((hz.block _ (heap_lt XN3.out)).trans XN3.out)
 replace XN4 := hid ((hz.block _ (heap_lt XN4.out)).trans XN4.out)
 have XN5 : Hid (a5.heap[v5.heap.size]? = some (.cells #[St p0, St p1, St p2, St p3, St p4] 33 (0, 0))) := hid (by rw [ha5]; exact heap_alloc_new v5 _)
 have HR2 := hid (HR.out.trans (hz.mono HR.out.size))
 have HE5 := hid ha5
 clear hz ha5 HR
 have HR := HR2
 clear HR2
 go_wp2_with fail
 clear jXN30 jXN31 jXN32 jXN33 jXN34 jXN35 ltXN3 jXN40 jXN41 jXN42 jXN43 jXN44 jXN45 ltXN4
 have hcc := C6.out a5 (HB0.out.trans (HR.out.mono HB0.out.size))
 rw [HE5.out] at hcc
 refine hcc.mono ?_
 clear hcc C6
 rintro _ v6 ⟨rfl, hb⟩
 rw [← HE5.out] at hb
 have HR2 := hid (HR.out.trans (hb.mono HR.out.size))
 replace XN3 := hid ((hb.block _ (heap_lt XN3.out)).trans XN3.out)
 replace XN4 := hid ((hb.block _ (heap_lt XN4.out)).trans XN4.out)
 replace XN5 := hid ((hb.block _ (heap_lt XN5.out)).trans XN5.out)
 clear hb HR HE5
 have HR := HR2
 clear HR2
 have jXN30 : v6.cell? ⟨v3.heap.size, 0, none⟩ = some (St s0) := by rw [cell_of_heap XN3.out]; rfl
 have jXN31 : v6.cell? ⟨v3.heap.size, 1, none⟩ = some (St s1) := by rw [cell_of_heap XN3.out]; rfl
 have jXN32 : v6.cell? ⟨v3.heap.size, 2, none⟩ = some (St s2) := by rw [cell_of_heap XN3.out]; rfl
 have jXN33 : v6.cell? ⟨v3.heap.size, 3, none⟩ = some (St s3) := by rw [cell_of_heap XN3.out]; rfl
 have jXN34 : v6.cell? ⟨v3.heap.size, 4, none⟩ = some (St s4) := by rw [cell_of_heap XN3.out]; rfl
 have jXN35 : v6.cell? ⟨v3.heap.size, 5, none⟩ = some (St s5) := by rw [cell_of_heap XN3.out]; rfl
 have ltXN3 : v3.heap.size < v6.heap.size := heap_lt XN3.out
 have jXN40 : v6.cell? ⟨v4.heap.size, 0, none⟩ = some (St o0) := by rw [cell_of_heap XN4.out]; rfl
 have jXN41 : v6.cell? ⟨v4.heap.size, 1, none⟩ = some (St o1) := by rw [cell_of_heap XN4.out]; rfl
 have jXN42 : v6.cell? ⟨v4.heap.size, 2, none⟩ = some (St o2) := by rw [cell_of_heap XN4.out]; rfl
 have jXN43 : v6.cell? ⟨v4.heap.size, 3, none⟩ = some (St o3) := by rw [cell_of_heap XN4.out]; rfl
 have jXN44 : v6.cell? ⟨v4.heap.size, 4, none⟩ = some (St o4) := by rw [cell_of_heap XN4.out]; rfl
 have jXN45 : v6.cell? ⟨v4.heap.size, 5, none⟩ = some (St o5) := by rw [cell_of_heap XN4.out]; rfl
 have ltXN4 : v4.heap.size < v6.heap.size := heap_lt XN4.out
 have jXN50 : v6.cell? ⟨v5.heap.size, 0, none⟩ = some (St p0) := by rw [cell_of_heap XN5.out]; rfl
 have jXN51 : v6.cell? ⟨v5.heap.size, 1, none⟩ = some (St p1) := by rw [cell_of_heap XN5.out]; rfl
 have jXN52 : v6.cell? ⟨v5.heap.size, 2, none⟩ = some (St p2) := by rw [cell_of_heap XN5.out]; rfl
 have jXN53 : v6.cell? ⟨v5.heap.size, 3, none⟩ = some (St p3) := by rw [cell_of_heap XN5.out]; rfl
 have jXN54 : v6.cell? ⟨v5.heap.size, 4, none⟩ = some (St p4) := by rw [cell_of_heap XN5.out]; rfl
 have ltXN5 : v5.heap.size < v6.heap.size := heap_lt XN5.out
 have NE6 : Hid (w.heap.size + 3 ≤ v6.heap.size) := hid (by have h1 := HR.out.size; have h2 := HZ2.out; omega)
 obtain ⟨a6, ha6⟩ : ∃ b, b = v6.alloc (.cells #[St q0, St q1, St q2, St q3, St q4] 33) := ⟨_, rfl⟩
 have hz : Below v6.heap.size v6 a6 := by rw [ha6]; exact bel_alloc v6 _
 replace XN3 := hid ((hz.block _ (heap_lt XN3.out)).trans XN3.out)
 replace XN4 := hid ((hz.block _ (heap_lt XN4.out)).trans XN4.out)
 replace XN5 := hid ((hz.block _ (heap_lt XN5.out)).trans XN5.out)
 have XN6 : Hid (a6.heap[v6.heap.size]? = some (.cells #[St q0, St q1, St q2, St q3, St q4] 33 (0, 0))) := hid (by rw [ha6]; exact heap_alloc_new v6 _)
 have HR2 := hid (HR.out.trans (hz.mono HR.out.size))
 have HE6 := hid ha6
 clear hz ha6 HR
 have HR := HR2
 clear HR2
 go_wp2_with fail
 clear jXN30 jXN31 jXN32 jXN33 jXN34 jXN35 ltXN3 jXN40 jXN41 jXN42 jXN43 jXN44 jXN45 ltXN4 jXN50 jXN51 jXN52 jXN53 jXN54 ltXN5
 have hcc := C7.out a6 (HB0.out.trans (HR.out.mono HB0.out.size))
 rw [HE6.out] at hcc
 refine hcc.mono ?_
 clear hcc C7
 rintro _ v7 ⟨rfl, hb⟩
 rw [← HE6.out] at hb
 have HR2 := hid (HR.out.trans (hb.mono HR.out.size))
 replace XN3 := hid ((hb.block _ (heap_lt XN3.out)).trans XN3.out)
 replace XN4 := hid ((hb.block _ (heap_lt XN4.out)).trans XN4.out)
 replace XN5 := hid ((hb.block _ (heap_lt XN5.out)).trans XN5.out)
 replace XN6 := hid ((hb.block _ (heap_lt XN6.out)).trans XN6.out)
 clear hb HR HE6
 have HR := HR2
 clear HR2
 have jXN30 : v7.cell? ⟨v3.heap.size, 0, none⟩ = some (St s0) := by rw [cell_of_heap XN3.out]; rfl
 have jXN31 : v7.cell? ⟨v3.heap.size, 1, none⟩ = some (St s1) := by rw [cell_of_heap XN3.out]; rfl
 have jXN32 : v7.cell? ⟨v3.heap.size, 2, none⟩ = some (St s2) := by rw [cell_of_heap XN3.out]; rfl
 have jXN33 : v7.cell? ⟨v3.heap.size, 3, none⟩ = some (St s3) := by rw [cell_of_heap XN3.out]; rfl
 have jXN34 : v7.cell? ⟨v3.heap.size, 4, none⟩ = some (St s4) := by rw [cell_of_heap XN3.out]; rfl
 have jXN35 : v7.cell? ⟨v3.heap.size, 5, none⟩ = some (St s5) := by rw [cell_of_heap XN3.out]; rfl
 have ltXN3 : v3.heap.size < v7.heap.size := heap_lt XN3.out
 have jXN40 : v7.cell? ⟨v4.heap.size, 0, none⟩ = some (St o0) := by rw [cell_of_heap XN4.out]; rfl
 have jXN41 : v7.cell? ⟨v4.heap.size, 1, none⟩ = some (St o1) := by rw [cell_of_heap XN4.out]; rfl
 have jXN42 : v7.cell? ⟨v4.heap.size, 2, none⟩ = some (St o2) := by rw [cell_of_heap XN4.out]; rfl
 have jXN43 : v7.cell? ⟨v4.heap.size, 3, none⟩ = some (St o3) := by rw [cell_of_heap XN4.out]; rfl
 have jXN44 : v7.cell? ⟨v4.heap.size, 4, none⟩ = some (St o4) := by rw [cell_of_heap XN4.out]; rfl
 have jXN45 : v7.cell? ⟨v4.heap.size, 5, none⟩ = some (St o5) := by rw [cell_of_heap XN4.out]; rfl
 have ltXN4 : v4.heap.size < v7.heap.size := heap_lt XN4.out
 have jXN50 : v7.cell? ⟨v5.heap.size, 0, none⟩ = some (St p0) := by rw [cell_of_heap XN5.out]; rfl
 have jXN51 : v7.cell? ⟨v5.heap.size, 1, none⟩ = some (St p1) := by rw [cell_of_heap XN5.out]; rfl
 have jXN52 : v7.cell? ⟨v5.heap.size, 2, none⟩ = some (St p2) := by rw [cell_of_heap XN5.out]; rfl
 have jXN53 : v7.cell? ⟨v5.heap.size, 3, none⟩ = some (St p3) := by rw [cell_of_heap XN5.out]; rfl
 have jXN54 : v7.cell? ⟨v5.heap.size, 4, none⟩ = some (St p4) := by rw [cell_of_heap XN5.out]; rfl
 have ltXN5 : v5.heap.size < v7.heap.size := heap_lt XN5.out
 have jXN60 : v7.cell? ⟨v6.heap.size, 0, none⟩ = some (St q0) := by rw [cell_of_heap XN6.out]; rfl
 have jXN61 : v7.cell? ⟨v6.heap.size, 1, none⟩ = some (St q1) := by rw [cell_of_heap XN6.out]; rfl
 have jXN62 : v7.cell? ⟨v6.heap.size, 2, none⟩ = some (St q2) := by rw [cell_of_heap XN6.out]; rfl
 have jXN63 : v7.cell? ⟨v6.heap.size, 3, none⟩ = some (St q3) := by rw [cell_of_heap XN6.out]; rfl
 have jXN64 : v7.cell? ⟨v6.heap.size, 4, none⟩ = some (St q4) := by rw [cell_of_heap XN6.out]; rfl
 have ltXN6 : v6.heap.size < v7.heap.size := heap_lt XN6.out
 go_wp2_with fail
 clear jXN30 jXN31 jXN32 jXN33 jXN34 jXN35 ltXN3 jXN40 jXN41 jXN42 jXN43 jXN44 jXN45 ltXN4 jXN50 jXN51 jXN52 jXN53 jXN54 ltXN5 jXN60 jXN61 jXN62 jXN63 jXN64 ltXN6
 have hcc := C8.out v7 (HB0.out.trans (HR.out.mono HB0.out.size))
 refine hcc.mono ?_
 clear hcc C8
 rintro _ v8 ⟨rfl, hb⟩
 have HR2 := hid (HR.out.trans (hb.mono HR.out.size))
 replace XN3 := hid ((hb.block _ (heap_lt XN3.out)).trans XN3.out)
 replace XN4 := hid ((hb.block _ (heap_lt XN4.out)).trans XN4.out)
 replace XN5 := hid ((hb.block _ (heap_lt XN5.out)).trans XN5.out)
 replace XN6 := hid ((hb.block _ (heap_lt XN6.out)).trans XN6.out)
 clear hb HR
 have HR := HR2
 clear HR2
 have jXN30 : v8.cell? ⟨v3.heap.size, 0, none⟩ = some (St s0) := by rw [cell_of_heap XN3.out]; rfl
 have jXN31 : v8.cell? ⟨v3.heap.size, 1, none⟩ = some (St s1) := by rw [cell_of_heap XN3.out]; rfl
 have jXN32 : v8.cell? ⟨v3.heap.size, 2, none⟩ = some (St s2) := by rw [cell_of_heap XN3.out]; rfl
 have jXN33 : v8.cell? ⟨v3.heap.size, 3, none⟩ = some (St s3) := by rw [cell_of_heap XN3.out]; rfl
 have jXN34 : v8.cell? ⟨v3.heap.size, 4, none⟩ = some (St s4) := by rw [cell_of_heap XN3.out]; rfl
 have jXN35 : v8.cell? ⟨v3.heap.size, 5, none⟩ = some (St s5) := by rw [cell_of_heap XN3.out]; rfl
 have ltXN3 : v3.heap.size < v8.heap.size := heap_lt XN3.out
 have jXN40 : v8.cell? ⟨v4.heap.size, 0, none⟩ = some (St o0) := by rw [cell_of_heap XN4.out]; rfl
 have jXN41 : v8.cell? ⟨v4.heap.size, 1, none⟩ = some (St o1) := by rw [cell_of_heap XN4.out]; rfl
 have jXN42 : v8.cell? ⟨v4.heap.size, 2, none⟩ = some (St o2) := by rw [cell_of_heap XN4.out]; rfl
 have jXN43 : v8.cell? ⟨v4.heap.size, 3, none⟩ = some (St o3) := by rw [cell_of_heap XN4.out]; rfl
 have jXN44 : v8.cell? ⟨v4.heap.size, 4, none⟩ = some (St o4) := by rw [cell_of_heap XN4.out]; rfl
 have jXN45 : v8.cell? ⟨v4.heap.size, 5, none⟩ = some (St o5) := by rw [cell_of_heap XN4.out]; rfl
 have ltXN4 : v4.heap.size < v8.heap.size := heap_lt XN4.out
 have jXN50 : v8.cell? ⟨v5.heap.size, 0, none⟩ = some (St p0) := by rw [cell_of_heap XN5.out]; rfl
 have jXN51 : v8.cell? ⟨v5.heap.size, 1, none⟩ = some (St p1) := by rw [cell_of_heap XN5.out]; rfl
 have jXN52 : v8.cell? ⟨v5.heap.size, 2, none⟩ = some (St p2) := by rw [cell_of_heap XN5.out]; rfl
 have jXN53 : v8.cell? ⟨v5.heap.size, 3, none⟩ = some (St p3) := by rw [cell_of_heap XN5.out]; rfl
 have jXN54 : v8.cell? ⟨v5.heap.size, 4, none⟩ = some (St p4) := by rw [cell_of_heap XN5.out]; rfl
 have ltXN5 : v5.heap.size < v8.heap.size := heap_lt XN5.out
 have jXN60 : v8.cell? ⟨v6.heap.size, 0, none⟩ = some (St q0) := by rw [cell_of_heap XN6.out]; rfl
 have jXN61 : v8.cell? ⟨v6.heap.size, 1, none⟩ = some (St q1) := by rw [cell_of_heap XN6.out]; rfl
 have jXN62 : v8.cell? ⟨v6.heap.size, 2, none⟩ = some (St q2) := by rw [cell_of_heap XN6.out]; rfl
 have jXN63 : v8.cell? ⟨v6.heap.size, 3, none⟩ = some (St q3) := by rw [cell_of_heap XN6.out]; rfl
 have jXN64 : v8.cell? ⟨v6.heap.size, 4, none⟩ = some (St q4) := by rw [cell_of_heap XN6.out]; rfl
 have ltXN6 : v6.heap.size < v8.heap.size := heap_lt XN6.out
 go_wp2_with fail
 clear jXN30 jXN31 jXN32 jXN33 jXN34 jXN35 ltXN3 jXN40 jXN41 jXN42 jXN43 jXN44 jXN45 ltXN4 jXN50 jXN51 jXN52 jXN53 jXN54 ltXN5 jXN60 jXN61 jXN62 jXN63 jXN64 ltXN6
 have hcc := C9.out v8 (HB0.out.trans (HR.out.mono HB0.out.size))
 refine hcc.mono ?_
 clear hcc C9
 rintro _ v9 ⟨rfl, hb⟩
 have HR2 := hid (HR.out.trans (hb.mono HR.out.size))
 replace XN3 := hid ((hb.block _ (heap_lt XN3.out)).trans XN3.out)
 replace XN4 := hid ((hb.block _ (heap_lt XN4.out)).trans XN4.out)
 replace XN5 := hid ((hb.block _ (heap_lt XN5.out)).trans XN5.out)
 replace XN6 := hid ((hb.block _ (heap_lt XN6.out)).trans XN6.out)
 clear hb HR
 have HR := HR2
 clear HR2
 have jXN30 : v9.cell? ⟨v3.heap.size, 0, none⟩ = some (St s0) := by rw [cell_of_heap XN3.out]; rfl
 have jXN31 : v9.cell? ⟨v3.heap.size, 1, none⟩ = some (St s1) := by rw [cell_of_heap XN3.out]; rfl
 have jXN32 : v9.cell? ⟨v3.heap.size, 2, none⟩ = some (St s2) := by rw [cell_of_heap XN3.out]; rfl
 have jXN33 : v9.cell? ⟨v3.heap.size, 3, none⟩ = some (St s3) := by rw [cell_of_heap XN3.out]; rfl
 have jXN34 : v9.cell? ⟨v3.heap.size, 4, none⟩ = some (St s4) := by rw [cell_of_heap XN3.out]; rfl
 have jXN35 : v9.cell? ⟨v3.heap.size, 5, none⟩ = some (St s5) := by rw [cell_of_heap XN3.out]; rfl
 have ltXN3 : v3.heap.size < v9.heap.size := heap_lt XN3.out
 have jXN40 : v9.cell? ⟨v4.heap.size, 0, none⟩ = some (St o0) := by rw [cell_of_heap XN4.out]; rfl
 have jXN41 : v9.cell? ⟨v4.heap.size, 1, none⟩ = some (St o1) := by rw [cell_of_heap XN4.out]; rfl
 have jXN42 : v9.cell? ⟨v4.heap.size, 2, none⟩ = some (St o2) := by rw [cell_of_heap XN4.out]; rfl
 have jXN43 : v9.cell? ⟨v4.heap.size, 3, none⟩ = some (St o3) := by rw [cell_of_heap XN4.out]; rfl
 have jXN44 : v9.cell? ⟨v4.heap.size, 4, none⟩ = some (St o4) := by rw [cell_of_heap XN4.out]; rfl
 have jXN45 : v9.cell? ⟨v4.heap.size, 5, none⟩ = some (St o5) := by rw [cell_of_heap XN4.out]; rfl
 have ltXN4 : v4.heap.size < v9.heap.size := heap_lt XN4.out
 have jXN50 : v9.cell? ⟨v5.heap.size, 0, none⟩ = some (St p0) := by rw [cell_of_heap XN5.out]; rfl
 have jXN51 : v9.cell? ⟨v5.heap.size, 1, none⟩ = some (St p1) := by rw [cell_of_heap XN5.out]; rfl
 have jXN52 : v9.cell? ⟨v5.heap.size, 2, none⟩ = some (St p2) := by rw [cell_of_heap XN5.out]; rfl
 have jXN53 : v9.cell? ⟨v5.heap.size, 3, none⟩ = some (St p3) := by rw [cell_of_heap XN5.out]; rfl
 have jXN54 : v9.cell? ⟨v5.heap.size, 4, none⟩ = some (St p4) := by rw [cell_of_heap XN5.out]; rfl
 have ltXN5 : v5.heap.size < v9.heap.size := heap_lt XN5.out
 have jXN60 : v9.cell? ⟨v6.heap.size, 0, none⟩ = some (St q0) := by rw [cell_of_heap XN6.out]; rfl
 have jXN61 : v9.cell? ⟨v6.heap.size, 1, none⟩ = some (St q1) := by rw [cell_of_heap XN6.out]; rfl
 have jXN62 : v9.cell? ⟨v6.heap.size, 2, none⟩ = some (St q2) := by rw [cell_of_heap XN6.out]; rfl
 have jXN63 : v9.cell? ⟨v6.heap.size, 3, none⟩ = some (St q3) := by rw [cell_of_heap XN6.out]; rfl
 have jXN64 : v9.cell? ⟨v6.heap.size, 4, none⟩ = some (St q4) := by rw [cell_of_heap XN6.out]; rfl
 have ltXN6 : v6.heap.size < v9.heap.size := heap_lt XN6.out
 have NE9 : Hid (w.heap.size + 3 ≤ v9.heap.size) := hid (by have h1 := HR.out.size; have h2 := HZ2.out; omega)
 obtain ⟨a9, ha9⟩ : ∃ b, b = v9.alloc (.cells #[St t0, St t1, St t2, St t3, St t4] 26) := ⟨_, rfl⟩
 have hz : Below v9.heap.size v9 a9 := by rw [ha9]; exact bel_alloc v9 _
 replace XN3 := hid ((hz.block _ (heap_lt XN3.out)).trans XN3.out)
 replace XN4 := hid ((hz.block _ (heap_lt XN4.out)).trans XN4.out)
 replace XN5 := hid ((hz.block _ (heap_lt XN5.out)).trans XN5.out)
 replace XN6 := hid ((hz.block _ (heap_lt XN6.out)).trans XN6.out)
 have XN9 : Hid (a9.heap[v9.heap.size]? = some (.cells #[St t0, St t1, St t2, St t3, St t4] 26 (0, 0))) := hid (by rw [ha9]; exact heap_alloc_new v9 _)
 have HR2 := hid (HR.out.trans (hz.mono HR.out.size))
 have HE9 := hid ha9
 clear hz ha9 HR
 have HR := HR2
 clear HR2
 go_wp2_with fail
 clear jXN30 jXN31 jXN32 jXN33 jXN34 jXN35 ltXN3 jXN40 jXN41 jXN42 jXN43 jXN44 jXN45 ltXN4 jXN50 jXN51 jXN52 jXN53 jXN54 ltXN5 jXN60 jXN61 jXN62 jXN63 jXN64 ltXN6
 have hea := HE9.out
 obtain ⟨w6, hw6⟩ : ∃ b, b = a9.alloc (.cells #[.int .i64 0, .int .i64 0, .int .i64 0, .int .i64 0, .int .i64 0, .int .i64 0, .int .i64 0, .int .i64 0, .int .i64 0] 29) := ⟨_, rfl⟩
 have hz : Below a9.heap.size a9 w6 := by rw [hw6]; exact bel_alloc a9 _
 replace XN3 := hid ((hz.block _ (heap_lt XN3.out)).trans XN3.out)
 replace XN4 := hid ((hz.block _ (heap_lt XN4.out)).trans XN4.out)
 replace XN5 := hid ((hz.block _ (heap_lt XN5.out)).trans XN5.out)
 replace XN6 := hid ((hz.block _ (heap_lt XN6.out)).trans XN6.out)
 replace XN9 := hid ((hz.block _ (heap_lt XN9.out)).trans XN9.out)
 obtain ⟨rowb, hrow⟩ : ∃ r, r = v9.heap.size + 1 := ⟨_, rfl⟩
 have hsz9 : a9.heap.size = v9.heap.size + 1 := by rw [hea]; simp
 have HT0 : Hid (w6.heap[rowb]? = some (.cells #[.int .i64 0, .int .i64 0, .int .i64 0, .int .i64 0, .int .i64 0, .int .i64 0, .int .i64 0, .int .i64 0, .int .i64 0] 29 (0, 0))) := hid (by rw [hw6, hrow, ← hsz9]; exact heap_alloc_new a9 _)
 replace HR := hid (HR.out.trans (hz.mono HR.out.size))
 have HW6 : Hid (w6 = (v9.alloc (.cells #[St t0, St t1, St t2, St t3, St t4] 26)).alloc (.cells #[.int .i64 0, .int .i64 0, .int .i64 0, .int .i64 0, .int .i64 0, .int .i64 0, .int .i64 0, .int .i64 0, .int .i64 0] 29)) := hid (by rw [hw6, hea])
 clear hz hw6 hea hsz9 HE9
 rw [← hrow]
 have HROW := hid hrow
 clear hrow
 go_loopg [91] 9 (fun gg v91 wr => ∃ i : Nat, i ≤ 9 ∧ gg = 9 - i ∧ v91 = .int .i64 (i : Int) ∧ Below w6.heap.size w6 wr)
 case atStart => exact ⟨0, by omega, by omega, rfl, by rw [HW6.out]; exact Below.refl _ _⟩
 case round =>
   obtain ⟨i, hi, rfl, rfl, hbel⟩ := hrel
   have HBE := hid hbel
   clear hbel
   by_cases hil : i < 9
   · have hcl : wr.cell? ⟨rowb, i, none⟩ = some (.int .i64 0) := by
       rw [cell_of_heap ((HBE.out.block _ (heap_lt HT0.out)).trans HT0.out)]
       rcases (show i = 0 ∨ i = 1 ∨ i = 2 ∨ i = 3 ∨ i = 4 ∨ i = 5 ∨ i = 6 ∨ i = 7 ∨ i = 8 by omega) with h | h | h | h | h | h | h | h | h <;> subst h <;> rfl
     go_wp2_with fail
     go_roundg (9 - (i + 1))
     case measure => omega
     case rel => exact ⟨i + 1, by omega, rfl, by go_num, HBE.out⟩
   · obtain rfl : i = 9 := by omega
     generalize hz : ((9 : Nat) : Int) = z
     obtain rfl : (9 : Int) = z := hz
     have HBW := hid (HB0.out.trans ((HR.out.trans (HBE.out.mono HR.out.size)).mono HB0.out.size))
     have HRW := hid (HR.out.trans (HBE.out.mono HR.out.size))
     replace XN3 := hid ((HBE.out.block _ (heap_lt XN3.out)).trans XN3.out)
     replace XN4 := hid ((HBE.out.block _ (heap_lt XN4.out)).trans XN4.out)
     replace XN5 := hid ((HBE.out.block _ (heap_lt XN5.out)).trans XN5.out)
     replace XN6 := hid ((HBE.out.block _ (heap_lt XN6.out)).trans XN6.out)
     replace XN9 := hid ((HBE.out.block _ (heap_lt XN9.out)).trans XN9.out)
     have jXN30 : wr.cell? ⟨v3.heap.size, 0, none⟩ = some (St s0) := by rw [cell_of_heap XN3.out]; rfl
     have jXN31 : wr.cell? ⟨v3.heap.size, 1, none⟩ = some (St s1) := by rw [cell_of_heap XN3.out]; rfl
     have jXN32 : wr.cell? ⟨v3.heap.size, 2, none⟩ = some (St s2) := by rw [cell_of_heap XN3.out]; rfl
     have jXN33 : wr.cell? ⟨v3.heap.size, 3, none⟩ = some (St s3) := by rw [cell_of_heap XN3.out]; rfl
     have jXN34 : wr.cell? ⟨v3.heap.size, 4, none⟩ = some (St s4) := by rw [cell_of_heap XN3.out]; rfl
     have jXN35 : wr.cell? ⟨v3.heap.size, 5, none⟩ = some (St s5) := by rw [cell_of_heap XN3.out]; rfl
     have ltXN3 : v3.heap.size < wr.heap.size := heap_lt XN3.out
     have jXN40 : wr.cell? ⟨v4.heap.size, 0, none⟩ = some (St o0) := by rw [cell_of_heap XN4.out]; rfl
     have jXN41 : wr.cell? ⟨v4.heap.size, 1, none⟩ = some (St o1) := by rw [cell_of_heap XN4.out]; rfl
     have jXN42 : wr.cell? ⟨v4.heap.size, 2, none⟩ = some (St o2) := by rw [cell_of_heap XN4.out]; rfl
     have jXN43 : wr.cell? ⟨v4.heap.size, 3, none⟩ = some (St o3) := by rw [cell_of_heap XN4.out]; rfl
     have jXN44 : wr.cell? ⟨v4.heap.size, 4, none⟩ = some (St o4) := by rw [cell_of_heap XN4.out]; rfl
     have jXN45 : wr.cell? ⟨v4.heap.size, 5, none⟩ = some (St o5) := by rw [cell_of_heap XN4.out]; rfl
     have ltXN4 : v4.heap.size < wr.heap.size := heap_lt XN4.out
     have jXN50 : wr.cell? ⟨v5.heap.size, 0, none⟩ = some (St p0) := by rw [cell_of_heap XN5.out]; rfl
     have jXN51 : wr.cell? ⟨v5.heap.size, 1, none⟩ = some (St p1) := by rw [cell_of_heap XN5.out]; rfl
     have jXN52 : wr.cell? ⟨v5.heap.size, 2, none⟩ = some (St p2) := by rw [cell_of_heap XN5.out]; rfl
     have jXN53 : wr.cell? ⟨v5.heap.size, 3, none⟩ = some (St p3) := by rw [cell_of_heap XN5.out]; rfl
     have jXN54 : wr.cell? ⟨v5.heap.size, 4, none⟩ = some (St p4) := by rw [cell_of_heap XN5.out]; rfl
     have ltXN5 : v5.heap.size < wr.heap.size := heap_lt XN5.out
     have jXN60 : wr.cell? ⟨v6.heap.size, 0, none⟩ = some (St q0) := by rw [cell_of_heap XN6.out]; rfl
     have jXN61 : wr.cell? ⟨v6.heap.size, 1, none⟩ = some (St q1) := by rw [cell_of_heap XN6.out]; rfl
     have jXN62 : wr.cell? ⟨v6.heap.size, 2, none⟩ = some (St q2) := by rw [cell_of_heap XN6.out]; rfl
     have jXN63 : wr.cell? ⟨v6.heap.size, 3, none⟩ = some (St q3) := by rw [cell_of_heap XN6.out]; rfl
     have jXN64 : wr.cell? ⟨v6.heap.size, 4, none⟩ = some (St q4) := by rw [cell_of_heap XN6.out]; rfl
     have ltXN6 : v6.heap.size < wr.heap.size := heap_lt XN6.out
     have jXN90 : wr.cell? ⟨v9.heap.size, 0, none⟩ = some (St t0) := by rw [cell_of_heap XN9.out]; rfl
     have jXN91 : wr.cell? ⟨v9.heap.size, 1, none⟩ = some (St t1) := by rw [cell_of_heap XN9.out]; rfl
     have jXN92 : wr.cell? ⟨v9.heap.size, 2, none⟩ = some (St t2) := by rw [cell_of_heap XN9.out]; rfl
     have jXN93 : wr.cell? ⟨v9.heap.size, 3, none⟩ = some (St t3) := by rw [cell_of_heap XN9.out]; rfl
     have jXN94 : wr.cell? ⟨v9.heap.size, 4, none⟩ = some (St t4) := by rw [cell_of_heap XN9.out]; rfl
     have ltXN9 : v9.heap.size < wr.heap.size := heap_lt XN9.out
     have y0 : wr.heap[w.heap.size]? = some (.cells #[St [], St [], St [], St [], St [], St []] 24 (0, 0)) := (HRW.out.block _ (heap_lt Y0.out)).trans Y0.out
     have f0 : ∀ o, wr.frozen? ⟨w.heap.size, o, none⟩ = false := fun o => frozen_of_heap y0 o
     have c00 : wr.cell? ⟨w.heap.size, 0, none⟩ = some (St []) := by rw [cell_of_heap y0]; rfl
     have c01 : wr.cell? ⟨w.heap.size, 1, none⟩ = some (St []) := by rw [cell_of_heap y0]; rfl
     have c02 : wr.cell? ⟨w.heap.size, 2, none⟩ = some (St []) := by rw [cell_of_heap y0]; rfl
     have c03 : wr.cell? ⟨w.heap.size, 3, none⟩ = some (St []) := by rw [cell_of_heap y0]; rfl
     have c04 : wr.cell? ⟨w.heap.size, 4, none⟩ = some (St []) := by rw [cell_of_heap y0]; rfl
     have c05 : wr.cell? ⟨w.heap.size, 5, none⟩ = some (St []) := by rw [cell_of_heap y0]; rfl
     have ly0 := heap_lt y0
     have y1 : wr.heap[w.heap.size + 1]? = some (.cells #[St [], St [], St [], St [], St [], St []] 24 (0, 0)) := (HRW.out.block _ (heap_lt Y1.out)).trans Y1.out
     have f1 : ∀ o, wr.frozen? ⟨w.heap.size + 1, o, none⟩ = false := fun o => frozen_of_heap y1 o
     have c10 : wr.cell? ⟨w.heap.size + 1, 0, none⟩ = some (St []) := by rw [cell_of_heap y1]; rfl
     have c11 : wr.cell? ⟨w.heap.size + 1, 1, none⟩ = some (St []) := by rw [cell_of_heap y1]; rfl
     have c12 : wr.cell? ⟨w.heap.size + 1, 2, none⟩ = some (St []) := by rw [cell_of_heap y1]; rfl
     have c13 : wr.cell? ⟨w.heap.size + 1, 3, none⟩ = some (St []) := by rw [cell_of_heap y1]; rfl
     have c14 : wr.cell? ⟨w.heap.size + 1, 4, none⟩ = some (St []) := by rw [cell_of_heap y1]; rfl
     have c15 : wr.cell? ⟨w.heap.size + 1, 5, none⟩ = some (St []) := by rw [cell_of_heap y1]; rfl
     have ly1 := heap_lt y1
     have y2 : wr.heap[w.heap.size + 2]? = some (.cells #[St [], St [], St [], St [], St []] 26 (0, 0)) := (HRW.out.block _ (heap_lt Y2.out)).trans Y2.out
     have f2 : ∀ o, wr.frozen? ⟨w.heap.size + 2, o, none⟩ = false := fun o => frozen_of_heap y2 o
     have c20 : wr.cell? ⟨w.heap.size + 2, 0, none⟩ = some (St []) := by rw [cell_of_heap y2]; rfl
     have c21 : wr.cell? ⟨w.heap.size + 2, 1, none⟩ = some (St []) := by rw [cell_of_heap y2]; rfl
     have c22 : wr.cell? ⟨w.heap.size + 2, 2, none⟩ = some (St []) := by rw [cell_of_heap y2]; rfl
     have c23 : wr.cell? ⟨w.heap.size + 2, 3, none⟩ = some (St []) := by rw [cell_of_heap y2]; rfl
     have c24 : wr.cell? ⟨w.heap.size + 2, 4, none⟩ = some (St []) := by rw [cell_of_heap y2]; rfl
     have ly2 := heap_lt y2
     have HY := hid (And.intro y0 (And.intro y1 y2))
     clear y0 y1 y2
     clear ltXN3 ltXN4 ltXN5 ltXN6 ltXN9
     have HNE : Hid (w.heap.size + 3 ≤ v3.heap.size ∧ w.heap.size + 3 ≤ v4.heap.size ∧ w.heap.size + 3 ≤ v9.heap.size) := hid ⟨NE3.out, NE4.out, NE9.out⟩
     clear hi hil HW6 HT0 HROW jXN30 jXN31 jXN32 jXN33 jXN34 jXN35 jXN40 jXN41 jXN42 jXN43 jXN44 jXN45 jXN50 jXN51 jXN52 jXN53 jXN54 jXN60 jXN61 jXN62 jXN63 jXN64 jXN90 jXN91 jXN92 jXN93 jXN94 NE3 NE4 NE5 NE6 NE9 HRW f0 f1 f2 ly0 ly1 ly2
     have HAT : Hid (prAt s0 s1 s2 s3 s4 s5 o0 o1 o2 o3 o4 o5 t0 t1 t2 t3 t4 v3.heap.size v4.heap.size v9.heap.size w.heap.size (w.heap.size + 1) (w.heap.size + 2) wr) := hid ⟨XN3.out, XN4.out, XN9.out, HY.out.1, HY.out.2.1, HY.out.2.2, by have := HNE.out; omega, by have := HNE.out; omega, by have := HNE.out; omega, by omega⟩
     go_wp2_with fail
     rename_i hK
     have HK := hid hK
     clear hK
     refine prreg (g1 := v3.heap.size) (g2 := v4.heap.size) (g3 := v9.heap.size) (r1 := w.heap.size) (r2 := w.heap.size + 1) (r3 := w.heap.size + 2) (sec := sec) rfl rfl rfl rfl rfl rfl rfl (by show 106 ≤ 106; decide) HAT.out ?_
     intro a ho e9 e10
     have e6 : gt a 6 = .pointer (some ⟨w.heap.size, 0, none⟩) := (ho.slot (by decide)).trans rfl
     have e7 : gt a 7 = .pointer (some ⟨w.heap.size + 1, 0, none⟩) := (ho.slot (by decide)).trans rfl
     have e8 : gt a 8 = .pointer (some ⟨w.heap.size + 2, 0, none⟩) := (ho.slot (by decide)).trans rfl
     refine HK.out a _ ?_
     rw [act106 a (ho.size.trans rfl) (ho.defers.trans rfl), e6, e7, e8, e9, e10]
     clear e6 e7 e8 e9 e10 HK ho
     rw [prW3]
     go_wp2_with fail
     refine bodyPost_ret (v := .tuple #[.agg #[St s0, St s1, St s2, St s3, St s4, St s5], .agg #[St o0, St o1, St o2, St o3, St o4, St o5], .agg #[St t0, St t1, St t2, St t3, St t4], St sec, .bool true]) (by simp [results, Tryz.results5, go_sem, c00, c01, c02, c03, c04, c05, c10, c11, c12, c13, c14, c15, c20, c21, c22, c23, c24]) rfl ⟨rfl, ?_⟩
     exact ((((((((((((((((((HBW.out).setCell (by show w.heap.size ≤ w.heap.size + 0; omega) _).setCell (by show w.heap.size ≤ w.heap.size + 0; omega) _).setCell (by show w.heap.size ≤ w.heap.size + 0; omega) _).setCell (by show w.heap.size ≤ w.heap.size + 0; omega) _).setCell (by show w.heap.size ≤ w.heap.size + 0; omega) _).setCell (by show w.heap.size ≤ w.heap.size + 0; omega) _).setCell (by show w.heap.size ≤ w.heap.size + 1; omega) _).setCell (by show w.heap.size ≤ w.heap.size + 1; omega) _).setCell (by show w.heap.size ≤ w.heap.size + 1; omega) _).setCell (by show w.heap.size ≤ w.heap.size + 1; omega) _).setCell (by show w.heap.size ≤ w.heap.size + 1; omega) _).setCell (by show w.heap.size ≤ w.heap.size + 1; omega) _).setCell (by show w.heap.size ≤ w.heap.size + 2; omega) _).setCell (by show w.heap.size ≤ w.heap.size + 2; omega) _).setCell (by show w.heap.size ≤ w.heap.size + 2; omega) _).setCell (by show w.heap.size ≤ w.heap.size + 2; omega) _).setCell (by show w.heap.size ≤ w.heap.size + 2; omega) _).drew
end Go.Proofs.YtkifchjpgdmcoaaGreatDoor
