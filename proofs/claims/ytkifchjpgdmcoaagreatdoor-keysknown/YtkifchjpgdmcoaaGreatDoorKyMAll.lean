import Derived.Test.YtkifchjpgdmcoaaGreatDoorKyL
/- KeysMakes. -/
namespace Go.Proofs.YtkifchjpgdmcoaaGreatDoor
open Go.RowKit
set_option maxHeartbeats 2000000 in
theorem makesLaw_any (root : Bs) (n : Int) (hn : n ≤ 9223372036854775807) (w : World) (hp : Pw w) (hl : Lb w) : Calls Tryz.prog 15 #[St root, .int .i64 n] w fun e w' => e = .returned (.bool true) ∧ Below w.heap.size w w' := by
 have hsz : (⟨root.toArray⟩ : ByteArray).size = root.length := st_size root
 by_cases h0 : 20000 < root.length
 · have h0' : (20000 : Int) < (root.length : Int) := by omega
   clear hp hl
   go_enter Tryz.func15, Tryz.ntmps15
   go_wp2_with fail
   go_ret
   exact ⟨rfl, Below.refl _ _⟩
 · have h0' : ¬ (20000 : Int) < (root.length : Int) := by omega
   have H1 := hid (node_any root w hp)
   have H2 := hid (fun W => rnode_any root W)
   have H3 := hid (fun (W : World) (hb : Below w.heap.size w W) => coin_any root n hn W (hp.below hb))
   have H4 := hid (fun (W : World) => rcoin_any root n hn W)
   have H5 := hid (fun (W : World) (hb : Below w.heap.size w W) => channel_any root n hn W (hp.below hb) (hl.below hb))
   have H6 := hid (fun (W : World) => rchannel_any root n hn W)
   have HW := hid (fun (W : World) (hb : Below w.heap.size w W) => works_any W (hp.below hb) (hl.below hb))
   clear hp hl hn h0
   generalize kidRes root wNode 0 = a at H1 H2
   generalize numRes root wCoin n = c at H3 H4
   generalize chanRes root n = x at H5 H6
   obtain ⟨a, e⟩ := a
   obtain ⟨c, g⟩ := c
   obtain ⟨⟨x0, x1, x2, x3, x4, x5⟩, i⟩ := x
   unfold S6.v at H5 H6
   go_enter Tryz.func15, Tryz.ntmps15
   go_wp2_with fail
   refine H1.out.mono ?_
   rintro _ w1 ⟨rfl, hb1⟩
   have HB1 := hid hb1
   clear hb1 H1
   go_wp2_with fail
   refine (H2.out w1).mono ?_
   rintro _ w2 ⟨rfl, hb2⟩
   have HB2 := hid (HB1.out.trans (hb2.mono HB1.out.size))
   clear hb2 H2 HB1
   go_wp2_with fail
   refine (H3.out w2 HB2.out).mono ?_
   rintro _ w3 ⟨rfl, hb3⟩
   have HB3 := hid (HB2.out.trans (hb3.mono HB2.out.size))
   clear hb3 H3 HB2
   go_wp2_with fail
   refine (H4.out w3).mono ?_
   rintro _ w4 ⟨rfl, hb4⟩
   have HB4 := hid (HB3.out.trans (hb4.mono HB3.out.size))
   clear hb4 H4 HB3
   go_wp2_with fail
   refine (H5.out w4 HB4.out).mono ?_
   rintro _ w5 ⟨rfl, hb5⟩
   have HB5 := hid (HB4.out.trans (hb5.mono HB4.out.size))
   clear hb5 H5 HB4
   obtain ⟨w6, hw6⟩ : ∃ w6, w6 = w5.alloc (.cells #[St x0, St x1, St x2, St x3, St x4, St x5] 24) := ⟨_, rfl⟩
   have hx6 : w6.heap[w5.heap.size]? = some (.cells #[St x0, St x1, St x2, St x3, St x4, St x5] 24 (0, 0)) := by rw [hw6]; exact heap_alloc_new w5 _
   have hb6 : Below w.heap.size w w6 := by rw [hw6]; exact HB5.out.alloc HB5.out.size _
   have h6 := H6.out w6
   rw [hw6] at h6
   have HW6 := hid hw6
   have HX6 := hid hx6
   have HB6 := hid hb6
   clear hw6 hx6 hb6 H6 HB5
   go_wp2_with fail
   refine h6.mono ?_
   clear h6
   rintro _ w7 ⟨rfl, hb7⟩
   rw [← HW6.out] at hb7
   have HB7 := hid (HB6.out.trans (hb7.mono HB6.out.size))
   have hx7 := (hb7.block _ (heap_lt HX6.out)).trans HX6.out
   have ca : ∀ o, w7.cell? ⟨w5.heap.size, o, none⟩ = (#[St x0, St x1, St x2, St x3, St x4, St x5] : Array Value)[o]? := fun o => cell_of_heap hx7 o
   have k0 : w7.cell? ⟨w5.heap.size, 0, none⟩ = some (St x0) := ca 0
   have k1 : w7.cell? ⟨w5.heap.size, 1, none⟩ = some (St x1) := ca 1
   have k2 : w7.cell? ⟨w5.heap.size, 2, none⟩ = some (St x2) := ca 2
   have k3 : w7.cell? ⟨w5.heap.size, 3, none⟩ = some (St x3) := ca 3
   have k4 : w7.cell? ⟨w5.heap.size, 4, none⟩ = some (St x4) := ca 4
   have k5 : w7.cell? ⟨w5.heap.size, 5, none⟩ = some (St x5) := ca 5
   have hlt7 : w5.heap.size < w7.heap.size := heap_lt hx7
   have hb8 : Below w.heap.size w (w7.alloc (.cells #[St x0, St x1, St x2, St x3, St x4, St x5] 24)) := HB7.out.alloc HB7.out.size _
   have HB8 := hid hb8
   have HWW := hid (HW.out _ hb8)
   clear hb7 hx7 ca HX6 HW6 HB6 hb8 HW
   go_wp2_with fail
   refine HWW.out.mono ?_
   rintro _ w9 ⟨rfl, hb⟩
   have HB9 := hid (HB8.out.trans (hb.mono HB8.out.size))
   clear hb
   go_wp2_with fail
   go_ret
   exact ⟨rfl, HB9.out⟩
end Go.Proofs.YtkifchjpgdmcoaaGreatDoor

/- Keys: KeysPoints, KeysSets. -/
namespace Go.Proofs.YtkifchjpgdmcoaaGreatDoor
open Go.RowKit
set_option maxHeartbeats 4000000 in
theorem pointsLaw_any (x0 x1 x2 x3 x4 x5 : Bs) (m0 : x0.length ≤ 140737488355328) (m1 : x1.length ≤ 140737488355328) (m2 : x2.length ≤ 140737488355328) (m3 : x3.length ≤ 140737488355328) (m4 : x4.length ≤ 140737488355328) (m5 : x5.length ≤ 140737488355328) (n : Int) (h1 : -9223372036854775808 ≤ n) (h2 : n ≤ 9223372036854775807) (w : World) (hp : Pw w) (hl : Lb w) : Calls Tryz.prog 16 #[.agg #[St x0, St x1, St x2, St x3, St x4, St x5], .int .i64 n] w fun e w' => e = .returned (.bool true) ∧ Below w.heap.size w w' := by
 have s0 : (⟨x0.toArray⟩ : ByteArray).size = x0.length := st_size x0
 have s1 : (⟨x1.toArray⟩ : ByteArray).size = x1.length := st_size x1
 have s2 : (⟨x2.toArray⟩ : ByteArray).size = x2.length := st_size x2
 have s3 : (⟨x3.toArray⟩ : ByteArray).size = x3.length := st_size x3
 have s4 : (⟨x4.toArray⟩ : ByteArray).size = x4.length := st_size x4
 have s5 : (⟨x5.toArray⟩ : ByteArray).size = x5.length := st_size x5
 by_cases h0 : 20000 < x0.length + x1.length + x2.length + x3.length + x4.length + x5.length
 · have h0' : (20000 : Int) < (x0.length : Int) + (x1.length : Int) + (x2.length : Int) + (x3.length : Int) + (x4.length : Int) + (x5.length : Int) := by omega
   clear hp hl
   go_enter Tryz.func16, Tryz.ntmps16
   go_wp2_with fail
   go_ret
   exact ⟨rfl, bel_alloc w _⟩
 · have h0' : ¬ (20000 : Int) < (x0.length : Int) + (x1.length : Int) + (x2.length : Int) + (x3.length : Int) + (x4.length : Int) + (x5.length : Int) := by omega
   have C1 := hid (fun (W : World) (_ : Below w.heap.size w W) => public_any ⟨x0, x1, x2, x3, x4, x5⟩ W)
   have C2 := hid (fun (W : World) (_ : Below w.heap.size w W) => rpublic5_any ⟨x0, x1, x2, x3, x4, x5⟩ W)
   have C3 := hid (fun (W : World) (hb : Below w.heap.size w W) => reveal_any ⟨x0, x1, x2, x3, x4, x5⟩ n h1 h2 W (hp.below hb))
   have C4 := hid (fun (W : World) (_ : Below w.heap.size w W) => rreveal_any ⟨x0, x1, x2, x3, x4, x5⟩ n h1 h2 W)
   have C5 := hid (fun (W : World) (hb : Below w.heap.size w W) => point_any ⟨x0, x1, x2, x3, x4, x5⟩ n h1 h2 W (hp.below hb))
   have C6 := hid (fun (W : World) (_ : Below w.heap.size w W) => rpoint_any ⟨x0, x1, x2, x3, x4, x5⟩ n h1 h2 W)
   have HW := hid (fun (W : World) (hb : Below w.heap.size w W) => works_any W (hp.below hb) (hl.below hb))
   clear hp hl h0 h1 h2
   unfold S6.v at C1 C2 C3 C4 C5 C6
   dsimp only at C1 C2 C3 C4 C5 C6
   generalize pubs5 ⟨x0, x1, x2, x3, x4, x5⟩ = P at C1 C2
   generalize secRes x5 (1048575 - n) = S at C3 C4
   generalize pntRes x5 n = Q at C5 C6
   obtain ⟨⟨y0, y1, y2, y3, y4⟩, e⟩ := P
   obtain ⟨c, g⟩ := S
   obtain ⟨p, i⟩ := Q
   unfold K5.v at C1 C2
   dsimp only at C1 C2 C3 C4 C5 C6
   obtain ⟨b0, hb0⟩ : ∃ b, b = w.alloc (.cells #[St x0, St x1, St x2, St x3, St x4, St x5] 24) := ⟨_, rfl⟩
   have z0 : b0.heap.size = w.heap.size + 1 := by rw [hb0]; simp
   have l0 : Below w.heap.size w b0 := by rw [hb0]; exact bel_alloc w _
   have HB0 : Hid (Below w.heap.size w b0) := hid (l0)
   have X0 : b0.heap[w.heap.size]? = some (.cells #[St x0, St x1, St x2, St x3, St x4, St x5] 24 (0, 0)) := (by rw [hb0]; exact heap_alloc_new w _)
   have HC := hid (fun (W : World) (hb : Below b0.heap.size b0 W) => (⟨by rw [cell_of_heap ((hb.block _ (heap_lt X0)).trans X0)]; rfl, by rw [cell_of_heap ((hb.block _ (heap_lt X0)).trans X0)]; rfl, by rw [cell_of_heap ((hb.block _ (heap_lt X0)).trans X0)]; rfl, by rw [cell_of_heap ((hb.block _ (heap_lt X0)).trans X0)]; rfl, by rw [cell_of_heap ((hb.block _ (heap_lt X0)).trans X0)]; rfl, by rw [cell_of_heap ((hb.block _ (heap_lt X0)).trans X0)]; rfl, Nat.lt_of_lt_of_le (by omega) hb.size⟩ : W.cell? ⟨w.heap.size, 0, none⟩ = some (St x0) ∧ W.cell? ⟨w.heap.size, 1, none⟩ = some (St x1) ∧ W.cell? ⟨w.heap.size, 2, none⟩ = some (St x2) ∧ W.cell? ⟨w.heap.size, 3, none⟩ = some (St x3) ∧ W.cell? ⟨w.heap.size, 4, none⟩ = some (St x4) ∧ W.cell? ⟨w.heap.size, 5, none⟩ = some (St x5) ∧ w.heap.size < W.heap.size))
   have HE : Hid (b0 = w.alloc (.cells #[St x0, St x1, St x2, St x3, St x4, St x5] 24)) := hid (by rw [hb0])
   clear X0 z0 l0 hb0
   go_enter Tryz.func16, Tryz.ntmps16
   go_wp2_with fail
   have HR := hid (Below.refl b0.heap.size b0)
   have hcc := C1.out b0 (HB0.out.trans (HR.out.mono HB0.out.size))
   rw [HE.out] at hcc
   refine hcc.mono ?_
   clear hcc C1
   rintro _ v1 ⟨rfl, hb⟩
   rw [← HE.out] at hb
   have HR2 := hid (HR.out.trans (hb.mono HR.out.size))
   clear hb HR HE
   have HR := HR2
   clear HR2
   obtain ⟨k0, k1, k2, k3, k4, k5, k6⟩ := HC.out v1 HR.out
   obtain ⟨a1, ha1⟩ : ∃ b, b = v1.alloc (.cells #[St y0, St y1, St y2, St y3, St y4] 33) := ⟨_, rfl⟩
   have hz : Below v1.heap.size v1 a1 := by rw [ha1]; exact bel_alloc v1 _
   have XN1 : Hid (a1.heap[v1.heap.size]? = some (.cells #[St y0, St y1, St y2, St y3, St y4] 33 (0, 0))) := hid (by rw [ha1]; exact heap_alloc_new v1 _)
   have HR2 := hid (HR.out.trans (hz.mono HR.out.size))
   have HE1 := hid ha1
   clear hz ha1 HR
   have HR := HR2
   clear HR2
   go_wp2_with fail
   clear k0 k1 k2 k3 k4 k5 k6
   have hcc := C2.out a1 (HB0.out.trans (HR.out.mono HB0.out.size))
   rw [HE1.out] at hcc
   refine hcc.mono ?_
   clear hcc C2
   rintro _ v2 ⟨rfl, hb⟩
   rw [← HE1.out] at hb
   have HR2 := hid (HR.out.trans (hb.mono HR.out.size))
   replace XN1 := hid ((hb.block _ (heap_lt XN1.out)).trans XN1.out)
   clear hb HR HE1
   have HR := HR2
   clear HR2
   obtain ⟨k0, k1, k2, k3, k4, k5, k6⟩ := HC.out v2 HR.out
   obtain ⟨a2, ha2⟩ : ∃ b, b = v2.alloc (.cells #[St y0, St y1, St y2, St y3, St y4] 33) := ⟨_, rfl⟩
   have hz : Below v2.heap.size v2 a2 := by rw [ha2]; exact bel_alloc v2 _
   have ltXN1 := heap_lt XN1.out
   replace XN1 := hid ((hz.block _ (heap_lt XN1.out)).trans XN1.out)
   have XN2 : Hid (a2.heap[v2.heap.size]? = some (.cells #[St y0, St y1, St y2, St y3, St y4] 33 (0, 0))) := hid (by rw [ha2]; exact heap_alloc_new v2 _)
   have HR2 := hid (HR.out.trans (hz.mono HR.out.size))
   have HE2 := hid ha2
   clear hz ha2 HR
   have HR := HR2
   clear HR2
   go_wp2_with fail
   clear k0 k1 k2 k3 k4 k5 k6 ltXN1
   have hcc := C3.out a2 (HB0.out.trans (HR.out.mono HB0.out.size))
   rw [HE2.out] at hcc
   refine hcc.mono ?_
   clear hcc C3
   rintro _ v3 ⟨rfl, hb⟩
   rw [← HE2.out] at hb
   have HR2 := hid (HR.out.trans (hb.mono HR.out.size))
   replace XN1 := hid ((hb.block _ (heap_lt XN1.out)).trans XN1.out)
   replace XN2 := hid ((hb.block _ (heap_lt XN2.out)).trans XN2.out)
   clear hb HR HE2
   have HR := HR2
   clear HR2
   obtain ⟨k0, k1, k2, k3, k4, k5, k6⟩ := HC.out v3 HR.out
   go_wp2_with fail
   clear k0 k1 k2 k3 k4 k5 k6
   have hcc := C4.out v3 (HB0.out.trans (HR.out.mono HB0.out.size))
   refine hcc.mono ?_
   clear hcc C4
   rintro _ v4 ⟨rfl, hb⟩
   have HR2 := hid (HR.out.trans (hb.mono HR.out.size))
   replace XN1 := hid ((hb.block _ (heap_lt XN1.out)).trans XN1.out)
   replace XN2 := hid ((hb.block _ (heap_lt XN2.out)).trans XN2.out)
   clear hb HR
   have HR := HR2
   clear HR2
   obtain ⟨k0, k1, k2, k3, k4, k5, k6⟩ := HC.out v4 HR.out
   go_wp2_with fail
   clear k0 k1 k2 k3 k4 k5 k6
   have hcc := C5.out v4 (HB0.out.trans (HR.out.mono HB0.out.size))
   refine hcc.mono ?_
   clear hcc C5
   rintro _ v5 ⟨rfl, hb⟩
   have HR2 := hid (HR.out.trans (hb.mono HR.out.size))
   replace XN1 := hid ((hb.block _ (heap_lt XN1.out)).trans XN1.out)
   replace XN2 := hid ((hb.block _ (heap_lt XN2.out)).trans XN2.out)
   clear hb HR
   have HR := HR2
   clear HR2
   obtain ⟨k0, k1, k2, k3, k4, k5, k6⟩ := HC.out v5 HR.out
   go_wp2_with fail
   clear k0 k1 k2 k3 k4 k5 k6
   have hcc := C6.out v5 (HB0.out.trans (HR.out.mono HB0.out.size))
   refine hcc.mono ?_
   clear hcc C6
   rintro _ v6 ⟨rfl, hb⟩
   have HR2 := hid (HR.out.trans (hb.mono HR.out.size))
   replace XN1 := hid ((hb.block _ (heap_lt XN1.out)).trans XN1.out)
   replace XN2 := hid ((hb.block _ (heap_lt XN2.out)).trans XN2.out)
   clear hb HR
   have HR := HR2
   clear HR2
   obtain ⟨k0, k1, k2, k3, k4, k5, k6⟩ := HC.out v6 HR.out
   have jXN10 : v6.cell? ⟨v1.heap.size, 0, none⟩ = some (St y0) := by rw [cell_of_heap XN1.out]; rfl
   have jXN11 : v6.cell? ⟨v1.heap.size, 1, none⟩ = some (St y1) := by rw [cell_of_heap XN1.out]; rfl
   have jXN12 : v6.cell? ⟨v1.heap.size, 2, none⟩ = some (St y2) := by rw [cell_of_heap XN1.out]; rfl
   have jXN13 : v6.cell? ⟨v1.heap.size, 3, none⟩ = some (St y3) := by rw [cell_of_heap XN1.out]; rfl
   have jXN14 : v6.cell? ⟨v1.heap.size, 4, none⟩ = some (St y4) := by rw [cell_of_heap XN1.out]; rfl
   have jXN20 : v6.cell? ⟨v2.heap.size, 0, none⟩ = some (St y0) := by rw [cell_of_heap XN2.out]; rfl
   have jXN21 : v6.cell? ⟨v2.heap.size, 1, none⟩ = some (St y1) := by rw [cell_of_heap XN2.out]; rfl
   have jXN22 : v6.cell? ⟨v2.heap.size, 2, none⟩ = some (St y2) := by rw [cell_of_heap XN2.out]; rfl
   have jXN23 : v6.cell? ⟨v2.heap.size, 3, none⟩ = some (St y3) := by rw [cell_of_heap XN2.out]; rfl
   have jXN24 : v6.cell? ⟨v2.heap.size, 4, none⟩ = some (St y4) := by rw [cell_of_heap XN2.out]; rfl
   go_wp2_with fail
   clear k0 k1 k2 k3 k4 k5 k6 jXN10 jXN11 jXN12 jXN13 jXN14 jXN20 jXN21 jXN22 jXN23 jXN24
   refine (HW.out v6 (HB0.out.trans (HR.out.mono HB0.out.size))).mono ?_
   rintro _ w9 ⟨rfl, hb⟩
   have HB9 := hid (HB0.out.trans ((HR.out.trans (hb.mono HR.out.size)).mono HB0.out.size))
   clear hb
   go_wp2_with fail
   go_ret
   exact ⟨rfl, HB9.out⟩
end Go.Proofs.YtkifchjpgdmcoaaGreatDoor

/- Keys: KeysSets. -/
namespace Go.Proofs.YtkifchjpgdmcoaaGreatDoor
open Go.RowKit
set_option maxHeartbeats 4000000 in
theorem setsLaw_any (o0 o1 o2 o3 o4 q0 q1 q2 q3 q4 pt : Bs) (m0 : o3.length ≤ 140737488355328) (m1 : o4.length ≤ 140737488355328) (m2 : o0.length ≤ 140737488355328) (m3 : q1.length ≤ 140737488355328) (m4 : q2.length ≤ 140737488355328) (m5 : q4.length ≤ 140737488355328) (m6 : pt.length ≤ 140737488355328) (w : World) (hp : Pw w) (hl : Lb w) : Calls Tryz.prog 17 #[.agg #[St o0, St o1, St o2, St o3, St o4], .agg #[St q0, St q1, St q2, St q3, St q4], St pt] w fun e w' => e = .returned (.bool true) ∧ Below w.heap.size w w' := by
 have s0 : (⟨o3.toArray⟩ : ByteArray).size = o3.length := st_size o3
 have s1 : (⟨o4.toArray⟩ : ByteArray).size = o4.length := st_size o4
 have s2 : (⟨o0.toArray⟩ : ByteArray).size = o0.length := st_size o0
 have s3 : (⟨q1.toArray⟩ : ByteArray).size = q1.length := st_size q1
 have s4 : (⟨q2.toArray⟩ : ByteArray).size = q2.length := st_size q2
 have s5 : (⟨q4.toArray⟩ : ByteArray).size = q4.length := st_size q4
 have s6 : (⟨pt.toArray⟩ : ByteArray).size = pt.length := st_size pt
 by_cases h0 : 20000 < o3.length + o4.length + o0.length + q1.length + q2.length + q4.length + pt.length
 · have h0' : (20000 : Int) < (o3.length : Int) + (o4.length : Int) + (o0.length : Int) + (q1.length : Int) + (q2.length : Int) + (q4.length : Int) + (pt.length : Int) := by omega
   clear hp hl
   go_enter Tryz.func17, Tryz.ntmps17
   go_wp2_with fail
   go_ret
   exact ⟨rfl, (bel_alloc w _).alloc (by simp) _⟩
 · have h0' : ¬ (20000 : Int) < (o3.length : Int) + (o4.length : Int) + (o0.length : Int) + (q1.length : Int) + (q2.length : Int) + (q4.length : Int) + (pt.length : Int) := by omega
   have C1 := hid (fun (W : World) (_ : Below w.heap.size w W) => set_any ⟨o0, o1, o2, o3, o4⟩ ⟨q0, q1, q2, q3, q4⟩ pt W)
   have C2 := hid (fun (W : World) (_ : Below w.heap.size w W) => rset_any ⟨o0, o1, o2, o3, o4⟩ ⟨q0, q1, q2, q3, q4⟩ pt W)
   have C3 := hid (fun (W : World) (_ : Below w.heap.size w W) => bindk_any o0 pt W)
   have C4 := hid (fun (W : World) (_ : Below w.heap.size w W) => rbind_any o0 pt W)
   have C5 := hid (fun (W : World) (_ : Below w.heap.size w W) => revoke_any pt o0 W)
   have C6 := hid (fun (W : World) (_ : Below w.heap.size w W) => rrevoke_any pt o0 W)
   have HW := hid (fun (W : World) (hb : Below w.heap.size w W) => works_any W (hp.below hb) (hl.below hb))
   clear hp hl h0 
   unfold K5.v at C1 C2
   dsimp only at C1 C2
   generalize setRes ⟨o0, o1, o2, o3, o4⟩ ⟨q0, q1, q2, q3, q4⟩ pt = P at C1 C2
   generalize bRes 75 [] [o0, pt] = S at C3 C4
   generalize bRes 86 [] [pt, o0] = Q at C5 C6
   obtain ⟨⟨y0, y1, y2, y3, y4⟩, e⟩ := P
   obtain ⟨c, g⟩ := S
   obtain ⟨p, i⟩ := Q
   dsimp only at C1 C2 C3 C4 C5 C6
   obtain ⟨b0, hb0⟩ : ∃ b, b = w.alloc (.cells #[St o0, St o1, St o2, St o3, St o4] 33) := ⟨_, rfl⟩
   have z0 : b0.heap.size = w.heap.size + 1 := by rw [hb0]; simp
   have l0 : Below w.heap.size w b0 := by rw [hb0]; exact bel_alloc w _
   obtain ⟨b1, hb1⟩ : ∃ b, b = b0.alloc (.cells #[St q0, St q1, St q2, St q3, St q4] 33) := ⟨_, rfl⟩
   have z1 : b1.heap.size = w.heap.size + 2 := by rw [hb1]; simp [z0]
   have l1 : Below b0.heap.size b0 b1 := by rw [hb1]; exact bel_alloc b0 _
   have HB0 : Hid (Below w.heap.size w b1) := hid ((l0).trans (l1.mono (by omega)))
   have X0 : b1.heap[w.heap.size]? = some (.cells #[St o0, St o1, St o2, St o3, St o4] 33 (0, 0)) := ((l1.block _ (by omega)).trans (by rw [hb0]; exact heap_alloc_new w _))
   have X1 : b1.heap[w.heap.size + 1]? = some (.cells #[St q0, St q1, St q2, St q3, St q4] 33 (0, 0)) := (by rw [hb1, ← z0]; exact heap_alloc_new b0 _)
   have HC := hid (fun (W : World) (hb : Below b1.heap.size b1 W) => (⟨by rw [cell_of_heap ((hb.block _ (heap_lt X0)).trans X0)]; rfl, by rw [cell_of_heap ((hb.block _ (heap_lt X0)).trans X0)]; rfl, by rw [cell_of_heap ((hb.block _ (heap_lt X0)).trans X0)]; rfl, by rw [cell_of_heap ((hb.block _ (heap_lt X0)).trans X0)]; rfl, by rw [cell_of_heap ((hb.block _ (heap_lt X0)).trans X0)]; rfl, by rw [cell_of_heap ((hb.block _ (heap_lt X1)).trans X1)]; rfl, by rw [cell_of_heap ((hb.block _ (heap_lt X1)).trans X1)]; rfl, by rw [cell_of_heap ((hb.block _ (heap_lt X1)).trans X1)]; rfl, by rw [cell_of_heap ((hb.block _ (heap_lt X1)).trans X1)]; rfl, by rw [cell_of_heap ((hb.block _ (heap_lt X1)).trans X1)]; rfl, Nat.lt_of_lt_of_le (by omega) hb.size, Nat.lt_of_lt_of_le (by omega) hb.size⟩ : W.cell? ⟨w.heap.size, 0, none⟩ = some (St o0) ∧ W.cell? ⟨w.heap.size, 1, none⟩ = some (St o1) ∧ W.cell? ⟨w.heap.size, 2, none⟩ = some (St o2) ∧ W.cell? ⟨w.heap.size, 3, none⟩ = some (St o3) ∧ W.cell? ⟨w.heap.size, 4, none⟩ = some (St o4) ∧ W.cell? ⟨w.heap.size + 1, 0, none⟩ = some (St q0) ∧ W.cell? ⟨w.heap.size + 1, 1, none⟩ = some (St q1) ∧ W.cell? ⟨w.heap.size + 1, 2, none⟩ = some (St q2) ∧ W.cell? ⟨w.heap.size + 1, 3, none⟩ = some (St q3) ∧ W.cell? ⟨w.heap.size + 1, 4, none⟩ = some (St q4) ∧ w.heap.size < W.heap.size ∧ w.heap.size + 1 < W.heap.size))
   have HE : Hid (b1 = (w.alloc (.cells #[St o0, St o1, St o2, St o3, St o4] 33)).alloc (.cells #[St q0, St q1, St q2, St q3, St q4] 33)) := hid (by rw [hb1, hb0])
   clear X0 z0 l0 hb0 X1 z1 l1 hb1
   go_enter Tryz.func17, Tryz.ntmps17
   go_wp2_with fail
   have HR := hid (Below.refl b1.heap.size b1)
   have hcc := C1.out b1 (HB0.out.trans (HR.out.mono HB0.out.size))
   rw [HE.out] at hcc
   refine hcc.mono ?_
   clear hcc C1
   rintro _ v1 ⟨rfl, hb⟩
   rw [← HE.out] at hb
   have HR2 := hid (HR.out.trans (hb.mono HR.out.size))
   clear hb HR HE
   have HR := HR2
   clear HR2
   obtain ⟨k0, k1, k2, k3, k4, k5, k6, k7, k8, k9, k10, k11⟩ := HC.out v1 HR.out
   obtain ⟨a1, ha1⟩ : ∃ b, b = v1.alloc (.cells #[St y0, St y1, St y2, St y3, St y4] 26) := ⟨_, rfl⟩
   have hz : Below v1.heap.size v1 a1 := by rw [ha1]; exact bel_alloc v1 _
   have XN1 : Hid (a1.heap[v1.heap.size]? = some (.cells #[St y0, St y1, St y2, St y3, St y4] 26 (0, 0))) := hid (by rw [ha1]; exact heap_alloc_new v1 _)
   have HR2 := hid (HR.out.trans (hz.mono HR.out.size))
   have HE1 := hid ha1
   clear hz ha1 HR
   have HR := HR2
   clear HR2
   go_wp2_with fail
   clear k0 k1 k2 k3 k4 k5 k6 k7 k8 k9 k10 k11
   have hcc := C2.out a1 (HB0.out.trans (HR.out.mono HB0.out.size))
   rw [HE1.out] at hcc
   refine hcc.mono ?_
   clear hcc C2
   rintro _ v2 ⟨rfl, hb⟩
   rw [← HE1.out] at hb
   have HR2 := hid (HR.out.trans (hb.mono HR.out.size))
   replace XN1 := hid ((hb.block _ (heap_lt XN1.out)).trans XN1.out)
   clear hb HR HE1
   have HR := HR2
   clear HR2
   obtain ⟨k0, k1, k2, k3, k4, k5, k6, k7, k8, k9, k10, k11⟩ := HC.out v2 HR.out
   obtain ⟨a2, ha2⟩ : ∃ b, b = v2.alloc (.cells #[St y0, St y1, St y2, St y3, St y4] 26) := ⟨_, rfl⟩
   have hz : Below v2.heap.size v2 a2 := by rw [ha2]; exact bel_alloc v2 _
   have ltXN1 := heap_lt XN1.out
   replace XN1 := hid ((hz.block _ (heap_lt XN1.out)).trans XN1.out)
   have XN2 : Hid (a2.heap[v2.heap.size]? = some (.cells #[St y0, St y1, St y2, St y3, St y4] 26 (0, 0))) := hid (by rw [ha2]; exact heap_alloc_new v2 _)
   have HR2 := hid (HR.out.trans (hz.mono HR.out.size))
   have HE2 := hid ha2
   clear hz ha2 HR
   have HR := HR2
   clear HR2
   go_wp2_with fail
   clear k0 k1 k2 k3 k4 k5 k6 k7 k8 k9 k10 k11 ltXN1
   have hcc := C3.out a2 (HB0.out.trans (HR.out.mono HB0.out.size))
   rw [HE2.out] at hcc
   refine hcc.mono ?_
   clear hcc C3
   rintro _ v3 ⟨rfl, hb⟩
   rw [← HE2.out] at hb
   have HR2 := hid (HR.out.trans (hb.mono HR.out.size))
   replace XN1 := hid ((hb.block _ (heap_lt XN1.out)).trans XN1.out)
   replace XN2 := hid ((hb.block _ (heap_lt XN2.out)).trans XN2.out)
   clear hb HR HE2
   have HR := HR2
   clear HR2
   obtain ⟨k0, k1, k2, k3, k4, k5, k6, k7, k8, k9, k10, k11⟩ := HC.out v3 HR.out
   go_wp2_with fail
   clear k0 k1 k2 k3 k4 k5 k6 k7 k8 k9 k10 k11
   have hcc := C4.out v3 (HB0.out.trans (HR.out.mono HB0.out.size))
   refine hcc.mono ?_
   clear hcc C4
   rintro _ v4 ⟨rfl, hb⟩
   have HR2 := hid (HR.out.trans (hb.mono HR.out.size))
   replace XN1 := hid ((hb.block _ (heap_lt XN1.out)).trans XN1.out)
   replace XN2 := hid ((hb.block _ (heap_lt XN2.out)).trans XN2.out)
   clear hb HR
   have HR := HR2
   clear HR2
   obtain ⟨k0, k1, k2, k3, k4, k5, k6, k7, k8, k9, k10, k11⟩ := HC.out v4 HR.out
   go_wp2_with fail
   clear k0 k1 k2 k3 k4 k5 k6 k7 k8 k9 k10 k11
   have hcc := C5.out v4 (HB0.out.trans (HR.out.mono HB0.out.size))
   refine hcc.mono ?_
   clear hcc C5
   rintro _ v5 ⟨rfl, hb⟩
   have HR2 := hid (HR.out.trans (hb.mono HR.out.size))
   replace XN1 := hid ((hb.block _ (heap_lt XN1.out)).trans XN1.out)
   replace XN2 := hid ((hb.block _ (heap_lt XN2.out)).trans XN2.out)
   clear hb HR
   have HR := HR2
   clear HR2
   obtain ⟨k0, k1, k2, k3, k4, k5, k6, k7, k8, k9, k10, k11⟩ := HC.out v5 HR.out
   go_wp2_with fail
   clear k0 k1 k2 k3 k4 k5 k6 k7 k8 k9 k10 k11
   have hcc := C6.out v5 (HB0.out.trans (HR.out.mono HB0.out.size))
   refine hcc.mono ?_
   clear hcc C6
   rintro _ v6 ⟨rfl, hb⟩
   have HR2 := hid (HR.out.trans (hb.mono HR.out.size))
   replace XN1 := hid ((hb.block _ (heap_lt XN1.out)).trans XN1.out)
   replace XN2 := hid ((hb.block _ (heap_lt XN2.out)).trans XN2.out)
   clear hb HR
   have HR := HR2
   clear HR2
   obtain ⟨k0, k1, k2, k3, k4, k5, k6, k7, k8, k9, k10, k11⟩ := HC.out v6 HR.out
   have jXN10 : v6.cell? ⟨v1.heap.size, 0, none⟩ = some (St y0) := by rw [cell_of_heap XN1.out]; rfl
   have jXN11 : v6.cell? ⟨v1.heap.size, 1, none⟩ = some (St y1) := by rw [cell_of_heap XN1.out]; rfl
   have jXN12 : v6.cell? ⟨v1.heap.size, 2, none⟩ = some (St y2) := by rw [cell_of_heap XN1.out]; rfl
   have jXN13 : v6.cell? ⟨v1.heap.size, 3, none⟩ = some (St y3) := by rw [cell_of_heap XN1.out]; rfl
   have jXN14 : v6.cell? ⟨v1.heap.size, 4, none⟩ = some (St y4) := by rw [cell_of_heap XN1.out]; rfl
   have jXN20 : v6.cell? ⟨v2.heap.size, 0, none⟩ = some (St y0) := by rw [cell_of_heap XN2.out]; rfl
   have jXN21 : v6.cell? ⟨v2.heap.size, 1, none⟩ = some (St y1) := by rw [cell_of_heap XN2.out]; rfl
   have jXN22 : v6.cell? ⟨v2.heap.size, 2, none⟩ = some (St y2) := by rw [cell_of_heap XN2.out]; rfl
   have jXN23 : v6.cell? ⟨v2.heap.size, 3, none⟩ = some (St y3) := by rw [cell_of_heap XN2.out]; rfl
   have jXN24 : v6.cell? ⟨v2.heap.size, 4, none⟩ = some (St y4) := by rw [cell_of_heap XN2.out]; rfl
   go_wp2_with fail
   clear k0 k1 k2 k3 k4 k5 k6 k7 k8 k9 k10 k11 jXN10 jXN11 jXN12 jXN13 jXN14 jXN20 jXN21 jXN22 jXN23 jXN24
   refine (HW.out v6 (HB0.out.trans (HR.out.mono HB0.out.size))).mono ?_
   rintro _ w9 ⟨rfl, hb⟩
   have HB9 := hid (HB0.out.trans ((HR.out.trans (hb.mono HR.out.size)).mono HB0.out.size))
   clear hb
   go_wp2_with fail
   go_ret
   exact ⟨rfl, HB9.out⟩
end Go.Proofs.YtkifchjpgdmcoaaGreatDoor
