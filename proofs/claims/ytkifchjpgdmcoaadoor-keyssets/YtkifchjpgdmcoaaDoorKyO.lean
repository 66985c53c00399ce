/- Keys: KeysSets. -/
import Derived.Test.YtkifchjpgdmcoaaDoorKyL
namespace Go.Proofs.YtkifchjpgdmcoaaDoor
open Go.RowKit

set_option maxHeartbeats 4000000 in
theorem setsLaw_any (o0 o1 o2 o3 o4 q0 q1 q2 q3 q4 pt : Bs) (m0 : o3.length ≤ 140737488355328) (m1 : o4.length ≤ 140737488355328) (m2 : o0.length ≤ 140737488355328) (m3 : q1.length ≤ 140737488355328) (m4 : q2.length ≤ 140737488355328) (m5 : q4.length ≤ 140737488355328) (m6 : pt.length ≤ 140737488355328) (w : World) (hp : Pw w) (hl : Lb w) : Calls Tryd.prog 5 #[.agg #[St o0, St o1, St o2, St o3, St o4], .agg #[St q0, St q1, St q2, St q3, St q4], St pt] w fun e w' => e = .returned (.bool true) ∧ Below w.heap.size w w' := by
  have s0 : (⟨o3.toArray⟩ : ByteArray).size = o3.length := st_size o3
  have s1 : (⟨o4.toArray⟩ : ByteArray).size = o4.length := st_size o4
  have s2 : (⟨o0.toArray⟩ : ByteArray).size = o0.length := st_size o0
  have s3 : (⟨q1.toArray⟩ : ByteArray).size = q1.length := st_size q1
  have s4 : (⟨q2.toArray⟩ : ByteArray).size = q2.length := st_size q2
  have s5 : (⟨q4.toArray⟩ : ByteArray).size = q4.length := st_size q4
  have s6 : (⟨pt.toArray⟩ : ByteArray).size = pt.length := st_size pt
  by_cases h0 : 20000 < o3.length + o4.length + o0.length + q1.length + q2.length + q4.length + pt.length
  · have h0' : (20000 : Int) < (o3.length : Int) + (o4.length : Int) + (o0.length : Int) + (q1.length : Int) + (q2.length : Int) + (q4.length : Int) + (pt.length : Int) := by omega
    clear hp hl
    go_enter Tryd.func5, Tryd.ntmps5
    go_wp2_with fail
    go_ret
    exact ⟨rfl, (bel_alloc w _).alloc (by simp) _⟩
  · have h0' : ¬ (20000 : Int) < (o3.length : Int) + (o4.length : Int) + (o0.length : Int) + (q1.length : Int) + (q2.length : Int) + (q4.length : Int) + (pt.length : Int) := by omega
    have C1 := hid (fun (W : World) (_ : Below w.heap.size w W) => set_any ⟨o0, o1, o2, o3, o4⟩ ⟨q0, q1, q2, q3, q4⟩ pt W)
    have C2 := hid (fun (W : World) (_ : Below w.heap.size w W) => rset_any ⟨o0, o1, o2, o3, o4⟩ ⟨q0, q1, q2, q3, q4⟩ pt W)
    have C3 := hid (fun (W : World) (_ : Below w.heap.size w W) => bindk_any o0 pt W)
    have C4 := hid (fun (W : World) (_ : Below w.heap.size w W) => rbind_any o0 pt W)
    have C5 := hid (fun (W : World) (_ : Below w.heap.size w W) => revoke_any pt o0 W)
    have C6 := hid (fun (W : World) (_ : Below w.heap.size w W) => rrevoke_any pt o0 W)
    have HW := hid (fun (W : World) (hb : Below w.heap.size w W) => works_any W (hp.below hb) (hl.below hb))
    clear hp hl h0 
    unfold K5.v at C1 C2
    dsimp only at C1 C2
    generalize setRes ⟨o0, o1, o2, o3, o4⟩ ⟨q0, q1, q2, q3, q4⟩ pt = P at C1 C2
    generalize bRes 75 [] [o0, pt] = S at C3 C4
    generalize bRes 86 [] [pt, o0] = Q at C5 C6
    obtain ⟨⟨y0, y1, y2, y3, y4⟩, e⟩ := P
    obtain ⟨c, g⟩ := S
    obtain ⟨p, i⟩ := Q
    dsimp only at C1 C2 C3 C4 C5 C6
    obtain ⟨b0, hb0⟩ : ∃ b, b = w.alloc (.cells #[St o0, St o1, St o2, St o3, St o4] 34) := ⟨_, rfl⟩
    have z0 : b0.heap.size = w.heap.size + 1 := by rw [hb0]; simp
    have l0 : Below w.heap.size w b0 := by rw [hb0]; exact bel_alloc w _
    obtain ⟨b1, hb1⟩ : ∃ b, b = b0.alloc (.cells #[St q0, St q1, St q2, St q3, St q4] 34) := ⟨_, rfl⟩
    have z1 : b1.heap.size = w.heap.size + 2 := by rw [hb1]; simp [z0]
    have l1 : Below b0.heap.size b0 b1 := by rw [hb1]; exact bel_alloc b0 _
    have HB0 : Hid (Below w.heap.size w b1) := hid ((l0).trans (l1.mono (by omega)))
    have X0 : b1.heap[w.heap.size]? = some (.cells #[St o0, St o1, St o2, St o3, St o4] 34 (0, 0)) := ((l1.block _ (by omega)).trans (by rw [hb0]; exact heap_alloc_new w _))
    have X1 : b1.heap[w.heap.size + 1]? = some (.cells #[St q0, St q1, St q2, St q3, St q4] 34 (0, 0)) := (by rw [hb1, ← z0]; exact heap_alloc_new b0 _)
    have HC := hid (fun (W : World) (hb : Below b1.heap.size b1 W) => (⟨by rw [cell_of_heap ((hb.block _ (heap_lt X0)).trans X0)]; rfl, by rw [cell_of_heap ((hb.block _ (heap_lt X0)).trans X0)]; rfl, by rw [cell_of_heap ((hb.block _ (heap_lt X0)).trans X0)]; rfl, by rw [cell_of_heap ((hb.block _ (heap_lt X0)).trans X0)]; rfl, by rw [cell_of_heap ((hb.block _ (heap_lt X0)).trans X0)]; rfl, by rw [cell_of_heap ((hb.block _ (heap_lt X1)).trans X1)]; rfl, by rw [cell_of_heap ((hb.block _ (heap_lt X1)).trans X1)]; rfl, by rw [cell_of_heap ((hb.block _ (heap_lt X1)).trans X1)]; rfl, by rw [cell_of_heap ((hb.block _ (heap_lt X1)).trans X1)]; rfl, by rw [cell_of_heap ((hb.block _ (heap_lt X1)).trans X1)]; rfl, Nat.lt_of_lt_of_le (by omega) hb.size, Nat.lt_of_lt_of_le (by omega) hb.size⟩ : W.cell? ⟨w.heap.size, 0, none⟩ = some (St o0) ∧ W.cell? ⟨w.heap.size, 1, none⟩ = some (St o1) ∧ W.cell? ⟨w.heap.size, 2, none⟩ = some (St o2) ∧ W.cell? ⟨w.heap.size, 3, none⟩ = some (St o3) ∧ W.cell? ⟨w.heap.size, 4, none⟩ = some (St o4) ∧ W.cell? ⟨w.heap.size + 1, 0, none⟩ = some (St q0) ∧ W.cell? ⟨w.heap.size + 1, 1, none⟩ = some (St q1) ∧ W.cell? ⟨w.heap.size + 1, 2, none⟩ = some (St q2) ∧ W.cell? ⟨w.heap.size + 1, 3, none⟩ = some (St q3) ∧ W.cell? ⟨w.heap.size + 1, 4, none⟩ = some (St q4) ∧ w.heap.size < W.heap.size ∧ w.heap.size + 1 < W.heap.size))
    have HE : Hid (b1 = (w.alloc (.cells #[St o0, St o1, St o2, St o3, St o4] 34)).alloc (.cells #[St q0, St q1, St q2, St q3, St q4] 34)) := hid (by rw [hb1, hb0])
    clear X0 z0 l0 hb0 X1 z1 l1 hb1
    go_enter Tryd.func5, Tryd.ntmps5
    go_wp2_with fail
    have HR := hid (Below.refl b1.heap.size b1)
    have hcc := C1.out b1 (HB0.out.trans (HR.out.mono HB0.out.size))
    rw [HE.out] at hcc
    refine hcc.mono ?_
    clear hcc C1
    rintro _ v1 ⟨rfl, hb⟩
    rw [← HE.out] at hb
    have HR2 := hid (HR.out.trans (hb.mono HR.out.size))
    clear hb HR HE
    have HR := HR2
    clear HR2
    obtain ⟨k0, k1, k2, k3, k4, k5, k6, k7, k8, k9, k10, k11⟩ := HC.out v1 HR.out
    obtain ⟨a1, ha1⟩ : ∃ b, b = v1.alloc (.cells #[St y0, St y1, St y2, St y3, St y4] 40) := ⟨_, rfl⟩
    have hz : Below v1.heap.size v1 a1 := by rw [ha1]; exact bel_alloc v1 _
    have XN1 : Hid (a1.heap[v1.heap.size]? = some (.cells #[St y0, St y1, St y2, St y3, St y4] 40 (0, 0))) := hid (by rw [ha1]; exact heap_alloc_new v1 _)
    have HR2 := hid (HR.out.trans (hz.mono HR.out.size))
    have HE1 := hid ha1
    clear hz ha1 HR
    have HR := HR2
    clear HR2
    go_wp2_with fail
    clear k0 k1 k2 k3 k4 k5 k6 k7 k8 k9 k10 k11
    have hcc := C2.out a1 (HB0.out.trans (HR.out.mono HB0.out.size))
    rw [HE1.out] at hcc
    refine hcc.mono ?_
    clear hcc C2
    rintro _ v2 ⟨rfl, hb⟩
    rw [← HE1.out] at hb
    have HR2 := hid (HR.out.trans (hb.mono HR.out.size))
    have XN12 := hid ((hb.block _ (heap_lt XN1.out)).trans XN1.out)
    clear XN1
    have XN1 := XN12
    clear XN12
    clear hb HR HE1
    have HR := HR2
    clear HR2
    obtain ⟨k0, k1, k2, k3, k4, k5, k6, k7, k8, k9, k10, k11⟩ := HC.out v2 HR.out
    obtain ⟨a2, ha2⟩ : ∃ b, b = v2.alloc (.cells #[St y0, St y1, St y2, St y3, St y4] 40) := ⟨_, rfl⟩
    have hz : Below v2.heap.size v2 a2 := by rw [ha2]; exact bel_alloc v2 _
    have ltXN1 := heap_lt XN1.out
    have XN12 := hid ((hz.block _ (heap_lt XN1.out)).trans XN1.out)
    clear XN1
    have XN1 := XN12
    clear XN12
    have XN2 : Hid (a2.heap[v2.heap.size]? = some (.cells #[St y0, St y1, St y2, St y3, St y4] 40 (0, 0))) := hid (by rw [ha2]; exact heap_alloc_new v2 _)
    have HR2 := hid (HR.out.trans (hz.mono HR.out.size))
    have HE2 := hid ha2
    clear hz ha2 HR
    have HR := HR2
    clear HR2
    go_wp2_with fail
    clear k0 k1 k2 k3 k4 k5 k6 k7 k8 k9 k10 k11 ltXN1
    have hcc := C3.out a2 (HB0.out.trans (HR.out.mono HB0.out.size))
    rw [HE2.out] at hcc
    refine hcc.mono ?_
    clear hcc C3
    rintro _ v3 ⟨rfl, hb⟩
    rw [← HE2.out] at hb
    have HR2 := hid (HR.out.trans (hb.mono HR.out.size))
    have XN12 := hid ((hb.block _ (heap_lt XN1.out)).trans XN1.out)
    clear XN1
    have XN1 := XN12
    clear XN12
    have XN22 := hid ((hb.block _ (heap_lt XN2.out)).trans XN2.out)
    clear XN2
    have XN2 := XN22
    clear XN22
    clear hb HR HE2
    have HR := HR2
    clear HR2
    obtain ⟨k0, k1, k2, k3, k4, k5, k6, k7, k8, k9, k10, k11⟩ := HC.out v3 HR.out
    go_wp2_with fail
    clear k0 k1 k2 k3 k4 k5 k6 k7 k8 k9 k10 k11
    have hcc := C4.out v3 (HB0.out.trans (HR.out.mono HB0.out.size))
    refine hcc.mono ?_
    clear hcc C4
    rintro _ v4 ⟨rfl, hb⟩
    have HR2 := hid (HR.out.trans (hb.mono HR.out.size))
    have XN12 := hid ((hb.block _ (heap_lt XN1.out)).trans XN1.out)
    clear XN1
    have XN1 := XN12
    clear XN12
    have XN22 := hid ((hb.block _ (heap_lt XN2.out)).trans XN2.out)
    clear XN2
    have XN2 := XN22
    clear XN22
    clear hb HR
    have HR := HR2
    clear HR2
    obtain ⟨k0, k1, k2, k3, k4, k5, k6, k7, k8, k9, k10, k11⟩ := HC.out v4 HR.out
    go_wp2_with fail
    clear k0 k1 k2 k3 k4 k5 k6 k7 k8 k9 k10 k11
    have hcc := C5.out v4 (HB0.out.trans (HR.out.mono HB0.out.size))
    refine hcc.mono ?_
    clear hcc C5
    rintro _ v5 ⟨rfl, hb⟩
    have HR2 := hid (HR.out.trans (hb.mono HR.out.size))
    have XN12 := hid ((hb.block _ (heap_lt XN1.out)).trans XN1.out)
    clear XN1
    have XN1 := XN12
    clear XN12
    have XN22 := hid ((hb.block _ (heap_lt XN2.out)).trans XN2.out)
    clear XN2
    have XN2 := XN22
    clear XN22
    clear hb HR
    have HR := HR2
    clear HR2
    obtain ⟨k0, k1, k2, k3, k4, k5, k6, k7, k8, k9, k10, k11⟩ := HC.out v5 HR.out
    go_wp2_with fail
    clear k0 k1 k2 k3 k4 k5 k6 k7 k8 k9 k10 k11
    have hcc := C6.out v5 (HB0.out.trans (HR.out.mono HB0.out.size))
    refine hcc.mono ?_
    clear hcc C6
    rintro _ v6 ⟨rfl, hb⟩
    have HR2 := hid (HR.out.trans (hb.mono HR.out.size))
    have XN12 := hid ((hb.block _ (heap_lt XN1.out)).trans XN1.out)
    clear XN1
    have XN1 := XN12
    clear XN12
    have XN22 := hid ((hb.block _ (heap_lt XN2.out)).trans XN2.out)
    clear XN2
    have XN2 := XN22
    clear XN22
    clear hb HR
    have HR := HR2
    clear HR2
    obtain ⟨k0, k1, k2, k3, k4, k5, k6, k7, k8, k9, k10, k11⟩ := HC.out v6 HR.out
    have jXN10 : v6.cell? ⟨v1.heap.size, 0, none⟩ = some (St y0) := by rw [cell_of_heap XN1.out]; rfl
    have jXN11 : v6.cell? ⟨v1.heap.size, 1, none⟩ = some (St y1) := by rw [cell_of_heap XN1.out]; rfl
    have jXN12 : v6.cell? ⟨v1.heap.size, 2, none⟩ = some (St y2) := by rw [cell_of_heap XN1.out]; rfl
    have jXN13 : v6.cell? ⟨v1.heap.size, 3, none⟩ = some (St y3) := by rw [cell_of_heap XN1.out]; rfl
    have jXN14 : v6.cell? ⟨v1.heap.size, 4, none⟩ = some (St y4) := by rw [cell_of_heap XN1.out]; rfl
    have jXN20 : v6.cell? ⟨v2.heap.size, 0, none⟩ = some (St y0) := by rw [cell_of_heap XN2.out]; rfl
    have jXN21 : v6.cell? ⟨v2.heap.size, 1, none⟩ = some (St y1) := by rw [cell_of_heap XN2.out]; rfl
    have jXN22 : v6.cell? ⟨v2.heap.size, 2, none⟩ = some (St y2) := by rw [cell_of_heap XN2.out]; rfl
    have jXN23 : v6.cell? ⟨v2.heap.size, 3, none⟩ = some (St y3) := by rw [cell_of_heap XN2.out]; rfl
    have jXN24 : v6.cell? ⟨v2.heap.size, 4, none⟩ = some (St y4) := by rw [cell_of_heap XN2.out]; rfl
    go_wp2_with fail
    clear k0 k1 k2 k3 k4 k5 k6 k7 k8 k9 k10 k11 jXN10 jXN11 jXN12 jXN13 jXN14 jXN20 jXN21 jXN22 jXN23 jXN24
    refine (HW.out v6 (HB0.out.trans (HR.out.mono HB0.out.size))).mono ?_
    rintro _ w9 ⟨rfl, hb⟩
    have HB9 := hid (HB0.out.trans ((HR.out.trans (hb.mono HR.out.size)).mono HB0.out.size))
    clear hb
    go_wp2_with fail
    go_ret
    exact ⟨rfl, HB9.out⟩
end Go.Proofs.YtkifchjpgdmcoaaDoor
