/- Keys: KeysPoints, KeysSets. -/
import Derived.Test.YtkifchjpgdmcoaaDoorKyL
namespace Go.Proofs.YtkifchjpgdmcoaaDoor
open Go.RowKit

set_option maxHeartbeats 4000000 in
theorem pointsLaw_any (x0 x1 x2 x3 x4 x5 : Bs) (m0 : x0.length ≤ 140737488355328) (m1 : x1.length ≤ 140737488355328) (m2 : x2.length ≤ 140737488355328) (m3 : x3.length ≤ 140737488355328) (m4 : x4.length ≤ 140737488355328) (m5 : x5.length ≤ 140737488355328) (n : Int) (h1 : -9223372036854775808 ≤ n) (h2 : n ≤ 9223372036854775807) (w : World) (hp : Pw w) (hl : Lb w) : Calls Tryd.prog 4 #[.agg #[St x0, St x1, St x2, St x3, St x4, St x5], .int .i64 n] w fun e w' => e = .returned (.bool true) ∧ Below w.heap.size w w' := by
  have s0 : (⟨x0.toArray⟩ : ByteArray).size = x0.length := st_size x0
  have s1 : (⟨x1.toArray⟩ : ByteArray).size = x1.length := st_size x1
  have s2 : (⟨x2.toArray⟩ : ByteArray).size = x2.length := st_size x2
  have s3 : (⟨x3.toArray⟩ : ByteArray).size = x3.length := st_size x3
  have s4 : (⟨x4.toArray⟩ : ByteArray).size = x4.length := st_size x4
  have s5 : (⟨x5.toArray⟩ : ByteArray).size = x5.length := st_size x5
  by_cases h0 : 20000 < x0.length + x1.length + x2.length + x3.length + x4.length + x5.length
  · have h0' : (20000 : Int) < (x0.length : Int) + (x1.length : Int) + (x2.length : Int) + (x3.length : Int) + (x4.length : Int) + (x5.length : Int) := by omega
    clear hp hl
    go_enter Tryd.func4, Tryd.ntmps4
    go_wp2_with fail
    go_ret
    exact ⟨rfl, bel_alloc w _⟩
  · have h0' : ¬ (20000 : Int) < (x0.length : Int) + (x1.length : Int) + (x2.length : Int) + (x3.length : Int) + (x4.length : Int) + (x5.length : Int) := by omega
    have C1 := hid (fun (W : World) (_ : Below w.heap.size w W) => public_any ⟨x0, x1, x2, x3, x4, x5⟩ W)
    have C2 := hid (fun (W : World) (_ : Below w.heap.size w W) => rpublic5_any ⟨x0, x1, x2, x3, x4, x5⟩ W)
    have C3 := hid (fun (W : World) (hb : Below w.heap.size w W) => reveal_any ⟨x0, x1, x2, x3, x4, x5⟩ n h1 h2 W (hp.below hb))
    have C4 := hid (fun (W : World) (_ : Below w.heap.size w W) => rreveal_any ⟨x0, x1, x2, x3, x4, x5⟩ n h1 h2 W)
    have C5 := hid (fun (W : World) (hb : Below w.heap.size w W) => point_any ⟨x0, x1, x2, x3, x4, x5⟩ n h1 h2 W (hp.below hb))
    have C6 := hid (fun (W : World) (_ : Below w.heap.size w W) => rpoint_any ⟨x0, x1, x2, x3, x4, x5⟩ n h1 h2 W)
    have HW := hid (fun (W : World) (hb : Below w.heap.size w W) => works_any W (hp.below hb) (hl.below hb))
    clear hp hl h0 h1 h2
    unfold S6.v at C1 C2 C3 C4 C5 C6
    dsimp only at C1 C2 C3 C4 C5 C6
    generalize pubs5 ⟨x0, x1, x2, x3, x4, x5⟩ = P at C1 C2
    generalize secRes x5 (1048575 - n) = S at C3 C4
    generalize pntRes x5 n = Q at C5 C6
    obtain ⟨⟨y0, y1, y2, y3, y4⟩, e⟩ := P
    obtain ⟨c, g⟩ := S
    obtain ⟨p, i⟩ := Q
    unfold K5.v at C1 C2
    dsimp only at C1 C2 C3 C4 C5 C6
    obtain ⟨b0, hb0⟩ : ∃ b, b = w.alloc (.cells #[St x0, St x1, St x2, St x3, St x4, St x5] 28) := ⟨_, rfl⟩
    have z0 : b0.heap.size = w.heap.size + 1 := by rw [hb0]; simp
    have l0 : Below w.heap.size w b0 := by rw [hb0]; exact bel_alloc w _
    have HB0 : Hid (Below w.heap.size w b0) := hid (l0)
    have X0 : b0.heap[w.heap.size]? = some (.cells #[St x0, St x1, St x2, St x3, St x4, St x5] 28 (0, 0)) := (by rw [hb0]; exact heap_alloc_new w _)
    have HC := hid (fun (W : World) (hb : Below b0.heap.size b0 W) => (⟨by rw [cell_of_heap ((hb.block _ (heap_lt X0)).trans X0)]; rfl, by rw [cell_of_heap ((hb.block _ (heap_lt X0)).trans X0)]; rfl, by rw [cell_of_heap ((hb.block _ (heap_lt X0)).trans X0)]; rfl, by rw [cell_of_heap ((hb.block _ (heap_lt X0)).trans X0)]; rfl, by rw [cell_of_heap ((hb.block _ (heap_lt X0)).trans X0)]; rfl, by rw [cell_of_heap ((hb.block _ (heap_lt X0)).trans X0)]; rfl, Nat.lt_of_lt_of_le (by omega) hb.size⟩ : W.cell? ⟨w.heap.size, 0, none⟩ = some (St x0) ∧ W.cell? ⟨w.heap.size, 1, none⟩ = some (St x1) ∧ W.cell? ⟨w.heap.size, 2, none⟩ = some (St x2) ∧ W.cell? ⟨w.heap.size, 3, none⟩ = some (St x3) ∧ W.cell? ⟨w.heap.size, 4, none⟩ = some (St x4) ∧ W.cell? ⟨w.heap.size, 5, none⟩ = some (St x5) ∧ w.heap.size < W.heap.size))
    have HE : Hid (b0 = w.alloc (.cells #[St x0, St x1, St x2, St x3, St x4, St x5] 28)) := hid (by rw [hb0])
    clear X0 z0 l0 hb0
    go_enter Tryd.func4, Tryd.ntmps4
    go_wp2_with fail
    have HR := hid (Below.refl b0.heap.size b0)
    have hcc := C1.out b0 (HB0.out.trans (HR.out.mono HB0.out.size))
    rw [HE.out] at hcc
    refine hcc.mono ?_
    clear hcc C1
    rintro _ v1 ⟨rfl, hb⟩
    rw [← HE.out] at hb
    have HR2 := hid (HR.out.trans (hb.mono HR.out.size))
    clear hb HR HE
    have HR := HR2
    clear HR2
    obtain ⟨k0, k1, k2, k3, k4, k5, k6⟩ := HC.out v1 HR.out
    obtain ⟨a1, ha1⟩ : ∃ b, b = v1.alloc (.cells #[St y0, St y1, St y2, St y3, St y4] 34) := ⟨_, rfl⟩
    have hz : Below v1.heap.size v1 a1 := by rw [ha1]; exact bel_alloc v1 _
    have XN1 : Hid (a1.heap[v1.heap.size]? = some (.cells #[St y0, St y1, St y2, St y3, St y4] 34 (0, 0))) := hid (by rw [ha1]; exact heap_alloc_new v1 _)
    have HR2 := hid (HR.out.trans (hz.mono HR.out.size))
    have HE1 := hid ha1
    clear hz ha1 HR
    have HR := HR2
    clear HR2
    go_wp2_with fail
    clear k0 k1 k2 k3 k4 k5 k6
    have hcc := C2.out a1 (HB0.out.trans (HR.out.mono HB0.out.size))
    rw [HE1.out] at hcc
    refine hcc.mono ?_
    clear hcc C2
    rintro _ v2 ⟨rfl, hb⟩
    rw [← HE1.out] at hb
    have HR2 := hid (HR.out.trans (hb.mono HR.out.size))
    have XN12 := hid ((hb.block _ (heap_lt XN1.out)).trans XN1.out)
    clear XN1
    have XN1 := XN12
    clear XN12
    clear hb HR HE1
    have HR := HR2
    clear HR2
    obtain ⟨k0, k1, k2, k3, k4, k5, k6⟩ := HC.out v2 HR.out
    obtain ⟨a2, ha2⟩ : ∃ b, b = v2.alloc (.cells #[St y0, St y1, St y2, St y3, St y4] 34) := ⟨_, rfl⟩
    have hz : Below v2.heap.size v2 a2 := by rw [ha2]; exact bel_alloc v2 _
    have ltXN1 := heap_lt XN1.out
    have XN12 := hid ((hz.block _ (heap_lt XN1.out)).trans XN1.out)
    clear XN1
    have XN1 := XN12
    clear XN12
    have XN2 : Hid (a2.heap[v2.heap.size]? = some (.cells #[St y0, St y1, St y2, St y3, St y4] 34 (0, 0))) := hid (by rw [ha2]; exact heap_alloc_new v2 _)
    have HR2 := hid (HR.out.trans (hz.mono HR.out.size))
    have HE2 := hid ha2
    clear hz ha2 HR
    have HR := HR2
    clear HR2
    go_wp2_with fail
    clear k0 k1 k2 k3 k4 k5 k6 ltXN1
    have hcc := C3.out a2 (HB0.out.trans (HR.out.mono HB0.out.size))
    rw [HE2.out] at hcc
    refine hcc.mono ?_
    clear hcc C3
    rintro _ v3 ⟨rfl, hb⟩
    rw [← HE2.out] at hb
    have HR2 := hid (HR.out.trans (hb.mono HR.out.size))
    have XN12 := hid ((hb.block _ (heap_lt XN1.out)).trans XN1.out)
    clear XN1
    have XN1 := XN12
    clear XN12
    have XN22 := hid ((hb.block _ (heap_lt XN2.out)).trans XN2.out)
    clear XN2
    have XN2 := XN22
    clear XN22
    clear hb HR HE2
    have HR := HR2
    clear HR2
    obtain ⟨k0, k1, k2, k3, k4, k5, k6⟩ := HC.out v3 HR.out
    go_wp2_with fail
    clear k0 k1 k2 k3 k4 k5 k6
    have hcc := C4.out v3 (HB0.out.trans (HR.out.mono HB0.out.size))
    refine hcc.mono ?_
    clear hcc C4
    rintro _ v4 ⟨rfl, hb⟩
    have HR2 := hid (HR.out.trans (hb.mono HR.out.size))
    have XN12 := hid ((hb.block _ (heap_lt XN1.out)).trans XN1.out)
    clear XN1
    have XN1 := XN12
    clear XN12
    have XN22 := hid ((hb.block _ (heap_lt XN2.out)).trans XN2.out)
    clear XN2
    have XN2 := XN22
    clear XN22
    clear hb HR
    have HR := HR2
    clear HR2
    obtain ⟨k0, k1, k2, k3, k4, k5, k6⟩ := HC.out v4 HR.out
    go_wp2_with fail
    clear k0 k1 k2 k3 k4 k5 k6
    have hcc := C5.out v4 (HB0.out.trans (HR.out.mono HB0.out.size))
    refine hcc.mono ?_
    clear hcc C5
    rintro _ v5 ⟨rfl, hb⟩
    have HR2 := hid (HR.out.trans (hb.mono HR.out.size))
    have XN12 := hid ((hb.block _ (heap_lt XN1.out)).trans XN1.out)
    clear XN1
    have XN1 := XN12
    clear XN12
    have XN22 := hid ((hb.block _ (heap_lt XN2.out)).trans XN2.out)
    clear XN2
    have XN2 := XN22
    clear XN22
    clear hb HR
    have HR := HR2
    clear HR2
    obtain ⟨k0, k1, k2, k3, k4, k5, k6⟩ := HC.out v5 HR.out
    go_wp2_with fail
    clear k0 k1 k2 k3 k4 k5 k6
    have hcc := C6.out v5 (HB0.out.trans (HR.out.mono HB0.out.size))
    refine hcc.mono ?_
    clear hcc C6
    rintro _ v6 ⟨rfl, hb⟩
    have HR2 := hid (HR.out.trans (hb.mono HR.out.size))
    have XN12 := hid ((hb.block _ (heap_lt XN1.out)).trans XN1.out)
    clear XN1
    have XN1 := XN12
    clear XN12
    have XN22 := hid ((hb.block _ (heap_lt XN2.out)).trans XN2.out)
    clear XN2
    have XN2 := XN22
    clear XN22
    clear hb HR
    have HR := HR2
    clear HR2
    obtain ⟨k0, k1, k2, k3, k4, k5, k6⟩ := HC.out v6 HR.out
    have jXN10 : v6.cell? ⟨v1.heap.size, 0, none⟩ = some (St y0) := by rw [cell_of_heap XN1.out]; rfl
    have jXN11 : v6.cell? ⟨v1.heap.size, 1, none⟩ = some (St y1) := by rw [cell_of_heap XN1.out]; rfl
    have jXN12 : v6.cell? ⟨v1.heap.size, 2, none⟩ = some (St y2) := by rw [cell_of_heap XN1.out]; rfl
    have jXN13 : v6.cell? ⟨v1.heap.size, 3, none⟩ = some (St y3) := by rw [cell_of_heap XN1.out]; rfl
    have jXN14 : v6.cell? ⟨v1.heap.size, 4, none⟩ = some (St y4) := by rw [cell_of_heap XN1.out]; rfl
    have jXN20 : v6.cell? ⟨v2.heap.size, 0, none⟩ = some (St y0) := by rw [cell_of_heap XN2.out]; rfl
    have jXN21 : v6.cell? ⟨v2.heap.size, 1, none⟩ = some (St y1) := by rw [cell_of_heap XN2.out]; rfl
    have jXN22 : v6.cell? ⟨v2.heap.size, 2, none⟩ = some (St y2) := by rw [cell_of_heap XN2.out]; rfl
    have jXN23 : v6.cell? ⟨v2.heap.size, 3, none⟩ = some (St y3) := by rw [cell_of_heap XN2.out]; rfl
    have jXN24 : v6.cell? ⟨v2.heap.size, 4, none⟩ = some (St y4) := by rw [cell_of_heap XN2.out]; rfl
    go_wp2_with fail
    clear k0 k1 k2 k3 k4 k5 k6 jXN10 jXN11 jXN12 jXN13 jXN14 jXN20 jXN21 jXN22 jXN23 jXN24
    refine (HW.out v6 (HB0.out.trans (HR.out.mono HB0.out.size))).mono ?_
    rintro _ w9 ⟨rfl, hb⟩
    have HB9 := hid (HB0.out.trans ((HR.out.trans (hb.mono HR.out.size)).mono HB0.out.size))
    clear hb
    go_wp2_with fail
    go_ret
    exact ⟨rfl, HB9.out⟩
end Go.Proofs.YtkifchjpgdmcoaaDoor
