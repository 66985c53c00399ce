/- KeysMakes. -/
import Derived.Test.YtkifchjpgdmcoaaDoorKyL
namespace Go.Proofs.YtkifchjpgdmcoaaDoor
open Go.RowKit

set_option maxHeartbeats 2000000 in
theorem makesLaw_any (root : Bs) (n : Int) (hn : n ≤ 9223372036854775807) (w : World) (hp : Pw w) (hl : Lb w) : Calls Tryd.prog 3 #[St root, .int .i64 n] w fun e w' => e = .returned (.bool true) ∧ Below w.heap.size w w' := by
  have hsz : (⟨root.toArray⟩ : ByteArray).size = root.length := st_size root
  by_cases h0 : 20000 < root.length
  · have h0' : (20000 : Int) < (root.length : Int) := by omega
    clear hp hl
    go_enter Tryd.func3, Tryd.ntmps3
    go_wp2_with fail
    go_ret
    exact ⟨rfl, Below.refl _ _⟩
  · have h0' : ¬ (20000 : Int) < (root.length : Int) := by omega
    have H1 := hid (node_any root w hp)
    have H2 := hid (fun W => rnode_any root W)
    have H3 := hid (fun (W : World) (hb : Below w.heap.size w W) => coin_any root n hn W (hp.below hb))
    have H4 := hid (fun (W : World) => rcoin_any root n hn W)
    have H5 := hid (fun (W : World) (hb : Below w.heap.size w W) => channel_any root n hn W (hp.below hb) (hl.below hb))
    have H6 := hid (fun (W : World) => rchannel_any root n hn W)
    have HW := hid (fun (W : World) (hb : Below w.heap.size w W) => works_any W (hp.below hb) (hl.below hb))
    clear hp hl hn h0
    generalize kidRes root wNode 0 = a at H1 H2
    generalize numRes root wCoin n = c at H3 H4
    generalize chanRes root n = x at H5 H6
    obtain ⟨a, e⟩ := a
    obtain ⟨c, g⟩ := c
    obtain ⟨⟨x0, x1, x2, x3, x4, x5⟩, i⟩ := x
    unfold S6.v at H5 H6
    go_enter Tryd.func3, Tryd.ntmps3
    go_wp2_with fail
    refine H1.out.mono ?_
    rintro _ w1 ⟨rfl, hb1⟩
    have HB1 := hid hb1
    clear hb1 H1
    go_wp2_with fail
    refine (H2.out w1).mono ?_
    rintro _ w2 ⟨rfl, hb2⟩
    have HB2 := hid (HB1.out.trans (hb2.mono HB1.out.size))
    clear hb2 H2 HB1
    go_wp2_with fail
    refine (H3.out w2 HB2.out).mono ?_
    rintro _ w3 ⟨rfl, hb3⟩
    have HB3 := hid (HB2.out.trans (hb3.mono HB2.out.size))
    clear hb3 H3 HB2
    go_wp2_with fail
    refine (H4.out w3).mono ?_
    rintro _ w4 ⟨rfl, hb4⟩
    have HB4 := hid (HB3.out.trans (hb4.mono HB3.out.size))
    clear hb4 H4 HB3
    go_wp2_with fail
    refine (H5.out w4 HB4.out).mono ?_
    rintro _ w5 ⟨rfl, hb5⟩
    have HB5 := hid (HB4.out.trans (hb5.mono HB4.out.size))
    clear hb5 H5 HB4
    obtain ⟨w6, hw6⟩ : ∃ w6, w6 = w5.alloc (.cells #[St x0, St x1, St x2, St x3, St x4, St x5] 28) := ⟨_, rfl⟩
    have hx6 : w6.heap[w5.heap.size]? = some (.cells #[St x0, St x1, St x2, St x3, St x4, St x5] 28 (0, 0)) := by rw [hw6]; exact heap_alloc_new w5 _
    have hb6 : Below w.heap.size w w6 := by rw [hw6]; exact HB5.out.alloc HB5.out.size _
    have h6 := H6.out w6
    rw [hw6] at h6
    have HW6 := hid hw6
    have HX6 := hid hx6
    have HB6 := hid hb6
    clear hw6 hx6 hb6 H6 HB5
    go_wp2_with fail
    refine h6.mono ?_
    clear h6
    rintro _ w7 ⟨rfl, hb7⟩
    rw [← HW6.out] at hb7
    have HB7 := hid (HB6.out.trans (hb7.mono HB6.out.size))
    have hx7 := (hb7.block _ (heap_lt HX6.out)).trans HX6.out
    have ca : ∀ o, w7.cell? ⟨w5.heap.size, o, none⟩ = (#[St x0, St x1, St x2, St x3, St x4, St x5] : Array Value)[o]? := fun o => cell_of_heap hx7 o
    have k0 : w7.cell? ⟨w5.heap.size, 0, none⟩ = some (St x0) := ca 0
    have k1 : w7.cell? ⟨w5.heap.size, 1, none⟩ = some (St x1) := ca 1
    have k2 : w7.cell? ⟨w5.heap.size, 2, none⟩ = some (St x2) := ca 2
    have k3 : w7.cell? ⟨w5.heap.size, 3, none⟩ = some (St x3) := ca 3
    have k4 : w7.cell? ⟨w5.heap.size, 4, none⟩ = some (St x4) := ca 4
    have k5 : w7.cell? ⟨w5.heap.size, 5, none⟩ = some (St x5) := ca 5
    have hlt7 : w5.heap.size < w7.heap.size := heap_lt hx7
    have hb8 : Below w.heap.size w (w7.alloc (.cells #[St x0, St x1, St x2, St x3, St x4, St x5] 28)) := HB7.out.alloc HB7.out.size _
    have HB8 := hid hb8
    have HWW := hid (HW.out _ hb8)
    clear hb7 hx7 ca HX6 HW6 HB6 hb8 HW
    go_wp2_with fail
    refine HWW.out.mono ?_
    rintro _ w9 ⟨rfl, hb⟩
    have HB9 := hid (HB8.out.trans (hb.mono HB8.out.size))
    clear hb
    go_wp2_with fail
    go_ret
    exact ⟨rfl, HB9.out⟩
end Go.Proofs.YtkifchjpgdmcoaaDoor
