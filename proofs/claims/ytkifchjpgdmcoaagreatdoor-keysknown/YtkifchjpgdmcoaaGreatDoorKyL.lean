/- Keys: the short calls; what the laws say of the makers. -/
import Derived.Test.YtkifchjpgdmcoaaGreatDoorKyH
namespace Go.Proofs.YtkifchjpgdmcoaaGreatDoor
open Go.RowKit
abbrev n1 : Bs := [110, 49, 59]
abbrev n2 : Bs := [110, 50, 59]
theorem k_node : kidRes n1 wNode 0 = ([68, 110, 49, 59, 84, 50, 58, 116, 52, 58, 110, 111, 100, 101, 116, 49, 58, 48], 0) := by decide +kernel
theorem k_chan0 : (chanRes n1 2).2 = 0 := by decide +kernel
theorem k_chanp : (chanRes n1 2).1.p = [68, 68, 110, 49, 59, 84, 50, 58, 116, 55, 58, 99, 104, 97, 110, 110, 101, 108, 116, 49, 58, 50, 84, 50, 58, 116, 51, 58, 112, 97, 121, 116, 49, 58, 48] := by decide +kernel
theorem k_rev : bRes 86 [] [n1, n2] = ([86, 110, 49, 59, 110, 50, 59], 0) := by decide +kernel
theorem k_pub : pubRes [86, 110, 49, 59, 110, 50, 59] = ([87, 80, 110, 49, 59, 80, 110, 50, 59], 0) := by decide +kernel
theorem k_coin : numRes n1 wCoin (-1) = ([], 2) := by decide +kernel
set_option maxHeartbeats 1000000 in
theorem works_any (w : World) (hp : Pw w) (hl : Lb w) : Calls Tryz.prog 14 #[] w fun e w' => e = .returned (.bool true) ∧ Below w.heap.size w w' := by
 have hn := node_any n1 w hp
 rw [k_node] at hn
 have HN := hid hn
 have HCH := hid (fun (W : World) (hb : Below w.heap.size w W) => channel_any n1 2 (by decide) W (hp.below hb) (hl.below hb))
 obtain ⟨⟨⟨c0, c1, c2, c3, c4, c5⟩, ce⟩, hR⟩ : ∃ R, chanRes n1 2 = R := ⟨_, rfl⟩
 have h1 := k_chan0
 have h2 := k_chanp
 rw [hR] at h1 h2 HCH
 obtain rfl : ce = 0 := h1
 obtain rfl : c2 = [68, 68, 110, 49, 59, 84, 50, 58, 116, 55, 58, 99, 104, 97, 110, 110, 101, 108, 116, 49, 58, 50, 84, 50, 58, 116, 51, 58, 112, 97, 121, 116, 49, 58, 48] := h2
 unfold S6.v at HCH
 have HRV := hid (fun (W : World) => revoke_any n1 n2 W)
 rw [k_rev] at HRV
 have HPB := hid (fun (W : World) => pubs_any [86, 110, 49, 59, 110, 50, 59] W)
 rw [k_pub] at HPB
 have HCO := hid (fun (W : World) (hb : Below w.heap.size w W) => coin_any n1 (-1) (by decide) W (hp.below hb))
 rw [k_coin] at HCO
 clear hR hp hl hn
 go_enter Tryz.func14, Tryz.ntmps14
 go_wp2_with fail
 refine HN.out.mono ?_
 rintro _ w1 ⟨rfl, hb1⟩
 have HB1 := hid hb1
 clear hb1 HN
 go_wp2_with fail
 refine (HCH.out w1 HB1.out).mono ?_
 rintro _ w2 ⟨rfl, hb2⟩
 have HB2 := hid (HB1.out.trans (hb2.mono HB1.out.size))
 clear hb2 HCH
 go_wp2_with fail
 obtain ⟨w3, hw3⟩ : ∃ w3, w3 = w2.alloc (.cells #[St c0, St c1, St [68, 68, 110, 49, 59, 84, 50, 58, 116, 55, 58, 99, 104, 97, 110, 110, 101, 108, 116, 49, 58, 50, 84, 50, 58, 116, 51, 58, 112, 97, 121, 116, 49, 58, 48], St c3, St c4, St c5] 24) := ⟨_, rfl⟩
 have HP3 := hid (show w3.heap[w2.heap.size]? = some (.cells #[St c0, St c1, St [68, 68, 110, 49, 59, 84, 50, 58, 116, 55, 58, 99, 104, 97, 110, 110, 101, 108, 116, 49, 58, 50, 84, 50, 58, 116, 51, 58, 112, 97, 121, 116, 49, 58, 48], St c3, St c4, St c5] 24 (0, 0)) by rw [hw3]; exact heap_alloc_new w2 _)
 have HB3 := hid (show Below w.heap.size w w3 by rw [hw3]; exact HB2.out.alloc HB2.out.size _)
 have hrv := HRV.out w3
 rw [hw3] at hrv
 refine hrv.mono ?_
 rintro _ w4 ⟨rfl, hb4⟩
 rw [← hw3] at hb4
 clear hrv hw3 HRV HB2 HB1
 have HB4 := hid (HB3.out.trans (hb4.mono HB3.out.size))
 have HP4 := hid ((hb4.block _ (heap_lt HP3.out)).trans HP3.out)
 clear hb4 HP3 HB3
 go_wp2_with fail
 refine (HPB.out w4).mono ?_
 rintro _ w5 ⟨rfl, hb5⟩
 have HB5 := hid (HB4.out.trans (hb5.mono HB4.out.size))
 have HP5 := hid ((hb5.block _ (heap_lt HP4.out)).trans HP4.out)
 clear hb5 HP4 HB4 HPB
 go_wp2_with fail
 refine (HCO.out w5 HB5.out).mono ?_
 rintro _ w6 ⟨rfl, hb6⟩
 have HB6 := hid (HB5.out.trans (hb6.mono HB5.out.size))
 have hp6 := (hb6.block _ (heap_lt HP5.out)).trans HP5.out
 have cp : w6.cell? ⟨w2.heap.size, 2, none⟩ = some (St [68, 68, 110, 49, 59, 84, 50, 58, 116, 55, 58, 99, 104, 97, 110, 110, 101, 108, 116, 49, 58, 50, 84, 50, 58, 116, 51, 58, 112, 97, 121, 116, 49, 58, 48]) := by rw [cell_of_heap hp6]; rfl
 clear hb6 hp6 HP5 HB5 HCO
 go_wp2_with fail
 go_ret
 exact ⟨rfl, HB6.out⟩
end Go.Proofs.YtkifchjpgdmcoaaGreatDoor
