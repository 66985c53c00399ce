/- The law WireKnown. -/
import Derived.Test.YtdhmmllpioppfaaKTab
import Derived.Test.YtdhmmllpioppfaaKBad
import Derived.Test.YtdhmmllpioppfaaKTxt
import Derived.Test.YtdhmmllpioppfaaKLay
namespace Go.Proofs.Ytdhmmllpioppfaa.V
open Go.RowKit
set_option maxRecDepth 100000 in
set_option maxHeartbeats 8000000 in
theorem known_law (w : World) : Calls Try.prog 5 #[] w fun e w' => e = .returned (.bool true) ∧ Below w.heap.size w w' := by
  go_enter Try.func5, Try.ntmps5
  go_wp2_with fail
  go_loopg [1] 65536 (fun gg v1 wr => ∃ i : Nat, i ≤ 65536 ∧ gg = 65536 - i ∧ v1 = .int .i64 (i : Int) ∧ Below w.heap.size w wr)
  case atStart => exact ⟨0, by omega, by omega, rfl, Below.refl _ _⟩
  case round =>
    obtain ⟨i, hi, rfl, rfl, hbel⟩ := hrel
    have HBE := hid hbel
    clear hbel
    by_cases hil : i < 65536
    · have hi1 : (i : Int) < 65536 := by omega
      have hw : IntKind.u16.wrap (i : Int) = (i : Int) := by rw [IntKind.wrap_u16]; omega
      obtain ⟨a, b, f, hc⟩ : ∃ a b f, cntK (i : Int) = (a, b, f) := ⟨_, _, _, rfl⟩
      have HC := hid (fun W => counts_any (i : Int) W)
      have HR := hid (fun W => rcounts_any (i : Int) W)
      rw [hc] at HC HR
      clear hc
      go_wp2_with fail
      refine (HC.out _).mono ?_
      rintro e w1 ⟨rfl, hb1⟩
      have HB1 := hid (two_low HBE.out hb1)
      clear hb1
      go_wp2_with fail
      refine (HR.out _).mono ?_
      rintro e w2 ⟨rfl, hb2⟩
      have HB2 := hid (two_low HB1.out hb2)
      clear hb2
      go_wp2_with fail
      go_roundg (65536 - (i + 1))
      case measure => omega
      case rel => exact ⟨i + 1, by omega, rfl, by go_num, HB2.out⟩
    · have e : i = 65536 := by omega
      subst e
      go_wp2_with fail
      refine (enc1 _).mono ?_
      rintro e w1 ⟨ao, cap, rfl, hs, hb1⟩
      have HS1 := hid hs
      have HB1 := hid (two_low HBE.out hb1)
      clear hs hb1 HBE
      go_wp2_with fail
      refine (enc2 _).mono ?_
      rintro e w2 ⟨ao2, cap2, rfl, hs, hb2⟩
      have HB2 := hid (two_low HB1.out hb2)
      have hcv1 : (convert 28 9 (.slice ao 14 cap)).run Try.prog w2 = .ok (.string ⟨#[0, 18, 0, 1, 0, 0, 0, 0, 0, 0, 0, 5, 0, 0]⟩) w2 := (HS1.out.below hb2).string
      have hcv2 : (convert 28 9 (.slice ao2 10 cap2)).run Try.prog w2 = .ok (.string ⟨#[3, 231, 0, 0, 0, 1, 120, 1, 1, 9]⟩) w2 := hs.string
      clear hs hb2 HB1 HS1
      go_wp2_with fail
      refine (enc3b _ _).mono ?_
      rintro e w3 ⟨ao3, cap3, rfl, hs, hb3⟩
      have HS3 := hid hs
      have HB3 := hid (two_low HB2.out hb3)
      clear hs hb3 HB2 hcv1 hcv2
      go_wp2_with fail
      refine (dec3 HS3.out).mono ?_
      rintro e w4 ⟨g, o, cn, at', ct, am, cm, rfl, hg, hc, hb4⟩
      have HB4 := hid (two_low HB3.out hb4)
      have hc' : ∀ b, (w4.alloc b).cell? ⟨g, o, none⟩ = some (.int .i64 (-1)) := fun b => (World.cell?_of_block (Below.heap_alloc _ _ _ hg)).trans hc
      clear hb4 HB3 HS3
      go_wp2_with fail
      refine (bad1 _).mono ?_
      rintro e w5 ⟨rfl, hb⟩
      have HB5 := hid (two_low HB4.out (box_below hb))
      clear hb
      go_wp2_with fail
      refine (bad2 _).mono ?_
      rintro e w6 ⟨rfl, hb⟩
      have HB6 := hid (two_low HB5.out hb)
      clear hb
      go_wp2_with fail
      refine (bad3 _).mono ?_
      rintro e w7 ⟨rfl, hb⟩
      have HB7 := hid (two_low HB6.out hb)
      clear hb
      go_wp2_with fail
      refine (bad4 _).mono ?_
      rintro e w8 ⟨rfl, hb⟩
      have HB8 := hid (two_low HB7.out hb)
      clear hb
      go_wp2_with fail
      refine (bad5 _).mono ?_
      rintro e w9 ⟨rfl, hb⟩
      have HB9 := hid (two_low HB8.out hb)
      clear hb
      have hm6 : ∀ W, (Instr.makeSlice 23 (.int .i64 33) (.int .i64 33)).run Try.prog W = .ok (.slice (some ⟨W.heap.size, 0, none⟩) 33 33) (W.alloc (.cells (zi 33) 2)) := fun W => zmakei 33 (by omega) W
      go_wp2_with fail
      refine (bad6z _).mono ?_
      rintro e w10 ⟨rfl, hb⟩
      have HB10 := hid (two_low HB9.out hb)
      clear hb
      have hm7 : ∀ W, (Instr.makeSlice 28 (.int .i64 4097) (.int .i64 4097)).run Try.prog W = .ok (.slice (some ⟨W.heap.size, 0, none⟩) 4097 4097) (W.alloc (.cells (zc 4097) 5)) := fun W => zmake 4097 (by omega) W
      have hv7 := ztext 4097 w10
      go_wp2_with fail
      refine (bad7z _).mono ?_
      rintro e w11 ⟨rfl, hb⟩
      have HB11 := hid (two_low HB10.out (box_below hb))
      clear hb
      have hm8 : ∀ W, (Instr.makeSlice 28 (.int .i64 101) (.int .i64 101)).run Try.prog W = .ok (.slice (some ⟨W.heap.size, 0, none⟩) 101 101) (W.alloc (.cells (zc 101) 5)) := fun W => zmake 101 (by omega) W
      have hv8 := ztext 101 w11
      go_wp2_with fail
      refine (bad8z _).mono ?_
      rintro e w12 ⟨rfl, hb⟩
      have HB12 := hid (two_low HB11.out (box_below hb))
      clear hb hm6 hm7 hv7 hm8 hv8 HB4 HB5 HB6 HB7 HB8 HB9 HB10 HB11
      go_wp2_with fail
      refine (dec1z _).mono ?_
      rintro e w13 ⟨⟨an1, cn1, at1, ct1, am1, cm1, rfl⟩, hb⟩
      have HB13 := hid (two_low HB12.out hb)
      clear hb HB12
      go_wp2_with fail
      refine (dec2z _ _).mono ?_
      rintro e w14 ⟨⟨an2, cn2, at2, ct2, am2, cm2, rfl⟩, hb⟩
      have HB14 := hid (two_low HB13.out hb)
      clear hb HB13
      have hm9 : ∀ W, (Instr.makeSlice 28 (.int .i64 32769) (.int .i64 32769)).run Try.prog W = .ok (.slice (some ⟨W.heap.size, 0, none⟩) 32769 32769) (W.alloc (.cells (zc 32769) 5)) := fun W => zmake 32769 (by omega) W
      go_wp2_with fail
      refine (dec3z _ _).mono ?_
      rintro e w15 ⟨⟨an3, cn3, at3, ct3, am3, cm3, rfl⟩, hb⟩
      have HB15 := hid (two_low HB14.out hb)
      clear hb HB14 hm9
      go_wp2_with fail
      refine (dec4z _ _).mono ?_
      rintro e w16 ⟨⟨an4, cn4, at4, ct4, am4, cm4, rfl⟩, hb⟩
      have HB16 := hid (two_low HB15.out hb)
      clear hb HB15
      go_wp2_with fail
      refine reg21 (by simp) ?_
      intro s w17 k g h p hlay
      have HL := hid hlay
      have HB17 := hid (two_low HB16.out (box_below hlay.bel))
      have c0 := (cell_of_heap hlay.pb.2 0).trans rfl
      have c1 := (cell_of_heap hlay.pb.2 1).trans rfl
      have c2 := (cell_of_heap hlay.pb.2 2).trans rfl
      have c3 := (cell_of_heap hlay.pb.2 3).trans rfl
      have c4 := (cell_of_heap hlay.pb.2 4).trans rfl
      have c5 := (cell_of_heap hlay.pb.2 5).trans rfl
      clear hlay
      generalize s 206 = t6
      generalize s 207 = t7
      generalize s 208 = t8
      generalize s 209 = t9
      generalize s 210 = t10
      generalize s 211 = t11
      generalize s 212 = t12
      generalize s 213 = t13
      generalize s 214 = t14
      clear s
      simp only [puts, List.foldl_cons, List.foldl_nil, Act.put]
      go_wp2_with fail
      refine (encLg HL.out).mono ?_
      rintro e w18 ⟨ao8, cap8, rfl, hs, hb⟩
      have HS8 := hid hs
      have HL8 := hid (HL.out.below hb)
      have HB18 := hid (two_low HB17.out hb)
      clear hs hb HL HB17 c0 c1 c2 c3 c4 c5
      go_wp2_with fail
      refine (decLg HS8.out).mono ?_
      rintro e w19 ⟨x9, y9, an9, cn9, at9, ct9, am9, cm9, rfl, hb⟩
      have HL9 := hid (HL8.out.below hb)
      have HB19 := hid (two_low HB18.out hb)
      clear hb HL8 HB18 HS8
      go_wp2_with fail
      obtain ⟨W, hW⟩ : ∃ W, W = w19.alloc (.cells #[.int .u16 999, .string x9, .slice an9 32 cn9, .slice at9 0 ct9, .string y9, .slice am9 1 cm9] 27) := ⟨_, rfl⟩
      have HQ : Hid (W.heap[w19.heap.size]? = some (.cells #[.int .u16 999, .string x9, .slice an9 32 cn9, .slice at9 0 ct9, .string y9, .slice am9 1 cm9] 27)) := hid (hW ▸ heap_alloc_new _ _)
      have HLW : Hid (Lay (w16.alloc (.cells #[.int .u16 0, .string ⟨#[]⟩, .slice an4 0 cn4, .slice at4 0 ct4, .string ⟨#[]⟩, .slice am4 0 cm4] 27)) W k g h p) := hid (hW ▸ HL9.out.alloc _)
      have HBW := hid (two_low HB19.out (hW ▸ (Below.refl _ _).alloc (Nat.le_refl _) _ : Below w19.heap.size w19 W))
      rw [← hW]
      clear hW HL9 HB19
      have c5 := HLW.out.five
      have d1 := HLW.out.cell
      have d2 := (HLW.out.alloc (.cells (zc 28305) 5)).cell
      have d3 := (HLW.out.alloc (.cells (zc 28305) 5)).thaw 1
      have hm10 : ∀ W, (Instr.makeSlice 28 (.int .i64 28305) (.int .i64 28305)).run Try.prog W = .ok (.slice (some ⟨W.heap.size, 0, none⟩) 28305 28305) (W.alloc (.cells (zc 28305) 5)) := fun W => zmake 28305 (by omega) W
      have d4 := (HLW.out.alloc (.cells (zc 28305) 5)).five
      have hw5 : IntKind.i64.wrap 28305 = 28305 := by decide
      go_region
      obtain ⟨X, hX⟩ : ∃ X, X = ((W.alloc (.cells (zc 28305) 5)).setCell ⟨h, 1, none⟩ (sv W.heap.size 28305)).drew := ⟨_, rfl⟩
      obtain ⟨hb, hh, hG, hq⟩ := HLW.out.over hX
      have HBX := hid (two_low HB16.out (box_below hb))
      have hkx := hq k _ _ HLW.out.kb.2 (by decide)
      have hpx := hq p _ _ HLW.out.pb.2 (by decide)
      have hqx := hq _ _ _ HQ.out (by decide)
      have c0 := (cell_of_heap hpx 0).trans rfl
      have c1 := (cell_of_heap hpx 1).trans rfl
      have c2 := (cell_of_heap hpx 2).trans rfl
      have c3 := (cell_of_heap hpx 3).trans rfl
      have c4 := (cell_of_heap hpx 4).trans rfl
      have c5 := (cell_of_heap hpx 5).trans rfl
      have HE := hid (encOver hkx hh hG)
      have HQX := hid hqx
      rw [← hX]
      clear hX hb hh hG hq hkx hpx hqx HQ HLW HBW d1 d2 d3 d4 hm10 hw5 HB16
      go_wp2_with fail
      refine HE.out.mono ?_
      rintro e w20 ⟨ao20, cap20, rfl, hb⟩
      have q2 : w20.cell? ⟨w19.heap.size, 2, none⟩ = some (.slice an9 32 cn9) := (cell_of_heap ((hb.block _ (lt_of_block HQX.out)).trans HQX.out) 2).trans rfl
      have HB20 := hid (two_low HBX.out hb)
      clear hb HE HQX HBX c0 c1 c2 c3 c4 c5
      go_wp2_with fail
      refine (works_any _).mono ?_
      rintro e w21 ⟨rfl, hb⟩
      have HB21 := hid (two_low HB20.out hb)
      clear hb HB20
      go_wp2_with fail
      go_ret
      exact ⟨rfl, HB21.out⟩
end Go.Proofs.Ytdhmmllpioppfaa.V
