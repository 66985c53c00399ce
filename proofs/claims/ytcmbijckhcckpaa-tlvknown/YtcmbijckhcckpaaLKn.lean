/- The law TlvKnown. -/
import Derived.Test.YtcmbijckhcckpaaKnA
namespace Go.Proofs.Ytcmbijckhcckpaa
open Go.RowKit

abbrev knA : Array Value := #[.int .u64 0, .int .u64 252, .int .u64 253, .int .u64 254, .int .u64 65535, .int .u64 65536, .int .u64 4294967295, .int .u64 4294967296, .int .u64 18446744073709551615]
abbrev knB : Array Value := #[.int .i64 1, .int .i64 1, .int .i64 3, .int .i64 3, .int .i64 3, .int .i64 5, .int .i64 5, .int .i64 9, .int .i64 9]
theorem knA_get (i : Nat) (h : i < 9) : knA[i]? = some (.int .u64 (knAt.getD i 0 : Nat)) := by
  have hi : i = 0 ∨ i = 1 ∨ i = 2 ∨ i = 3 ∨ i = 4 ∨ i = 5 ∨ i = 6 ∨ i = 7 ∨ i = 8 := by omega
  rcases hi with rfl | rfl | rfl | rfl | rfl | rfl | rfl | rfl | rfl <;> rfl
theorem knB_get (i : Nat) (h : i < 9) : knB[i]? = some (.int .i64 (knLg.getD i 0 : Nat)) := by
  have hi : i = 0 ∨ i = 1 ∨ i = 2 ∨ i = 3 ∨ i = 4 ∨ i = 5 ∨ i = 6 ∨ i = 7 ∨ i = 8 := by omega
  rcases hi with rfl | rfl | rfl | rfl | rfl | rfl | rfl | rfl | rfl <;> rfl
/-- bytes that were just laid, as the walk shows them -/
theorem sl_vals {W : World} (x : Bs) {cs : Array Value} {m : Nat} (hc : cs = (bcs x).toArray) (hm : m = x.length) : Sl (W.alloc (.cells cs 5)) (.slice (some ⟨W.heap.size, 0, none⟩) m m) x := by
  subst hc
  subst hm
  exact sl_new W x

set_option maxRecDepth 100000 in
set_option maxHeartbeats 16000000 in
theorem known_any (w : World) : Calls Try.prog 8 #[] w fun e w' => e = .returned (.bool true) ∧ Below w.heap.size w w' := by
  have HBA := hid (((Below.refl w.heap.size w).alloc (Nat.le_refl _) (.cells knA 22)).alloc (by simp) (.cells knB 3))
  have HCA : Hid (((w.alloc (.cells knA 22)).alloc (.cells knB 3)).heap[w.heap.size]? = some (.cells knA 22 (0, 0))) := hid (by
    rw [Below.heap_alloc _ _ _ (by simp)]; exact heap_alloc_new w _)
  have HCB : Hid (((w.alloc (.cells knA 22)).alloc (.cells knB 3)).heap[w.heap.size + 1]? = some (.cells knB 3 (0, 0))) := hid (by
    have := heap_alloc_new (w.alloc (.cells knA 22)) (.cells knB 3)
    simpa using this)
  go_enter Try.func8, Try.ntmps8
  go_wp2_with fail
  generalize (w.alloc (.cells knA 22)).alloc (.cells knB 3) = wA at *
  go_loopg [3, 4, 5, 6, 7, 8, 9, 10] (9 : Nat) (fun gg v3 v4 v5 v6 v7 v8 v9 v10 wr => ∃ i : Nat, i ≤ 9 ∧ gg = 9 - i ∧ v3 = .int .i64 (i : Int) ∧ Below wA.heap.size wA wr)
  case atStart => exact ⟨0, by omega, by omega, rfl, Below.refl _ _⟩
  case round =>
    obtain ⟨i, hi, rfl, rfl, hbel⟩ := hrel
    have HBE := hid hbel
    clear hbel
    by_cases hil : i < 9
    · have hi1 : (i : Int) < 9 := by omega
      have HCI : Hid (∀ W, Below wA.heap.size wA W → W.cell? ⟨w.heap.size, i, none⟩ = some (.int .u64 (knAt.getD i 0 : Nat)) ∧ W.cell? ⟨w.heap.size + 1, i, none⟩ = some (.int .i64 (knLg.getD i 0 : Nat))) := hid (fun W hb => by
        have h1 := (hb.block _ (lt_of_block HCA.out)).trans HCA.out
        have h2 := (hb.block _ (lt_of_block HCB.out)).trans HCB.out
        exact ⟨by rw [cell_of_heap h1]; exact knA_get i hil, by rw [cell_of_heap h2]; exact knB_get i hil⟩)
      obtain ⟨f1, f2, f3, f4, f5⟩ := kn_ok ⟨i, hil⟩
      simp only at f1 f2 f3 f4 f5
      have HG1 := hid (get_put f2 [])
      generalize knAt.getD i 0 = n at *
      generalize knLg.getD i 0 = l at *
      rw [List.append_nil, f1] at HG1
      have HP := hid (put12_any n f2 wr)
      rw [f1] at HP
      have F1 := hid f1
      have F3 := hid f3
      clear f1 f3
      generalize putB n = x at *
      have c1 := HCI.out wr HBE.out
      have c1a := c1.1
      clear c1
      go_wp2_with fail
      refine HP.out.mono ?_
      rintro e w2 ⟨a2, c2, rfl, ho2, hb2⟩
      have HS2 := hid (Sl.own ho2 F1.out.symm)
      have HB2 := hid (two_below HBE.out hb2)
      have c2b := (HCI.out w2 HB2.out).2
      have c2a := (HCI.out w2 HB2.out).1
      have HG2 := hid (get_any x w2 _ HS2.out (by rw [F1.out]; omega))
      rw [HG1.out] at HG2
      have HG2' : Hid (Calls Try.prog 10 #[.slice a2 l c2] w2 fun e w' => e = .returned (.tuple #[.int .u64 (n : Int), .int .i64 (l : Int), .int .i64 0]) ∧ w' = w2) := HG2
      obtain ⟨hs3, hx3⟩ := HS2.out.takeRun (l - 1) (by rw [F1.out]; omega) F1.out.symm
      have HG3 := hid (get_any _ w2 _ hx3 (by simp; omega))
      rw [F3.out] at HG3
      have HG3' : Hid (Calls Try.prog 10 #[.slice a2 (l - 1) c2] w2 fun e w' => e = .returned (.tuple #[.int .u64 0, .int .i64 0, .int .i64 51]) ∧ w' = w2) := HG3
      have hs3' := hs3 .i64
      obtain ⟨l1, hl1⟩ : ∃ l1, l = l1 + 1 := ⟨l - 1, by omega⟩
      subst hl1
      have hs4 : ∀ W, (Instr.sliceAt 23 (.slice a2 (l1 + 1) c2) none (some (.int .i64 (l1 : Int))) none).run Try.prog W = .ok (.slice a2 l1 c2) W := hs3'
      have HG4 : Hid (Calls Try.prog 10 #[.slice a2 l1 c2] w2 fun e w' => e = .returned (.tuple #[.int .u64 0, .int .i64 0, .int .i64 51]) ∧ w' = w2) := HG3'
      clear ho2 hb2 HP c1a hs3 hs3' hx3 HG2 HG3 HG3' HG1
      go_wp2_with fail
      refine HG2'.out.mono ?_
      rintro e w3 ⟨rfl, hw3⟩
      subst hw3
      go_wp2_with fail
      refine HG4.out.mono ?_
      rintro e w3' ⟨rfl, hw3⟩
      subst hw3
      go_wp2_with fail
      go_roundg (9 - (i + 1))
      case measure => omega
      case rel => exact ⟨i + 1, by omega, rfl, by go_num, HB2.out⟩
    · have hi1 : ¬ (i : Int) < 9 := by omega
      have e : i = 9 := by omega
      subst e
      obtain ⟨w1, rfl⟩ : ∃ w1, w1 = wr := ⟨_, rfl⟩
      have HBw1 := hid (two_below HBA.out HBE.out)
      clear HBE HBA HCA HCB hi hil hi1
      go_wp2_with fail
      have HG1 := hid (get_any _ _ _ (sl_vals (W := w1) [253, 0, 252] (cs := #[.int .u8 253, .int .u8 0, .int .u8 252]) (m := 3) rfl rfl) (by decide))
      rw [kn_g1] at HG1
      refine HG1.out.mono ?_
      rintro e w2 ⟨rfl, hw⟩
      have HBw2 : Hid (Below w.heap.size w w2) := hid (by rw [hw]; exact HBw1.out.alloc HBw1.out.size _)
      clear hw HG1 HBw1
      go_wp2_with fail
      have HG2 := hid (get_any _ _ _ (sl_vals (W := w2) [254, 0, 0, 255, 255] (cs := #[.int .u8 254, .int .u8 0, .int .u8 0, .int .u8 255, .int .u8 255]) (m := 5) rfl rfl) (by decide))
      rw [kn_g2] at HG2
      refine HG2.out.mono ?_
      rintro e w3 ⟨rfl, hw⟩
      have HBw3 : Hid (Below w.heap.size w w3) := hid (by rw [hw]; exact HBw2.out.alloc HBw2.out.size _)
      clear hw HG2 HBw2
      go_wp2_with fail
      have HG3 := hid (get_any _ _ _ (sl_vals (W := w3) [255, 0, 0, 0, 0, 255, 255, 255, 255] (cs := #[.int .u8 255, .int .u8 0, .int .u8 0, .int .u8 0, .int .u8 0, .int .u8 255, .int .u8 255, .int .u8 255, .int .u8 255]) (m := 9) rfl rfl) (by decide))
      rw [kn_g3] at HG3
      refine HG3.out.mono ?_
      rintro e w4 ⟨rfl, hw⟩
      have HBw4 : Hid (Below w.heap.size w w4) := hid (by rw [hw]; exact HBw3.out.alloc HBw3.out.size _)
      clear hw HG3 HBw3
      go_wp2_with fail
      have HD1 := hid (records_any _ _ _ (sl_vals (W := w4) [2, 0, 2, 0] (cs := #[.int .u8 2, .int .u8 0, .int .u8 2, .int .u8 0]) (m := 4) rfl rfl) (by decide))
      rw [kn_d1] at HD1
      refine HD1.out.mono ?_
      rintro e w5 ⟨ad1, cd1, he, _, hb⟩
      have he' : e = .returned (.tuple #[.slice ad1 0 cd1, .int .i64 50]) := he
      subst he'
      have HBw5 : Hid (Below w.heap.size w w5) := hid (two_below (HBw4.out.alloc HBw4.out.size _) hb)
      clear he hb HD1 HBw4
      go_wp2_with fail
      have HD2 := hid (records_any _ _ _ (sl_vals (W := w5) [1, 2, 7] (cs := #[.int .u8 1, .int .u8 2, .int .u8 7]) (m := 3) rfl rfl) (by decide))
      rw [kn_d2] at HD2
      refine HD2.out.mono ?_
      rintro e w6 ⟨ad2, cd2, he, _, hb⟩
      have he' : e = .returned (.tuple #[.slice ad2 0 cd2, .int .i64 51]) := he
      subst he'
      have HBw6 : Hid (Below w.heap.size w w6) := hid (two_below (HBw5.out.alloc HBw5.out.size _) hb)
      clear he hb HD2 HBw5
      go_wp2_with fail
      have HD3 := hid (records_any _ _ _ (sl_vals (W := w6) [1, 255, 255, 255, 255, 255, 255, 255, 255, 255] (cs := #[.int .u8 1, .int .u8 255, .int .u8 255, .int .u8 255, .int .u8 255, .int .u8 255, .int .u8 255, .int .u8 255, .int .u8 255, .int .u8 255]) (m := 10) rfl rfl) (by decide))
      rw [kn_d3] at HD3
      refine HD3.out.mono ?_
      rintro e w7 ⟨ad3, cd3, he, _, hb⟩
      have he' : e = .returned (.tuple #[.slice ad3 0 cd3, .int .i64 51]) := he
      subst he'
      have HBw7 : Hid (Below w.heap.size w w7) := hid (two_below (HBw6.out.alloc HBw6.out.size _) hb)
      clear he hb HD3 HBw6
      go_wp2_with fail
      go_loopg [27, 28] (64 : Nat) (fun gg v27 v28 wr => ∃ (i : Nat) (ar : Option Addr) (cr : Nat), i ≤ 64 ∧ gg = 64 - i ∧ v28 = .int .i64 (i : Int) ∧ v27 = .slice ar i cr ∧ Ro w.heap.size wr (.slice ar i cr) (kn i) ∧ Below w.heap.size w wr)
      case atStart => exact ⟨0, none, 0, by omega, by omega, rfl, rfl, Ro.nil _ _, HBw7.out⟩
      case round =>
        obtain ⟨i, ar, cr, hi, rfl, rfl, rfl, hro, hbel⟩ := hrel
        have HRO := hid hro
        have HBE := hid hbel
        clear HBw7
        by_cases hil : i < 64
        · have hi1 : (i : Int) < 64 := by omega
          obtain ⟨a6, c6, w6', hrun6, hro6, hb6⟩ := append_rec (t := i) (body := []) hro (own_none wr w.heap.size) (one_slice _ _ _) (by rw [kn_len]; omega) hbel.size
          rw [kn_len] at hrun6 hro6
          rw [← kn_succ] at hro6
          have HRUN6 := hid hrun6
          have HRO6 := hid hro6
          have HB6 := hid (HBE.out.trans hb6)
          have hiw : IntKind.u64.wrap (i : Int) = (i : Int) := by rw [IntKind.wrap_u64]; omega
          clear hrun6 hro6 hb6 hro hbel
          go_wp2_with (first | (at_builtin; refine wpList_append_run rfl (.tmp 166) (.tmp 170) 30 rfl (.slice ar i cr) (.slice (some ⟨wr.heap.size, 0, none⟩) 1 1) (.slice a6 (i + 1) c6) w6' rfl rfl HRUN6.out ?_) | fail)
          go_roundg (64 - (i + 1))
          case measure => omega
          case rel => exact ⟨i + 1, a6, c6, by omega, rfl, by go_num, rfl, HRO6.out, HB6.out⟩
        · have e : i = 64 := by omega
          subst e
          have hi1 : ¬ ((64 : Nat) : Int) < 64 := by omega
          clear hro hbel hi hil
          obtain ⟨w8, rfl⟩ : ∃ w8, w8 = wr := ⟨_, rfl⟩
          have HST := hid (stream_any w8 _ _ HRO.out.rcs (kn_few 64 (Nat.le_refl _)))
          rw [kn_stream.1] at HST
          simp only [streamed] at HST
          rw [kn_stream.2] at HST
          have HX1 := hid kn_recs
          have HX3 := hid kn_r3
          have HX50 := hid kn_r50
          have HXL := hid kn_stream.2
          generalize x64 = X at HST HX1 HX3 HX50 HXL
          go_wp2_with fail
          refine HST.out.mono ?_
          rintro e w9 ⟨a9, c9, rfl, ho9, hb9⟩
          have HO9 := hid ho9
          have HB9 := hid (two_below HBE.out hb9)
          have HRO9 := hid (HRO.out.below hb9)
          have HS8 := hid HBE.out.size
          have HS9 := hid hb9.size
          have HR9 := hid (records_any w9 _ X (Sl.own ho9 HXL.out.symm) (by rw [HXL.out]; decide))
          rw [HX1.out] at HR9
          simp only [recorded] at HR9
          rw [kn_len] at HR9
          clear ho9 hb9 HST HBE HRO
          go_wp2_with fail
          refine HR9.out.mono ?_
          rintro e w10 ⟨a10, c10, rfl, _, hb10⟩
          have HO10 := hid (own_stay HO9.out hb10)
          have HB10 := hid (two_below HB9.out hb10)
          have HRO10 := hid (HRO9.out.below hb10)
          have HS10 : Hid (w8.heap.size ≤ w10.heap.size) := hid (Nat.le_trans HS9.out hb10.size)
          clear hb10 HR9 HO9 HB9 HRO9 HS9
          obtain ⟨a11, c11, w11, hrun11, hro11, hb11, hk11⟩ := append_rec2 (t := 99) (body := []) HRO10.out (own_none w10 w.heap.size) (one_slice _ _ _) (by rw [kn_len]; omega) HB10.out.size
          have HS11 := hid (stream_any w11 _ _ hro11.rcs kn_few2)
          rw [kn_more] at HS11
          simp only [streamed, kn_len] at HS11
          rw [kn_len] at hrun11
          have HRUN11 := hid hrun11
          have HB11 := hid (HB10.out.trans hb11)
          have HO11 := hid (hk11 _ _ _ _ HO10.out)
          have HZ11 : Hid (w8.heap.size ≤ w11.heap.size) := hid (by
            have h1 := (HO11.out.lt)
            rcases HO11.out.2 with ⟨_, h0⟩ | ⟨g, _, _, h2, h3, h4, _⟩
            · omega
            · have := lt_of_block h4; omega)
          clear hrun11 hro11 hb11 hk11 HRO10 HB10 HO10 HS10
          go_wp2_with (first | (at_builtin; refine wpList_append_run rfl (.tmp 183) (.tmp 185) 30 rfl (.slice ar 64 cr) (.slice (some ⟨w10.heap.size, 0, none⟩) 1 1) (.slice a11 65 c11) w11 rfl rfl HRUN11.out ?_) | fail)
          refine HS11.out.mono ?_
          rintro e w12 ⟨a12, c12, he12, _, hb12⟩
          have he12' : e = .returned (.tuple #[.slice a12 0 c12, .int .i64 3]) := he12
          subst he12'
          have HO12 := hid (own_stay HO11.out hb12)
          have HB12 := hid (two_below HB11.out hb12)
          have HZ12 : Hid (w8.heap.size ≤ w12.heap.size) := hid (Nat.le_trans HZ11.out hb12.size)
          clear he12 hb12 HS11 HO11 HB11 HZ11 HRUN11
          obtain ⟨a13, c13, w13, hrun13, hs13, ho13, hb13⟩ := append_keep [99, 0] HXL.out.symm (by omega) HO12.out (by rw [HXL.out]; decide) HZ12.out
          have HR13 := hid (records_any w13 _ _ hs13 (by simp [HXL.out]))
          rw [HX3.out] at HR13
          have HRUN13 : Hid (∀ ty, (Builtin.append_ #[23, 23] ty #[.slice a9 128 c9, .slice (some ⟨w12.heap.size, 0, none⟩) 2 2]).run Try.prog (w12.alloc (.cells #[.int .u8 99, .int .u8 0] 5)) = .ok (.slice a13 130 c13) w13) := hid hrun13
          have HB13 := hid (HB12.out.trans (below_lower hb13 HS8.out))
          have HO13 := hid ho13
          have HZ13 : Hid (w8.heap.size ≤ w13.heap.size) := hid (Nat.le_trans HZ12.out hb13.size)
          clear hrun13 hs13 ho13 hb13 HO12 HB12 HZ12
          go_wp2_with (first | (at_builtin; refine wpList_append_run rfl (.tmp 191) (.tmp 192) 23 rfl (.slice a9 128 c9) (.slice (some ⟨w12.heap.size, 0, none⟩) 2 2) (.slice a13 130 c13) w13 rfl rfl HRUN13.out ?_) | fail)
          have HR13' : Hid (Calls Try.prog 19 #[.slice a13 130 c13] w13 fun e w' => ∃ ao cap, e = .returned (.tuple #[.slice ao 0 cap, .int .i64 3]) ∧ Ro w13.heap.size w' (.slice ao 0 cap) [] ∧ Below w13.heap.size w13 w') := HR13
          refine HR13'.out.mono ?_
          rintro e w14 ⟨a14, c14, rfl, _, hb14⟩
          have HO14 := hid (own_stay HO13.out hb14)
          have HB14 := hid (two_below HB13.out hb14)
          have HZ14 : Hid (w8.heap.size ≤ w14.heap.size) := hid (Nat.le_trans HZ13.out hb14.size)
          clear hb14 HR13 HR13' HO13 HB13 HZ13 HRUN13
          obtain ⟨a15, c15, w15, hrun15, hs15, ho15, hb15⟩ := append_keep [0, 0] HXL.out.symm (by omega) HO14.out (by rw [HXL.out]; decide) HZ14.out
          have HR15 := hid (records_any w15 _ _ hs15 (by simp [HXL.out]))
          rw [HX50.out] at HR15
          have HRUN15 : Hid (∀ ty, (Builtin.append_ #[23, 23] ty #[.slice a9 128 c9, .slice (some ⟨w14.heap.size, 0, none⟩) 2 2]).run Try.prog (w14.alloc (.cells #[.int .u8 0, .int .u8 0] 5)) = .ok (.slice a15 130 c15) w15) := hid hrun15
          have HB15 := hid (HB14.out.trans (below_lower hb15 HS8.out))
          clear hrun15 hs15 ho15 hb15 HO14 HB14 HZ14
          go_wp2_with (first | (at_builtin; refine wpList_append_run rfl (.tmp 198) (.tmp 199) 23 rfl (.slice a9 128 c9) (.slice (some ⟨w14.heap.size, 0, none⟩) 2 2) (.slice a15 130 c15) w15 rfl rfl HRUN15.out ?_) | fail)
          have HR15' : Hid (Calls Try.prog 19 #[.slice a15 130 c15] w15 fun e w' => ∃ ao cap, e = .returned (.tuple #[.slice ao 0 cap, .int .i64 50]) ∧ Ro w15.heap.size w' (.slice ao 0 cap) [] ∧ Below w15.heap.size w15 w') := HR15
          refine HR15'.out.mono ?_
          rintro e w16 ⟨a16, c16, rfl, _, hb16⟩
          have HB16 := hid (two_below HB15.out hb16)
          clear hb16 HR15 HR15' HB15 HRUN15 HX1 HX3 HX50 HXL HS8
          obtain ⟨i0, hi0, hz0, hz1, hz2⟩ := info_get Try.info5
          have Hm1 : Hid (i0.bytes * 32768 ≤ 281474976710656) := hid (by rw [hz2]; omega)
          have Hm2 : Hid ((32768 : Nat) ≤ maxLen) := hid (by unfold maxLen; omega)
          have Hm3 : Hid (i0.bytes * 32769 ≤ 281474976710656) := hid (by rw [hz2]; omega)
          have Hm4 : Hid ((32769 : Nat) ≤ maxLen) := hid (by unfold maxLen; omega)
          have HSZ := hid HB16.out.size
          obtain ⟨Z, hZ⟩ : ∃ Z : Bs, Z = List.replicate 32768 0 := ⟨_, rfl⟩
          have HZL : Hid (Z.length = 32768) := hid (by rw [hZ]; exact List.length_replicate)
          have HZ := hid hZ
          clear hZ
          have hcut : ∀ (a : Option Addr) (W : World), (Instr.sliceAt 23 (.slice a 32768 32768) none (some (.int .i64 32764)) none).run Try.prog W = .ok (.slice a 32764 32768) W := fun a W => slice_to .i64 a 32768 32768 32764 (by omega) W
          have hcut2 : ∀ (a : Option Addr) (W : World), (Instr.sliceAt 23 (.slice a 32768 32768) none (some (.int .i64 32765)) none).run Try.prog W = .ok (.slice a 32765 32768) W := fun a W => slice_to .i64 a 32768 32768 32765 (by omega) W
          obtain ⟨w17, hmk17, hown17, hg17⟩ := run_make_full (P := Try.prog) w16 w.heap.size 23 5 i0 (.int .u8 0) 1 Try.underlying23 hi0 hz0 hz1 .i64 .i64 32768 Hm1.out Hm2.out HSZ.out
          have hmk17' : (Instr.makeSlice 23 (.int .i64 32768) (.int .i64 32768)).run Try.prog w16 = .ok (.slice (some ⟨w16.heap.size, 0, none⟩) 32768 32768) w17 := hmk17
          have HO17 := hid hown17
          have HG17 := hid hg17
          clear hown17 hg17 hmk17
          go_wp2_with fail
          have HB17 := hid (HB16.out.grown HG17.out HB16.out.size (fun k h => by cases h))
          have HS17 : Hid (Sl w17 (.slice (some ⟨w16.heap.size, 0, none⟩) 32768 32768) Z) := hid (Sl.own (by have := HO17.out; rw [made_bytes, ← HZ.out] at this; exact this) HZL.out.symm)
          obtain ⟨s1, hs1, hs1l⟩ := kn_yes (Z.take 32764) (by rw [List.length_take, HZL.out]; decide)
          have HT1 := hid (stream_any _ _ _ (rcs_one w17 1 (.slice (some ⟨w16.heap.size, 0, none⟩) 32764 32768) (Z.take 32764) (HS17.out.takeRun 32764 (by rw [HZL.out]; decide) HZL.out.symm).2) ⟨by simp, fun i hi => by
            have hi' : i = 0 := by simp at hi; omega
            subst hi'
            simp
            omega⟩)
          rw [hs1] at HT1
          simp only [streamed] at HT1
          rw [hs1l] at HT1
          clear HG17 HO17 HB16 hs1 hs1l HZ
          refine HT1.out.mono ?_
          rintro e w18 ⟨a18, c18, rfl, _, hb18⟩
          have HB18 := hid (two_below (HB17.out.alloc HB17.out.size _) hb18)
          have HS18 := hid ((HS17.out.below ((Below.refl _ _).alloc (Nat.le_refl _) _)).below hb18)
          have HT2 := hid (stream_any _ _ _ (rcs_one w18 1 (.slice (some ⟨w16.heap.size, 0, none⟩) 32765 32768) (Z.take 32765) (HS18.out.takeRun 32765 (by rw [HZL.out]; decide) HZL.out.symm).2) ⟨by simp, fun i hi => by
            have hi' : i = 0 := by simp at hi; omega
            subst hi'
            simp
            omega⟩)
          rw [kn_no (Z.take 32765) (by rw [List.length_take, HZL.out]; decide)] at HT2
          have HT2' : Hid (Calls Try.prog 17 #[.slice (some ⟨w18.heap.size, 0, none⟩) 1 1] (w18.alloc (.cells #[.int .u64 1, .slice (some ⟨w16.heap.size, 0, none⟩) 32765 32768] 39)) fun e w' => ∃ ao cap, e = .returned (.tuple #[.slice ao 0 cap, .int .i64 3]) ∧ w'.ownsRow (w18.alloc (.cells #[.int .u64 1, .slice (some ⟨w16.heap.size, 0, none⟩) 32765 32768] 39)).heap.size 5 1 (.slice ao 0 cap) 0 (bcs []) ∧ Below (w18.alloc (.cells #[.int .u64 1, .slice (some ⟨w16.heap.size, 0, none⟩) 32765 32768] 39)).heap.size (w18.alloc (.cells #[.int .u64 1, .slice (some ⟨w16.heap.size, 0, none⟩) 32765 32768] 39)) w') := HT2
          clear hb18 HT1 HS17 HB17
          go_wp2_with fail
          refine HT2'.out.mono ?_
          rintro e w19 ⟨a19, c19, rfl, _, hb19⟩
          have HB19 := hid (two_below (HB18.out.alloc HB18.out.size _) hb19)
          have HSZ2 := hid HB19.out.size
          clear hb19 HT2 HT2' HS18 HB18 hcut hcut2
          obtain ⟨w20, hmk20, hown20, hg20⟩ := run_make_full (P := Try.prog) w19 w.heap.size 23 5 i0 (.int .u8 0) 1 Try.underlying23 hi0 hz0 hz1 .i64 .i64 32769 Hm3.out Hm4.out HSZ2.out
          have hmk20' : (Instr.makeSlice 23 (.int .i64 32769) (.int .i64 32769)).run Try.prog w19 = .ok (.slice (some ⟨w19.heap.size, 0, none⟩) 32769 32769) w20 := hmk20
          have HO20 := hid hown20
          have HG20 := hid hg20
          clear hown20 hg20 hmk20
          go_wp2_with fail
          have HB20 := hid (HB19.out.grown HG20.out HB19.out.size (fun k h => by cases h))
          obtain ⟨Y, hY⟩ : ∃ Y : Bs, Y = List.replicate 32769 0 := ⟨_, rfl⟩
          have hYL : Y.length = 32769 := by rw [hY]; exact List.length_replicate
          have HR20 := hid (records_any w20 (.slice (some ⟨w19.heap.size, 0, none⟩) 32769 32769) Y (Sl.own (by have := HO20.out; rw [made_bytes, ← hY] at this; exact this) hYL.symm) (by rw [hYL]; decide))
          rw [kn_big _ hYL] at HR20
          clear hY hYL
          have HR20' : Hid (Calls Try.prog 19 #[.slice (some ⟨w19.heap.size, 0, none⟩) 32769 32769] w20 fun e w' => ∃ ao cap, e = .returned (.tuple #[.slice ao 0 cap, .int .i64 3]) ∧ Ro w20.heap.size w' (.slice ao 0 cap) [] ∧ Below w20.heap.size w20 w') := HR20
          clear HG20 HO20 HB19 HR20
          refine HR20'.out.mono ?_
          rintro e w21 ⟨a21, c21, rfl, _, hb21⟩
          have HB21 := hid (two_below HB20.out hb21)
          clear hb21 HR20' HB20
          go_wp2_with fail
          have HQ : Hid (Rcs (w21.alloc (.cells #[.int .u64 1, .slice none 0 0, .int .u64 4, .slice none 0 0, .int .u64 5, .slice none 0 0] 39)) (.slice (some ⟨w21.heap.size, 0, none⟩) 3 3) [(1, []), (4, []), (5, [])]) := hid (rcs_three w21 1 4 5)
          have HBQ := hid (HB21.out.alloc HB21.out.size (.cells #[.int .u64 1, .slice none 0 0, .int .u64 4, .slice none 0 0, .int .u64 5, .slice none 0 0] 39))
          have HSQ : Hid ((w21.alloc (.cells #[.int .u64 1, .slice none 0 0, .int .u64 4, .slice none 0 0, .int .u64 5, .slice none 0 0] 39)).heap.size = w21.heap.size + 1) := hid (by simp)
          have HTQ : Hid (∀ i (h : i < ([(1, []), (4, []), (5, [])] : List Rec).length), ([(1, []), (4, []), (5, [])] : List Rec)[i].1 < 18446744073709551616) := hid (fun i hi => by
            have hi' : i = 0 ∨ i = 1 ∨ i = 2 := by simp at hi; omega
            rcases hi' with rfl | rfl | rfl <;> simp)
          generalize w21.alloc (.cells #[.int .u64 1, .slice none 0 0, .int .u64 4, .slice none 0 0, .int .u64 5, .slice none 0 0] 39) = wq at *
          have HU1 := hid (unknown_one (wq.alloc (.cells #[.int .u64 4] 22)) (.slice (some ⟨w21.heap.size, 0, none⟩) 3 3) [(1, []), (4, []), (5, [])] wq.heap.size 0 1 4 (by rw [cell_of_heap (heap_alloc_new wq _)]; rfl) (HQ.out.below ((Below.refl _ _).alloc (Nat.le_refl _) _)) (by simp) HTQ.out)
          rw [show (([(1, []), (4, []), (5, [])] : List Rec).any fun r => r.1 % 2 == 0 && !(4 == r.1)) = false by decide, HSQ.out] at HU1
          refine HU1.out.mono ?_
          rintro e w22 ⟨rfl, hb22⟩
          have HB22 := hid (two_below (HBQ.out.alloc HBQ.out.size _) hb22)
          have HQ22 := hid ((HQ.out.below ((Below.refl _ _).alloc (Nat.le_refl _) _)).below hb22)
          clear hb22 HU1 HQ HBQ HSQ HB21
          go_wp2_with fail
          have HU2 := hid (unknown_one (w22.alloc (.cells #[.int .u64 6] 22)) (.slice (some ⟨w21.heap.size, 0, none⟩) 3 3) [(1, []), (4, []), (5, [])] w22.heap.size 0 1 6 (by rw [cell_of_heap (heap_alloc_new w22 _)]; rfl) (HQ22.out.below ((Below.refl _ _).alloc (Nat.le_refl _) _)) (by simp) HTQ.out)
          rw [show (([(1, []), (4, []), (5, [])] : List Rec).any fun r => r.1 % 2 == 0 && !(6 == r.1)) = true by decide] at HU2
          refine HU2.out.mono ?_
          rintro e w23 ⟨rfl, hb23⟩
          have HB23 := hid (two_below (HB22.out.alloc HB22.out.size _) hb23)
          have HQ23 := hid ((HQ22.out.below ((Below.refl _ _).alloc (Nat.le_refl _) _)).below hb23)
          clear hb23 HU2 HQ22 HB22
          go_wp2_with fail
          have HU3 := hid (unknown_none w23 _ _ HQ23.out (by simp) HTQ.out)
          rw [show (([(1, []), (4, []), (5, [])] : List Rec).any fun r => r.1 % 2 == 0 && !false) = true by decide] at HU3
          refine HU3.out.mono ?_
          rintro e w24 ⟨rfl, hb24⟩
          have HB24 := hid (two_below HB23.out hb24)
          clear hb24 HU3 HQ23 HB23
          go_wp2_with fail
          have HU4 := hid (unknown_none w24 (.slice none 0 0) [] (Rcs.nil _) (by simp) (fun i hi => by simp at hi))
          refine HU4.out.mono ?_
          rintro e w25 ⟨he25, hb25⟩
          have he25' : e = .returned (.bool false) := he25
          subst he25'
          have HB25 := hid (two_below HB24.out hb25)
          clear he25 hb25 HU4 HB24
          go_wp2_with fail
          refine (works_any _).mono ?_
          rintro e w26 ⟨rfl, hb26⟩
          have HB26 := hid (two_below HB25.out hb26)
          clear hb26
          go_wp2_with fail
          go_ret
          exact ⟨rfl, HB26.out⟩
end Go.Proofs.Ytcmbijckhcckpaa
