/- The law BechKnown. -/
import Derived.Test.YtelfogdcijmenaaDoorKRow
import Derived.Test.YtelfogdcijmenaaDoorKFact
namespace Go.Proofs.YtelfogdcijmenaaDoor
open Go.RowKit

/-- texts lie there -/
def Tx (w : World) (g : Nat) (L : List Bs) : Prop := w.heap[g]? = some (.cells (L.map St).toArray 9 (0, 0))
theorem Tx.below {w w' : World} {g : Nat} {L : List Bs} (h : Tx w g L) (hb : Below w.heap.size w w') : Tx w' g L := (hb.block g (lt_of_block h)).trans h
theorem Tx.cell {w : World} {g : Nat} {L : List Bs} (h : Tx w g L) {i : Nat} (hi : i < L.length) : w.cell? ⟨g, i, none⟩ = some (St L[i]) := by
  rw [cell_of_heap h, List.getElem?_toArray]
  simp [hi]
theorem kn_app (a b : Bs) : (⟨a.toArray⟩ : ByteArray) ++ ⟨b.toArray⟩ = ⟨(a ++ b).toArray⟩ := by
  apply ByteArray.ext
  simp
theorem bits_at {b r : Bs} {er n : Nat} {f t : Int} {pad : Bool} (hf : bitsR b f t pad = (r, er)) (hn : n = r.length) {v : Value} {w : World} (hs : Sl w v b) (hm : b.length ≤ 1000) :
    Calls Tryd.prog 14 #[v, .int .i64 f, .int .i64 t, .bool pad] w fun e w' => ∃ ao cap, e = .returned (.tuple #[.slice ao n cap, .int .i64 (er : Int)]) ∧ Sl w' (.slice ao n cap) r ∧ Below w.heap.size w w' := by
  subst hn
  have h := bits_all b v f t pad w hs (by omega)
  rw [hf] at h
  exact h.mono fun _ _ ⟨a, c, e, ho, hb⟩ => ⟨a, c, e, Sl.own ho rfl, hb⟩
theorem ord_a {w w8 wt : World} (hB : Below w.heap.size w w8) (hb : Below w8.drew.heap.size w8.drew wt) (o : Obj) : Below w.heap.size w (wt.alloc o) := by
  have h := two_below hB (drew_below hb)
  exact h.alloc h.size o
theorem ord_b {w w8 wt : World} {o : Obj} (hB : Below w.heap.size w w8) (hb : Below (w8.alloc o).drew.heap.size (w8.alloc o).drew wt) : Below w.heap.size w wt :=
  two_below (hB.alloc hB.size o) (drew_below hb)
theorem ord_s {w8 wt : World} {R : Bs} {n : Nat} (hn : R.length = n) (hb : Below (w8.alloc (.cells (bcs R).toArray 5)).drew.heap.size (w8.alloc (.cells (bcs R).toArray 5)).drew wt) : Sl wt (.slice (some ⟨w8.heap.size, 0, none⟩) n n) R :=
  (blk_sl (heap_alloc_new w8 _) hn).below (drew_below hb)
set_option maxRecDepth 100000 in
set_option maxHeartbeats 8000000 in
theorem known_any (w : World) (hx : Mx w) : Calls Tryd.prog 8 #[] w fun e w' => e = .returned (.bool true) ∧ Below w.heap.size w w' := by
  have HX := hid hx
  clear hx
  go_enter Tryd.func8, Tryd.ntmps8
  go_wp2_with fail
  generalize hw1 : World.alloc w _ = w1
  have HT1 : Hid (Tx w1 w.heap.size goods) := hid (by rw [← hw1]; exact heap_alloc_new w _)
  have HB1 : Hid (Below w.heap.size w w1) := hid (by rw [← hw1]; exact (Below.refl w.heap.size w).alloc (Nat.le_refl _) _)
  clear hw1
  go_loopg [2] 7 (fun gg v2 wr => ∃ i : Nat, i ≤ 7 ∧ gg = 7 - i ∧ v2 = .int .i64 (i : Int) ∧ Tx wr w.heap.size goods ∧ Below w.heap.size w wr)
  case atStart => exact ⟨0, by omega, by omega, rfl, HT1.out, HB1.out⟩
  case round =>
    obtain ⟨i, hi, rfl, rfl, ht, hbel⟩ := hrel
    clear HT1 HB1
    by_cases hin : i < 7
    · have hi1 : (i : Int) < 7 := by omega
      have hcell := ht.cell (i := i) hin
      have HG := hid (goods_ok (goods[i]'hin) (List.getElem_mem _))
      have HCL := hid (fun W (hb : Below wr.heap.size wr W) => (ht.below hb).cell (i := i) hin)
      have HTB := hid (fun W (hb : Below wr.heap.size wr W) => ht.below hb)
      generalize goods[i]'hin = s at hcell HG HCL
      have HD := hid (dec_any s wr (by have := HG.out.2; omega) (HX.out.below hbel))
      have HBE := hid hbel
      clear ht hbel hi
      generalize hde : decB s = de at *
      obtain ⟨h, ws, er⟩ := de
      obtain ⟨he0, hsl⟩ := HG.out
      have he1 : er = 0 := he0
      subst he1
      have HSM := hid (dec_small hde (by omega))
      have HED := hid (enc_dec hde)
      have HLS := hid (fun W => lsmall_any s W (by omega))
      clear he0 HG hde hsl
      generalize low s = ls at *
      simp only [decoded] at HD
      go_wp2_with fail
      refine HD.out.mono ?_
      rintro e w2 ⟨v, rfl, hs, hb⟩
      have HB2 := hid hb
      have HEC := hid (enc_any h ws v w2 hs HSM.out.2 HSM.out.1 (HX.out.below (two_below HBE.out hb)))
      rw [HED.out] at HEC
      simp only [encoded] at HEC
      obtain ⟨a, c, rfl⟩ := hs.shape
      clear hs hb HD hcell
      go_wp2_with fail
      refine HEC.out.mono ?_
      rintro e w3 ⟨rfl, hb⟩
      have HB3 := hid (two_below HB2.out hb)
      have hcell := HCL.out w3 HB3.out
      clear hb HEC HB2
      go_wp2_with fail
      refine (HLS.out w3).mono ?_
      rintro e w4 ⟨rfl, hb⟩
      have HB4 := hid (two_below HB3.out hb)
      clear hb HB3 HLS hcell
      go_wp2_with fail
      go_roundg (7 - (i + 1))
      case measure => omega
      case rel => exact ⟨i + 1, by omega, rfl, by go_num, HTB.out _ HB4.out, two_below HBE.out HB4.out⟩
    · have hi1 : ¬ (i : Int) < 7 := by omega
      have HB1 := hid hbel
      clear ht hbel hi
      go_wp2_with fail
      generalize hw1 : World.alloc wr _ = w1
      obtain ⟨g, hg⟩ : ∃ g, g = wr.heap.size := ⟨_, rfl⟩
      rw [← hg]
      have HT2 : Hid (Tx w1 g bads) := hid (by rw [← hw1, hg]; exact heap_alloc_new wr _)
      have HB2 : Hid (Below w.heap.size w w1) := hid (by rw [← hw1]; exact HB1.out.alloc HB1.out.size _)
      clear hw1 hg HB1 hin hi1
      go_loopg [9] 15 (fun gg v9 wr => ∃ i : Nat, i ≤ 15 ∧ gg = 15 - i ∧ v9 = .int .i64 (i : Int) ∧ Tx wr g bads ∧ Below w.heap.size w wr)
      case atStart => exact ⟨0, by omega, by omega, rfl, HT2.out, HB2.out⟩
      case round =>
        obtain ⟨i, hi, rfl, rfl, ht, hbel⟩ := hrel
        clear HT2 HB2
        by_cases hin : i < 15
        · have hi1 : (i : Int) < 15 := by omega
          have hcell := ht.cell (i := i) hin
          have HG := hid (bads_ok (bads[i]'hin) (List.getElem_mem _))
          generalize bads[i]'hin = s at hcell HG
          have HTB := hid (fun W (hb : Below _ _ W) => ht.below hb)
          have HD := hid (dec_any s _ (by have := HG.out.2; omega) (HX.out.below hbel))
          have HBE := hid hbel
          clear ht hbel hi
          generalize hde : decB s = de at *
          obtain ⟨h, ws, er⟩ := de
          obtain ⟨he0, hsl⟩ := HG.out
          have he1 : er = 60 := he0
          subst he1
          clear he0 HG hde hsl
          simp only [decoded] at HD
          go_wp2_with fail
          refine HD.out.mono ?_
          rintro e w2 ⟨v, rfl, hs, hb⟩
          have HB2 := hid hb
          obtain ⟨a, c, rfl⟩ := hs.shape
          clear hs hb HD hcell
          go_wp2_with fail
          go_roundg (15 - (i + 1))
          case measure => omega
          case rel => exact ⟨i + 1, by omega, rfl, by go_num, HTB.out _ HB2.out, two_below HBE.out HB2.out⟩
        · have hi1 : ¬ (i : Int) < 15 := by omega
          have HB0 := hid hbel
          clear ht hbel hi hin
          rename_i wa
          go_wp2_with fail
          have HC := hid (dec_any [97, 49, 50, 117, 101, 108, 53, 109] _ (by decide) (HX.out.below HB0.out))
          rw [kd_a] at HC
          simp only [decoded] at HC
          refine HC.out.mono ?_
          rintro e w1 ⟨v1, rfl, hs, hb⟩
          obtain ⟨a1, c1, rfl⟩ := hs.shape
          have HB1 := hid (two_below HB0.out hb)
          clear hs hb HC HB0
          go_wp2_with fail
          have HC := hid (dec_any [65, 49, 71, 55, 83, 71, 68, 56] _ (by decide) (HX.out.below HB1.out))
          rw [kd_b] at HC
          simp only [decoded] at HC
          refine HC.out.mono ?_
          rintro e w2 ⟨v2, rfl, hs, hb⟩
          obtain ⟨a2, c2, rfl⟩ := hs.shape
          have HB2 := hid (two_below HB1.out hb)
          clear hs hb HC HB1
          go_wp2_with fail
          have HC := hid (enc_any [] [] (.slice none 0 0) _ (Sl.nil _) (by decide) (by decide) (HX.out.below HB2.out))
          rw [ke_c] at HC
          simp only [encoded] at HC
          refine HC.out.mono ?_
          rintro e w3 ⟨rfl, hb⟩
          have HB3 := hid (two_below HB2.out hb)
          clear hb HC HB2
          go_wp2_with fail
          have HC := hid (enc_any [65] [] (.slice none 0 0) _ (Sl.nil _) (by decide) (by decide) (HX.out.below HB3.out))
          rw [ke_d] at HC
          simp only [encoded] at HC
          refine HC.out.mono ?_
          rintro e w4 ⟨rfl, hb⟩
          have HB4 := hid (two_below HB3.out hb)
          clear hb HC HB3
          go_wp2_with fail
          have HC := hid (row_any 84 97 w4 (by decide))
          refine HC.out.mono ?_
          rintro e w5 ⟨rfl, hb⟩
          have HB5 := hid (two_below HB4.out hb)
          clear hb HC HB4
          go_wp2_with fail
          have HC := hid (enc_any (List.replicate 84 97) [] (.slice none 0 0) _ (Sl.nil _) (by decide) (by decide) (HX.out.below HB5.out))
          rw [ke_e] at HC
          simp only [encoded] at HC
          refine HC.out.mono ?_
          rintro e w6 ⟨rfl, hb⟩
          have HB6 := hid (two_below HB5.out hb)
          clear hb HC HB5
          go_wp2_with fail
          have HS := hid (blk_sl (l := [32]) (heap_alloc_new w6 (.cells #[.int .u8 32] 5)) rfl)
          have HB7 := hid (HB6.out.alloc HB6.out.size (.cells #[.int .u8 32] 5))
          generalize w6.alloc (.cells #[.int .u8 32] 5) = w7 at HS HB7 ⊢
          clear HB6
          have HC := hid (enc_any [97] [32] _ _ HS.out (by decide) (by decide) (HX.out.below HB7.out))
          rw [ke_f] at HC
          simp only [encoded] at HC
          refine HC.out.mono ?_
          rintro e w8 ⟨rfl, hb⟩
          have HB8 := hid (two_below HB7.out hb)
          clear hb HC HB7 HS
          go_wp2_with fail
          obtain ⟨S, hS⟩ := ke_most
          have HSD := hid (dec_enc hS)
          have HSL : Hid (S.length = 32768) := hid (by rw [enc_len hS, List.length_replicate, List.length_replicate])
          obtain ⟨R, hR⟩ : ∃ R : Bs, R = List.replicate 32678 0 := ⟨_, rfl⟩
          obtain ⟨H, hH⟩ : ∃ H : Bs, H = List.replicate 83 97 := ⟨_, rfl⟩
          rw [← hR, ← hH] at hS HSD
          have HRL : Hid (R.length = 32678) := hid (by rw [hR, List.length_replicate])
          have HHL : Hid (H.length = 83) := hid (by rw [hH, List.length_replicate])
          have hmk : ∀ W, (Instr.makeSlice 22 (.int .i64 32678) (.int .i64 32678)).run Tryd.prog W = .ok (.slice (some ⟨W.heap.size, 0, none⟩) 32678 32678) (W.alloc (.cells (bcs R).toArray 5)) := by rw [hR]; exact make_n 32678 (by decide)
          have HR : Hid (∀ W, Calls Tryd.prog 17 #[.int .i64 83, .int .u8 97] W fun e w' => e = .returned (St H) ∧ Below W.heap.size W w') := hid (by rw [hH]; exact fun W => row_any 83 97 W (by decide))
          have HE : Hid (∀ v W, Sl W v R → Below w.heap.size w W → Calls Tryd.prog 10 #[St H, v] W fun e w' => e = .returned (.tuple #[St S, .int .i64 0]) ∧ Below W.heap.size W w') := hid (fun v W h1 h2 => by
            have h := enc_any H R v W h1 (by rw [HRL.out]; decide) (by rw [HHL.out]; decide) (HX.out.below h2)
            rw [hS] at h
            exact h)
          clear hS hR hH
          go_cut [28, 29] from 159 (fun v28 v29 wc => v28 = St S ∧ v29 = .int .i64 0 ∧ Below w.heap.size w wc)
          case first =>
            go_region_with (first | (go_at_call 17; refine (HR.out _).mono ?_; rintro e wt ⟨rfl, hb⟩; have HBt := hid hb; clear hb) | (go_at_call 10; (first | (refine (HE.out _ _ (blk_sl (heap_alloc_new _ _) HRL.out) (ord_a HB8.out HBt.out _)).mono ?_; rintro e wu ⟨rfl, hb⟩; have HBu := hid (two_below (ord_a HB8.out HBt.out _) hb); clear hb) | (refine (HE.out _ _ (ord_s HRL.out HBt.out) (ord_b HB8.out HBt.out)).mono ?_; rintro e wu ⟨rfl, hb⟩; have HBu := hid (two_below (ord_b HB8.out HBt.out) hb); clear hb))))
            all_goals
              go_wp2_with fail
              go_meet
              case rel => exact ⟨rfl, rfl, HBu.out⟩
          case rest =>
            obtain ⟨rfl, rfl, hb⟩ := hcut
            clear HB8 hmk HR HE
            have HB9 := hid hb
            clear hb
            go_wp2_with fail
            have HC := hid (dec_any S wc (by rw [HSL.out]; decide) (HX.out.below HB9.out))
            rw [HSD.out] at HC
            simp only [decoded] at HC
            refine HC.out.mono ?_
            rintro e w10 ⟨v10, rfl, hs, hb⟩
            obtain ⟨a10, c10, rfl⟩ := hs.shape
            rw [HRL.out]
            have HB10 := hid (two_below HB9.out hb)
            clear hs hb HC HB9 HSD HRL
            go_wp2_with fail
            obtain ⟨R2, hR⟩ : ∃ R : Bs, R = List.replicate 32679 0 := ⟨_, rfl⟩
            obtain ⟨H2, hH⟩ : ∃ H : Bs, H = List.replicate 83 97 := ⟨_, rfl⟩
            have hS := ke_over
            rw [← hR, ← hH] at hS
            have HRL : Hid (R2.length = 32679) := hid (by rw [hR, List.length_replicate])
            have HHL : Hid (H2.length = 83) := hid (by rw [hH, List.length_replicate])
            have hmk : ∀ W, (Instr.makeSlice 22 (.int .i64 32679) (.int .i64 32679)).run Tryd.prog W = .ok (.slice (some ⟨W.heap.size, 0, none⟩) 32679 32679) (W.alloc (.cells (bcs R2).toArray 5)) := by rw [hR]; exact make_n 32679 (by decide)
            have HR : Hid (∀ W, Calls Tryd.prog 17 #[.int .i64 83, .int .u8 97] W fun e w' => e = .returned (St H2) ∧ Below W.heap.size W w') := hid (by rw [hH]; exact fun W => row_any 83 97 W (by decide))
            have HE : Hid (∀ v W, Sl W v R2 → Below w.heap.size w W → Calls Tryd.prog 10 #[St H2, v] W fun e w' => e = .returned (.tuple #[St [], .int .i64 3]) ∧ Below W.heap.size W w') := hid (fun v W h1 h2 => by
              have h := enc_any H2 R2 v W h1 (by rw [HRL.out]; decide) (by rw [HHL.out]; decide) (HX.out.below h2)
              rw [hS] at h
              exact h)
            clear hS hR hH
            go_cut [33, 34] from 171 (fun v33 v34 wc => v33 = St [] ∧ v34 = .int .i64 3 ∧ Below w.heap.size w wc)
            case first =>
              go_region_with (first | (go_at_call 17; refine (HR.out _).mono ?_; rintro e wt ⟨rfl, hb⟩; have HBt := hid hb; clear hb) | (go_at_call 10; (first | (refine (HE.out _ _ (blk_sl (heap_alloc_new _ _) HRL.out) (ord_a HB10.out HBt.out _)).mono ?_; rintro e wu ⟨rfl, hb⟩; have HBu := hid (two_below (ord_a HB10.out HBt.out _) hb); clear hb) | (refine (HE.out _ _ (ord_s HRL.out HBt.out) (ord_b HB10.out HBt.out)).mono ?_; rintro e wu ⟨rfl, hb⟩; have HBu := hid (two_below (ord_b HB10.out HBt.out) hb); clear hb))))
              all_goals
                go_wp2_with fail
                go_meet
                case rel => exact ⟨rfl, rfl, HBu.out⟩
            case rest =>
              obtain ⟨rfl, rfl, hb⟩ := hcut
              clear HB10 hmk HR HE
              have HB11 := hid hb
              clear hb
              have hsz := st_size S
              rw [HSL.out] at hsz
              go_wp2_with fail
              have HC : Hid (Calls Tryd.prog 12 #[.string (⟨S.toArray⟩ ++ ⟨#[113]⟩)] wc fun e w' => ∃ v, e = .returned (.tuple #[St [], v, .int .i64 3]) ∧ Sl w' v [] ∧ Below wc.heap.size wc w') := hid (by
                have h := dec_any (S ++ [113]) wc (by rw [List.length_append, HSL.out]; decide) (HX.out.below HB11.out)
                rw [kd_over (by rw [List.length_append, HSL.out]; decide)] at h
                have e : St (S ++ [113]) = .string (⟨S.toArray⟩ ++ ⟨#[113]⟩) := congrArg Value.string (kn_app S [113]).symm
                rw [e] at h
                exact h)
              refine HC.out.mono ?_
              rintro e w12 ⟨v12, rfl, hs, hb⟩
              obtain ⟨a12, c12, rfl⟩ := hs.shape
              have HB12 := hid (two_below HB11.out hb)
              clear hs hb HC HB11
              go_wp2_with fail
              have HS := hid (blk_sl (l := [255, 0]) (heap_alloc_new w12 (.cells #[.int .u8 255, .int .u8 0] 5)) rfl)
              have HB13 := hid (HB12.out.alloc HB12.out.size (.cells #[.int .u8 255, .int .u8 0] 5))
              generalize w12.alloc (.cells #[.int .u8 255, .int .u8 0] 5) = w13 at HS HB13  ⊢
              clear HB12
              have HC := hid (bits_at kb_x (n := 4) rfl HS.out (by decide))
              refine HC.out.mono ?_
              rintro e w14 ⟨a14, c14, rfl, hs, hb⟩
              have HB14 := hid (two_below HB13.out hb)
              have HSX := hid hs
              clear hs hb HC HB13 HS
              go_wp2_with fail
              have HC := hid (bits_at kb_y (n := 2) rfl HSX.out (by decide))
              refine HC.out.mono ?_
              rintro e w15 ⟨a15, c15, rfl, hs, hb⟩
              have HB15 := hid (two_below HB14.out hb)
              have HSX := hid (HSX.out.below hb)
              have HSY := hid hs
              clear hs hb HC HB14
              go_wp2_with fail
              have HS := hid (blk_sl (l := [31, 29, 0, 0]) (heap_alloc_new w15 (.cells #[.int .u8 31, .int .u8 29, .int .u8 0, .int .u8 0] 5)) rfl)
              have HB16 := hid (HB15.out.alloc HB15.out.size (.cells #[.int .u8 31, .int .u8 29, .int .u8 0, .int .u8 0] 5))
              have HSX := hid (HSX.out.below ((Below.refl w15.heap.size w15).alloc (Nat.le_refl _) (.cells #[.int .u8 31, .int .u8 29, .int .u8 0, .int .u8 0] 5)))
              have HSY := hid (HSY.out.below ((Below.refl w15.heap.size w15).alloc (Nat.le_refl _) (.cells #[.int .u8 31, .int .u8 29, .int .u8 0, .int .u8 0] 5)))
              generalize w15.alloc (.cells #[.int .u8 31, .int .u8 29, .int .u8 0, .int .u8 0] 5) = w16 at HS HB16 HSX HSY ⊢
              clear HB15
              have HC := hid (bits_at kb_z (n := 2) rfl HS.out (by decide))
              refine HC.out.mono ?_
              rintro e w17 ⟨a17, c17, rfl, hs, hb⟩
              have HB17 := hid (two_below HB16.out hb)
              have HSX := hid (HSX.out.below hb)
              have HSY := hid (HSY.out.below hb)
              have HSZ := hid hs
              clear hs hb HC HB16 HS
              go_wp2_with fail
              have HS := hid (blk_sl (l := [31]) (heap_alloc_new w17 (.cells #[.int .u8 31] 5)) rfl)
              have HB18 := hid (HB17.out.alloc HB17.out.size (.cells #[.int .u8 31] 5))
              have HSX := hid (HSX.out.below ((Below.refl w17.heap.size w17).alloc (Nat.le_refl _) (.cells #[.int .u8 31] 5)))
              have HSY := hid (HSY.out.below ((Below.refl w17.heap.size w17).alloc (Nat.le_refl _) (.cells #[.int .u8 31] 5)))
              have HSZ := hid (HSZ.out.below ((Below.refl w17.heap.size w17).alloc (Nat.le_refl _) (.cells #[.int .u8 31] 5)))
              generalize w17.alloc (.cells #[.int .u8 31] 5) = w18 at HS HB18 HSX HSY HSZ ⊢
              clear HB17
              have HC := hid (bits_at kb_n (n := 0) rfl HS.out (by decide))
              refine HC.out.mono ?_
              rintro e w19 ⟨a19, c19, rfl, hs, hb⟩
              have HB19 := hid (two_below HB18.out hb)
              have HSX := hid (HSX.out.below hb)
              have HSY := hid (HSY.out.below hb)
              have HSZ := hid (HSZ.out.below hb)
              clear hs hb HC HB18 HS
              go_wp2_with fail
              have HS := hid (blk_sl (l := [32]) (heap_alloc_new w19 (.cells #[.int .u8 32] 5)) rfl)
              have HB20 := hid (HB19.out.alloc HB19.out.size (.cells #[.int .u8 32] 5))
              have HSX := hid (HSX.out.below ((Below.refl w19.heap.size w19).alloc (Nat.le_refl _) (.cells #[.int .u8 32] 5)))
              have HSY := hid (HSY.out.below ((Below.refl w19.heap.size w19).alloc (Nat.le_refl _) (.cells #[.int .u8 32] 5)))
              have HSZ := hid (HSZ.out.below ((Below.refl w19.heap.size w19).alloc (Nat.le_refl _) (.cells #[.int .u8 32] 5)))
              generalize w19.alloc (.cells #[.int .u8 32] 5) = w20 at HS HB20 HSX HSY HSZ ⊢
              clear HB19
              have HC := hid (bits_at kb_o (n := 0) rfl HS.out (by decide))
              refine HC.out.mono ?_
              rintro e w21 ⟨a21, c21, rfl, hs, hb⟩
              have HB21 := hid (two_below HB20.out hb)
              have HSX := hid (HSX.out.below hb)
              have HSY := hid (HSY.out.below hb)
              have HSZ := hid (HSZ.out.below hb)
              clear hs hb HC HB20 HS
              go_wp2_with fail
              have HS := hid (blk_sl (l := [1]) (heap_alloc_new w21 (.cells #[.int .u8 1] 5)) rfl)
              have HB22 := hid (HB21.out.alloc HB21.out.size (.cells #[.int .u8 1] 5))
              have HSX := hid (HSX.out.below ((Below.refl w21.heap.size w21).alloc (Nat.le_refl _) (.cells #[.int .u8 1] 5)))
              have HSY := hid (HSY.out.below ((Below.refl w21.heap.size w21).alloc (Nat.le_refl _) (.cells #[.int .u8 1] 5)))
              have HSZ := hid (HSZ.out.below ((Below.refl w21.heap.size w21).alloc (Nat.le_refl _) (.cells #[.int .u8 1] 5)))
              generalize w21.alloc (.cells #[.int .u8 1] 5) = w22 at HS HB22 HSX HSY HSZ ⊢
              clear HB21
              have HC := hid (bits_at kb_p (n := 0) rfl HS.out (by decide))
              refine HC.out.mono ?_
              rintro e w23 ⟨a23, c23, rfl, hs, hb⟩
              have HB23 := hid (two_below HB22.out hb)
              have HSX := hid (HSX.out.below hb)
              have HSY := hid (HSY.out.below hb)
              have HSZ := hid (HSZ.out.below hb)
              clear hs hb HC HB22 HS
              go_wp2_with fail
              have HS := hid (blk_sl (l := [1]) (heap_alloc_new w23 (.cells #[.int .u8 1] 5)) rfl)
              have HB24 := hid (HB23.out.alloc HB23.out.size (.cells #[.int .u8 1] 5))
              have HSX := hid (HSX.out.below ((Below.refl w23.heap.size w23).alloc (Nat.le_refl _) (.cells #[.int .u8 1] 5)))
              have HSY := hid (HSY.out.below ((Below.refl w23.heap.size w23).alloc (Nat.le_refl _) (.cells #[.int .u8 1] 5)))
              have HSZ := hid (HSZ.out.below ((Below.refl w23.heap.size w23).alloc (Nat.le_refl _) (.cells #[.int .u8 1] 5)))
              generalize w23.alloc (.cells #[.int .u8 1] 5) = w24 at HS HB24 HSX HSY HSZ ⊢
              clear HB23
              have HC := hid (bits_at kb_q (n := 0) rfl HS.out (by decide))
              refine HC.out.mono ?_
              rintro e w25 ⟨a25, c25, rfl, hs, hb⟩
              have HB25 := hid (two_below HB24.out hb)
              have HSX := hid (HSX.out.below hb)
              have HSY := hid (HSY.out.below hb)
              have HSZ := hid (HSZ.out.below hb)
              clear hs hb HC HB24 HS
              have k1 := HSX.out.string
              have k2 := HSY.out.string
              have k3 := HSZ.out.string
              go_wp2_with fail
              have HW := hid (works_any _ (HX.out.below HB25.out))
              refine HW.out.mono ?_
              rintro e w26 ⟨rfl, hb⟩
              have HB26 := hid (two_below HB25.out hb)
              clear hb HW
              go_wp2_with fail
              go_ret
              exact ⟨rfl, HB26.out⟩
end Go.Proofs.YtelfogdcijmenaaDoor
