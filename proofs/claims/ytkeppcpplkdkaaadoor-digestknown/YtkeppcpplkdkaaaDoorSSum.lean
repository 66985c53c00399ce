/- A state tells its sum. -/
import Derived.Test.YtkeppcpplkdkaaaDoorFillB
namespace Go.Proofs.YtkeppcpplkdkaaaDoor
open Go.RowKit

theorem Tryd.zero44 : (Tryd.prog.info? 44).map (·.zero) = some (some (.agg (bys (noughts 128)).toArray)) := by kernel_rfl
theorem zero44_run (w : World) : (zeroValue 44).run Tryd.prog w = .ok (.agg (bys (noughts 128)).toArray) w := by
  obtain ⟨i, hi, hz⟩ := Option.map_eq_some_iff.1 Tryd.zero44
  simp [zeroValue, typeInfo, hi, hz, go_sem]
theorem Tryd.zero23 : (Tryd.prog.info? 23).map (·.zero) = some (some (.agg (bys (noughts 32)).toArray)) := by kernel_rfl
theorem zero23_run (w : World) : (zeroValue 23).run Tryd.prog w = .ok (.agg (bys (noughts 32)).toArray) w := by
  obtain ⟨i, hi, hz⟩ := Option.map_eq_some_iff.1 Tryd.zero23
  simp [zeroValue, typeInfo, hi, hz, go_sem]
theorem Tryd.size5 : (Tryd.prog.info? 5).map (·.size) = some 1 := by kernel_rfl
theorem Below.of_drew {B : Nat} {w0 w : World} (h : Below B w0 w) : Below B w0 w.drew := ⟨h.os, h.tape, h.output, h.size, h.block⟩

theorem set8 {w : World} {g : Nat} {X Y : S8} (h : w.heap[g]? = some (.cells (v8 X) 35 (0, 0))) :
    (((((((w.setCell ⟨g, 0, none⟩ (.int .u32 Y.a)).setCell ⟨g, 1, none⟩ (.int .u32 Y.b)).setCell ⟨g, 2, none⟩ (.int .u32 Y.c)).setCell ⟨g, 3, none⟩ (.int .u32 Y.d)).setCell ⟨g, 4, none⟩ (.int .u32 Y.e)).setCell ⟨g, 5, none⟩ (.int .u32 Y.f)).setCell ⟨g, 6, none⟩ (.int .u32 Y.g)).setCell ⟨g, 7, none⟩ (.int .u32 Y.h) = w.setRow g (v8 Y) := by
  rw [setCell_eq_setRow w g 0 _ 35 (0, 0) _ h, setCell_eq_setRow _ g 1 _ 35 (0, 0) _ (setRow_heap w g _ _ 35 _ h), setRow_setRow, setCell_eq_setRow _ g 2 _ 35 (0, 0) _ (setRow_heap w g _ _ 35 _ h), setRow_setRow, setCell_eq_setRow _ g 3 _ 35 (0, 0) _ (setRow_heap w g _ _ 35 _ h), setRow_setRow, setCell_eq_setRow _ g 4 _ 35 (0, 0) _ (setRow_heap w g _ _ 35 _ h), setRow_setRow, setCell_eq_setRow _ g 5 _ 35 (0, 0) _ (setRow_heap w g _ _ 35 _ h), setRow_setRow, setCell_eq_setRow _ g 6 _ 35 (0, 0) _ (setRow_heap w g _ _ 35 _ h), setRow_setRow, setCell_eq_setRow _ g 7 _ 35 (0, 0) _ (setRow_heap w g _ _ 35 _ h), setRow_setRow]
  exact congrArg (w.setRow g) (by simp)
theorem At.other {w w' : World} {g o : Nat} {b : Bs} (h : At w g o b) (e : w'.heap[g]? = w.heap[g]?) : At w' g o b := by
  have hlt : g < w'.heap.size := by
    have h1 := h.1
    rw [Array.getElem?_eq_getElem h1] at e
    exact lt_of_block e
  refine ⟨hlt, fun i hi => ?_⟩
  rw [← h.2 i hi]
  simp [World.cell?, e]
set_option maxHeartbeats 4000000 in
set_option maxRecDepth 100000 in
theorem ssum_any (w : World) (p : Nat) (b : Bs) (s : S8) (t : Bs) (h : Stt w p b s t) (hl : b.length < 1000000) (hkc : KC w) : Calls Tryd.prog 13 #[.pointer (some ⟨p, 0, none⟩)] w fun en w' => en = .returned (vsum (sumS b)) ∧ Below w.heap.size w w' := by
  have HS := hid h
  have HKC := hid hkc
  have HL := hid hl
  clear h hkc hl
  have hz1 := zero44_run
  have hz2 := zero23_run
  obtain ⟨Z44, hZ44⟩ : ∃ Z, Z = bys (noughts 128) := ⟨_, rfl⟩
  obtain ⟨Z23, hZ23⟩ : ∃ Z, Z = bys (noughts 32) := ⟨_, rfl⟩
  rw [← hZ44] at hz1
  rw [← hZ23] at hz2
  have HZ44 := hid hZ44
  have HZ23 := hid hZ23
  clear hZ44 hZ23
  go_enter Tryd.func13, Tryd.ntmps13
  go_wp2_with fail
  have hR0 : ((w.alloc (Obj.cells Z23.toArray 23)).alloc (Obj.cells Z44.toArray 44)).heap[w.heap.size]? = some (.cells Z23.toArray 23 (0, 0)) := by rw [Below.heap_alloc _ _ _ (by simp)]; exact heap_alloc_new w _
  have hL0 : ((w.alloc (Obj.cells Z23.toArray 23)).alloc (Obj.cells Z44.toArray 44)).heap[w.heap.size + 1]? = some (.cells Z44.toArray 44 (0, 0)) := by have := heap_alloc_new (w.alloc (Obj.cells Z23.toArray 23)) (.cells Z44.toArray 44); rw [show (w.alloc (Obj.cells Z23.toArray 23)).heap.size = w.heap.size + 1 by simp] at this; exact this
  have hB0 : Below w.heap.size w ((w.alloc (Obj.cells Z23.toArray 23)).alloc (Obj.cells Z44.toArray 44)) := (below_alloc_self' w _).alloc (by simp) _
  have HR0 := hid hR0
  have HL0 := hid hL0
  have HB0 := hid hB0
  clear hR0 hL0 hB0
  generalize (w.alloc (Obj.cells Z23.toArray 23)).alloc (Obj.cells Z44.toArray 44) = w0 at HR0 HL0 HB0 ⊢
  have HS0 := hid (HS.out.below HB0.out)
  obtain ⟨r, hr⟩ : ∃ r, r = b.length % 64 := ⟨_, rfl⟩
  have hr1 : (r : Int) ≤ 64 := by omega
  have hr2 : (r : Int) < 128 := by omega
  have HR := hid hr
  clear hr
  obtain ⟨T, hT⟩ : ∃ T, T = bys (t.take r) := ⟨_, rfl⟩
  have HTL : Hid (T.length = r) := by apply hid; rw [hT]; have := HS.out.len; simp; have := HR.out; omega
  have HT1 : Hid (∀ v ∈ T, v.oneCell' = true) := by apply hid; rw [hT]; intro v hv; obtain ⟨a, _, rfl⟩ := List.mem_map.1 hv; rfl
  have HTC : Hid (∀ j v, T[j]? = some v → w0.cell? ((⟨p, 8, none⟩ : Addr).add j) = some v) := by
    apply hid; intro j v hv
    have hj : j < r := by rw [← HTL.out]; exact (List.getElem?_eq_some_iff.1 hv).1
    have e := HS0.out.byte j (by omega)
    have e2 : T[j]? = some (.int .u8 (byt t j)) := by
      rw [hT, show bys (t.take r) = (bys t).take r from List.map_take, List.getElem?_take_of_lt hj]; exact bys_get (by have := HS.out.len; omega)
    rw [e2] at hv
    cases hv
    rw [add_off]; exact e
  have HTT := hid hT
  clear hT
  have HW : Hid (∀ k, Calls Tryd.prog 17 #[.pointer (some ⟨p, 0, none⟩)] (w0.drewN k) fun en w' => en = .returned (.int .i64 (r : Int)) ∧ w' = w0.drewN k) := by
    apply hid; intro k; rw [HR.out]; exact waiting_any _ p b.length HS0.out.count (by have := HL.out; omega)
  have HZL : Hid (Z44.length = 128) := by apply hid; rw [HZ44.out]; rfl
  have hcp : ∀ k, (Builtin.copy_ #[22, 22] 3 #[.slice (some ⟨w.heap.size + 1, 0, none⟩) 128 128, .slice (some ⟨p, 8, none⟩) r 64]).run Tryd.prog (w0.drewN k) = .ok (.int .i64 (r : Int)) ((w0.drewN k).setRow (w.heap.size + 1) (splice Z44 0 T).toArray) := by
    intro k
    rw [copy_row_run (w0.drewN k) 22 22 3 5 (some ⟨w.heap.size + 1, 0, none⟩) (some ⟨p, 8, none⟩) 128 128 r 64 Tryd.underlying22 Tryd.size5 (w.heap.size + 1) 0 Z44 44 HL0.out T (by rw [HTL.out]; exact (Nat.min_eq_left (by omega)).symm) (fun _ => ⟨rfl, _, rfl, HTC.out⟩) (by rw [HTL.out, HZL.out]; omega) HT1.out, HTL.out]
    rfl
  go_region_held3 (fun _ => True) (trivial) (first | (go_at_call 17; refine (HW.out _).mono ?_; rintro e wN ⟨rfl, rfl⟩))
  have HB1 : Hid (Below w.heap.size w ((w0.drewN 1).setRow (w.heap.size + 1) (splice Z44 0 T).toArray)) := hid (below_setRow (below_drewN HB0.out 1) (by omega))
  have HR1 : Hid (((w0.drewN 1).setRow (w.heap.size + 1) (splice Z44 0 T).toArray).heap[w.heap.size]? = some (.cells Z23.toArray 23 (0, 0))) := by apply hid; rw [setRow_ne (by omega)]; exact HR0.out
  have HL1 : Hid (((w0.drewN 1).setRow (w.heap.size + 1) (splice Z44 0 T).toArray).heap[w.heap.size + 1]? = some (.cells (splice Z44 0 T).toArray 44 (0, 0))) := by apply hid; exact setRow_same (w := w0.drewN 1) HL0.out
  generalize (w0.drewN 1).setRow (w.heap.size + 1) (splice Z44 0 T).toArray = w1 at HB1 HR1 HL1 ⊢
  clear hcp HW HTC HS0 HB0 HL0 HR0
  obtain ⟨v0, hv0⟩ : ∃ v, w1.cell? ⟨w.heap.size + 1, r, none⟩ = some v := by
    rw [cell_of_heap HL1.out]; exact ⟨_, Array.getElem?_eq_getElem (by rw [List.size_toArray, length_splice _ _ _ (by rw [HTL.out, HZL.out]; omega), HZL.out]; omega)⟩
  have hf0 := fun o => frozen_of_heap HL1.out o
  have HE8 : Hid (IntKind.u64.wrap (8 * (b.length : Int)) = ((8 * b.length : Nat) : Int)) := by apply hid; have := HL.out; rw [IntKind.wrap_u64]; omega
  by_cases h56 : r < 56
  · have h56' : ¬ (56 : Int) ≤ (r : Int) := by omega
    go_wp2_with fail
    have HB2 : Hid (Below w.heap.size w (w1.setCell ⟨w.heap.size + 1, r, none⟩ (.int .u8 128))) := hid (below_setCell HB1.out (by omega))
    have HR2 : Hid ((w1.setCell ⟨w.heap.size + 1, r, none⟩ (.int .u8 128)).heap[w.heap.size]? = some (.cells Z23.toArray 23 (0, 0))) := by apply hid; rw [Below.heap_setCell _ _ _ _ (by simp)]; exact HR1.out
    have HL2 : Hid ((w1.setCell ⟨w.heap.size + 1, r, none⟩ (.int .u8 128)).heap[w.heap.size + 1]? = some (.cells (splice Z44 0 (T ++ [.int .u8 128])).toArray 44 (0, 0))) := by
      apply hid
      rw [heap_setCell_same HL1.out, ← splice_set (by rw [HTL.out, HZL.out]; omega), HTL.out, Nat.zero_add]
    generalize w1.setCell ⟨w.heap.size + 1, r, none⟩ (.int .u8 128) = w2 at HB2 HR2 HL2 ⊢
    clear hv0 hf0 HR1 HL1 HB1
    have HS2 := hid (HS.out.below HB2.out)
    have hc2 := HS2.out.count
    have HCN := hid hc2
    have he8 := HE8.out
    have hw56 : IntKind.i64.wrap 56 = 56 := by decide
    have HZ3 : Hid (splice (splice Z44 0 (T ++ [.int .u8 128])) 56 (bys (len8 (8 * b.length))) = bys (lastb b ++ noughts 64)) := by
      apply hid
      have hTT := HTT.out
      rw [HR.out, HS.out.tl] at hTT
      have h5 := h56
      rw [hTT, HZ44.out]
      exact last_row1 b r HR.out h5
    have HEN : Hid (ends b.length = 1) := by apply hid; have h5 := h56; rw [HR.out] at h5; unfold ends; first | rw [if_pos h5] | rw [if_neg h5]
    go_region_held3 (fun wx => wx.cell? ⟨p, 72, none⟩ = some (.int .u64 (b.length : Int))) (first | exact HCN.out | exact (HS.out.below HB3.out).count) (first | (go_at_call 18; refine (putLength_any _ (w.heap.size + 1) 56 72 (8 * b.length) 44 (splice Z44 0 (T ++ [.int .u8 128])) HL2.out (by rw [length_splice _ _ _ (by simp [HTL.out, HZL.out]; omega), HZL.out]; omega)).mono ?_; rintro e w3 ⟨rfl, hw⟩; have HB3 : Hid (Below w.heap.size w w3) := (by rw [hw]; exact hid (below_setRow (Below.of_drew HB2.out) (by omega))); have HR3 : Hid (w3.heap[w.heap.size]? = some (.cells Z23.toArray 23 (0, 0))) := (by rw [hw]; apply hid; rw [setRow_ne (by omega)]; exact HR2.out); have HL3 : Hid (w3.heap[w.heap.size + 1]? = some (.cells (bys (lastb b ++ noughts 64)).toArray 44 (0, 0))) := (by rw [hw]; apply hid; rw [← HZ3.out]; exact setRow_same (w := w2.drew) HL2.out); clear hw))
    clear HR2 HL2 HB2 HS2 hc2 HCN he8 HZ3 hz1 hz2 hw56
    have HL4 := hid (at_of_heap HL3.out)
    clear HL3
    go_wp2_with fail
    refine (begun_any _ p b s t (HS.out.below HB3.out) HL.out).mono ?_
    rintro e w4 ⟨rfl, hb4⟩
    have HB4 := hid (HB3.out.trans (hb4.mono HB3.out.size))
    have HR4 : Hid (w4.heap[w.heap.size]? = some (.cells Z23.toArray 23 (0, 0))) := hid ((hb4.block _ (lt_of_block HR3.out)).trans HR3.out)
    have HL5 := hid (HL4.out.below hb4)
    clear hb4 HL4 HR3 HB3
    obtain ⟨M, hM⟩ : ∃ M, M = mid b := ⟨_, rfl⟩
    rw [← hM]
    have HM := hid hM
    clear hM
    go_wp2_with fail
    have HB5 : Hid (Below w.heap.size w (w4.alloc (.cells (v8 M) 35))) := hid (HB4.out.alloc HB4.out.size _)
    have HR5 : Hid ((w4.alloc (.cells (v8 M) 35)).heap[w.heap.size]? = some (.cells Z23.toArray 23 (0, 0))) := by apply hid; rw [Below.heap_alloc _ _ _ (lt_of_block HR4.out)]; exact HR4.out
    have HL6 := hid (HL5.out.below (below_alloc_self' w4 (.cells (v8 M) 35)))
    have HW5 := hid (heap_alloc_new w4 (.cells (v8 M) 35))
    have HW1 : Hid (w.heap.size + 1 < w4.heap.size) := hid HL5.out.1
    clear HB4 HR4 HL5
    generalize w4.heap.size = g at HW5 HW1 ⊢
    generalize w4.alloc (.cells (v8 M) 35) = w5 at HB5 HR5 HL6 HW5 ⊢
    go_loopg [7] 1 (fun gg vi wr => ∃ n : Nat, n ≤ 1 ∧ gg = 1 - n ∧ vi = .int .i64 ((64 * n : Nat) : Int) ∧ Below w.heap.size w wr ∧ wr.heap[w.heap.size]? = some (.cells Z23.toArray 23 (0, 0)) ∧ At wr (w.heap.size + 1) 0 (lastb b) ∧ wr.heap[g]? = some (.cells (v8 (blks M (lastb b) n)) 35 (0, 0)))
    case atStart => exact ⟨0, by omega, rfl, rfl, HB5.out, HR5.out, HL6.out, HW5.out⟩
    case round =>
      clear HB5 HR5 HL6 HW5
      obtain ⟨n, hn, rfl, rfl, hB, hR, hL, hG⟩ := hrel
      have HB := hid hB
      have HR9 := hid hR
      have HLL := hid hL
      have HG := hid hG
      clear hB hR hL hG
      by_cases hnl : n < 1
      · obtain rfl : n = 0 := by omega
        clear hn hnl
        have HNX : Hid (blks M (lastb b) (0 + 1) = tk (blks M (lastb b) 0) (((lastb b).drop 0).take 64)) := hid rfl
        have HAT := hid (HLL.out.sub 0 64)
        have HAL : Hid ((((lastb b).drop 0).take 64).length = 64) := by apply hid; rw [List.length_take, List.length_drop, lastb_len, HEN.out]; decide
        generalize blks M (lastb b) 0 = X at HG HNX
        generalize ((lastb b).drop 0).take 64 = blk at HNX HAT HAL
        obtain ⟨Y, hY⟩ : ∃ Y, Y = tk X blk := ⟨_, rfl⟩
        have HY := hid hY
        rw [← hY] at HNX
        clear hY
        obtain ⟨_, d0, d1, d2, d3, d4, d5, d6, d7⟩ := eight_of_heap HG.out
        have HD := hid (eight_of_heap HG.out).all
        have HEE := hid (eight_of_heap HG.out)
        have hw64 : IntKind.i64.wrap 64 = 64 := by decide
        go_wp2_with fail
        have HC : Hid (Calls Tryd.prog 20 #[.agg (v8 X), .slice (some ⟨w.heap.size + 1, 0, none⟩) 64 128] wr.drew fun en w6 => en = .returned (.agg (v8 Y)) ∧ Below w.heap.size w w6 ∧ w6.heap[w.heap.size]? = some (.cells Z23.toArray 23 (0, 0)) ∧ At w6 (w.heap.size + 1) 0 (lastb b) ∧ w6.heap[g]? = some (.cells (v8 X) 35 (0, 0))) := by
          apply hid
          rw [HY.out]
          have hAT : At wr.drew (w.heap.size + 1) 0 blk := by have := HAT.out; rwa [Nat.zero_add] at this
          have hBd := Below.of_drew HB.out
          refine (takeIn_any X blk _ (w.heap.size + 1) 0 128 hAT HAL.out (by decide) (HKC.out.below hBd)).mono ?_
          rintro e w6 ⟨rfl, hb⟩
          have hL : At wr.drew (w.heap.size + 1) 0 (lastb b) := HLL.out
          exact ⟨rfl, hBd.trans (hb.mono hBd.size), (hb.block _ (lt_of_block HR9.out)).trans HR9.out, hL.below hb, (hb.block _ (lt_of_block HG.out)).trans HG.out⟩
        go_region_with (first | (go_at_call 20; refine HC.out.mono ?_; rintro e w6 ⟨rfl, hB6, hR6, hL6, hG6⟩; have HB6 := hid hB6; have HR6 := hid hR6; have HL6 := hid hL6; have HG6 := hid hG6; obtain ⟨_, c0, c1, c2, c3, c4, c5, c6, c7⟩ := eight_of_heap hG6; have rf := fun o => frozen_of_heap hG6 o; clear hB6 hR6 hL6 hG6))
        all_goals
          rw [set8 HG6.out]
          have HB7 := hid (below_setRow (cs := v8 Y) HB6.out (show w.heap.size ≤ g by have := HW1.out; omega))
          have HR7 : Hid ((w6.setRow g (v8 Y)).heap[w.heap.size]? = some (.cells Z23.toArray 23 (0, 0))) := by apply hid; rw [setRow_ne (by have := HW1.out; omega)]; exact HR6.out
          have HL7 : Hid (At (w6.setRow g (v8 Y)) (w.heap.size + 1) 0 (lastb b)) := hid (HL6.out.other (setRow_ne (by have := HW1.out; omega)))
          have HG7 : Hid ((w6.setRow g (v8 Y)).heap[g]? = some (.cells (v8 Y) 35 (0, 0))) := hid (setRow_same HG6.out)
          generalize w6.setRow g (v8 Y) = w7 at HB7 HR7 HL7 HG7 ⊢
          clear c0 c1 c2 c3 c4 c5 c6 c7 rf d0 d1 d2 d3 d4 d5 d6 d7
          go_wp2_with fail
          go_roundg (1 - (0 + 1))
          case measure => decide
          case rel => exact ⟨0 + 1, by decide, rfl, rfl, HB7.out, HR7.out, HL7.out, by rw [HNX.out]; exact HG7.out⟩
      · obtain rfl : n = 1 := by omega
        clear hnl hn
        have HSS : Hid (blks M (lastb b) 1 = sumS b) := by apply hid; rw [sum_mid, HEN.out, HM.out]
        rw [HSS.out] at HG
        obtain ⟨_, d0, d1, d2, d3, d4, d5, d6, d7⟩ := eight_of_heap HG.out
        go_wp2_with fail
        refine (written_any (sumS b) _).mono ?_
        rintro e w6 ⟨rfl, hb⟩
        have HB6 := hid (HB.out.trans (hb.mono HB.out.size))
        have HR6 : Hid (w6.heap[w.heap.size]? = some (.cells Z23.toArray 23 (0, 0))) := hid ((hb.block _ (lt_of_block HR9.out)).trans HR9.out)
        clear hb
        have HZS : Hid (Z23.toArray.size = 32) := by apply hid; rw [HZ23.out]; rfl
        have HO : Hid ((u8s (outs (sumS b))).toArray.size = 32) := hid rfl
        have HO1 : Hid ((u8s (outs (sumS b))).toArray.all (·.oneCell') = true) := hid (u8s_one _)
        unfold vsum
        obtain ⟨OO, hOO⟩ : ∃ OO, OO = (u8s (outs (sumS b))).toArray := ⟨_, rfl⟩
        have HOO : Hid (Ending.returned (.agg OO) = Ending.returned (vsum (sumS b))) := by apply hid; rw [hOO]
        rw [← hOO] at HO HO1 ⊢
        clear hOO
        have HZ : Hid ((Tryd.prog.info? 23).map (·.size) = some OO.size) := by apply hid; rw [HO.out]; exact Tryd.size23
        go_wp2_with (refine wpList_store_arr _ rfl (.tmp 2) (.tmp 48) 23 rfl rfl _ 23 Z23.toArray OO rfl rfl HR6.out HZ.out (by rw [HZS.out, HO.out]) HO1.out ?_)
        refine bodyPost_ret (v := .agg OO) (results_cell Tryd.results13 rfl ?_) rfl ⟨?_, below_setRow HB6.out (Nat.le_refl _)⟩
        · exact run_loadVar_row _ _ 23 23 _ (0, 0) _ (setRow_same HR6.out) Tryd.underlying23 rfl HZ.out
        · exact HOO.out
  · have h56' : (56 : Int) ≤ (r : Int) := by omega
    go_wp2_with fail
    have HB2 : Hid (Below w.heap.size w (w1.setCell ⟨w.heap.size + 1, r, none⟩ (.int .u8 128))) := hid (below_setCell HB1.out (by omega))
    have HR2 : Hid ((w1.setCell ⟨w.heap.size + 1, r, none⟩ (.int .u8 128)).heap[w.heap.size]? = some (.cells Z23.toArray 23 (0, 0))) := by apply hid; rw [Below.heap_setCell _ _ _ _ (by simp)]; exact HR1.out
    have HL2 : Hid ((w1.setCell ⟨w.heap.size + 1, r, none⟩ (.int .u8 128)).heap[w.heap.size + 1]? = some (.cells (splice Z44 0 (T ++ [.int .u8 128])).toArray 44 (0, 0))) := by
      apply hid
      rw [heap_setCell_same HL1.out, ← splice_set (by rw [HTL.out, HZL.out]; omega), HTL.out, Nat.zero_add]
    generalize w1.setCell ⟨w.heap.size + 1, r, none⟩ (.int .u8 128) = w2 at HB2 HR2 HL2 ⊢
    clear hv0 hf0 HR1 HL1 HB1
    have HS2 := hid (HS.out.below HB2.out)
    have hc2 := HS2.out.count
    have HCN := hid hc2
    have he8 := HE8.out
    have hw56 : IntKind.i64.wrap 120 = 120 := by decide
    have HZ3 : Hid (splice (splice Z44 0 (T ++ [.int .u8 128])) 120 (bys (len8 (8 * b.length))) = bys (lastb b ++ noughts 0)) := by
      apply hid
      have hTT := HTT.out
      rw [HR.out, HS.out.tl] at hTT
      have h5 := h56
      rw [hTT, HZ44.out]
      exact (last_row2 b r HR.out h5).trans (by simp [noughts])
    have HEN : Hid (ends b.length = 2) := by apply hid; have h5 := h56; rw [HR.out] at h5; unfold ends; first | rw [if_pos h5] | rw [if_neg h5]
    go_region_held3 (fun wx => wx.cell? ⟨p, 72, none⟩ = some (.int .u64 (b.length : Int))) (first | exact HCN.out | exact (HS.out.below HB3.out).count) (first | (go_at_call 18; refine (putLength_any _ (w.heap.size + 1) 120 8 (8 * b.length) 44 (splice Z44 0 (T ++ [.int .u8 128])) HL2.out (by rw [length_splice _ _ _ (by simp [HTL.out, HZL.out]; omega), HZL.out]; omega)).mono ?_; rintro e w3 ⟨rfl, hw⟩; have HB3 : Hid (Below w.heap.size w w3) := (by rw [hw]; exact hid (below_setRow (Below.of_drew HB2.out) (by omega))); have HR3 : Hid (w3.heap[w.heap.size]? = some (.cells Z23.toArray 23 (0, 0))) := (by rw [hw]; apply hid; rw [setRow_ne (by omega)]; exact HR2.out); have HL3 : Hid (w3.heap[w.heap.size + 1]? = some (.cells (bys (lastb b ++ noughts 0)).toArray 44 (0, 0))) := (by rw [hw]; apply hid; rw [← HZ3.out]; exact setRow_same (w := w2.drew) HL2.out); clear hw))
    clear HR2 HL2 HB2 HS2 hc2 HCN he8 HZ3 hz1 hz2 hw56
    have HL4 := hid (at_of_heap HL3.out)
    clear HL3
    go_wp2_with fail
    refine (begun_any _ p b s t (HS.out.below HB3.out) HL.out).mono ?_
    rintro e w4 ⟨rfl, hb4⟩
    have HB4 := hid (HB3.out.trans (hb4.mono HB3.out.size))
    have HR4 : Hid (w4.heap[w.heap.size]? = some (.cells Z23.toArray 23 (0, 0))) := hid ((hb4.block _ (lt_of_block HR3.out)).trans HR3.out)
    have HL5 := hid (HL4.out.below hb4)
    clear hb4 HL4 HR3 HB3
    obtain ⟨M, hM⟩ : ∃ M, M = mid b := ⟨_, rfl⟩
    rw [← hM]
    have HM := hid hM
    clear hM
    go_wp2_with fail
    have HB5 : Hid (Below w.heap.size w (w4.alloc (.cells (v8 M) 35))) := hid (HB4.out.alloc HB4.out.size _)
    have HR5 : Hid ((w4.alloc (.cells (v8 M) 35)).heap[w.heap.size]? = some (.cells Z23.toArray 23 (0, 0))) := by apply hid; rw [Below.heap_alloc _ _ _ (lt_of_block HR4.out)]; exact HR4.out
    have HL6 := hid (HL5.out.below (below_alloc_self' w4 (.cells (v8 M) 35)))
    have HW5 := hid (heap_alloc_new w4 (.cells (v8 M) 35))
    have HW1 : Hid (w.heap.size + 1 < w4.heap.size) := hid HL5.out.1
    clear HB4 HR4 HL5
    generalize w4.heap.size = g at HW5 HW1 ⊢
    generalize w4.alloc (.cells (v8 M) 35) = w5 at HB5 HR5 HL6 HW5 ⊢
    go_loopg [7] 2 (fun gg vi wr => ∃ n : Nat, n ≤ 2 ∧ gg = 2 - n ∧ vi = .int .i64 ((64 * n : Nat) : Int) ∧ Below w.heap.size w wr ∧ wr.heap[w.heap.size]? = some (.cells Z23.toArray 23 (0, 0)) ∧ At wr (w.heap.size + 1) 0 (lastb b) ∧ wr.heap[g]? = some (.cells (v8 (blks M (lastb b) n)) 35 (0, 0)))
    case atStart => exact ⟨0, by omega, rfl, rfl, HB5.out, HR5.out, HL6.out, HW5.out⟩
    case round =>
      clear HB5 HR5 HL6 HW5
      obtain ⟨n, hn, rfl, rfl, hB, hR, hL, hG⟩ := hrel
      have HB := hid hB
      have HR9 := hid hR
      have HLL := hid hL
      have HG := hid hG
      clear hB hR hL hG
      by_cases hnl : n < 2
      · rcases (by omega : n = 0 ∨ n = 1) with rfl | rfl
        · clear hn hnl
          have HNX : Hid (blks M (lastb b) (0 + 1) = tk (blks M (lastb b) 0) (((lastb b).drop 0).take 64)) := hid rfl
          have HAT := hid (HLL.out.sub 0 64)
          have HAL : Hid ((((lastb b).drop 0).take 64).length = 64) := by apply hid; rw [List.length_take, List.length_drop, lastb_len, HEN.out]; decide
          generalize blks M (lastb b) 0 = X at HG HNX
          generalize ((lastb b).drop 0).take 64 = blk at HNX HAT HAL
          obtain ⟨Y, hY⟩ : ∃ Y, Y = tk X blk := ⟨_, rfl⟩
          have HY := hid hY
          rw [← hY] at HNX
          clear hY
          obtain ⟨_, d0, d1, d2, d3, d4, d5, d6, d7⟩ := eight_of_heap HG.out
          have HD := hid (eight_of_heap HG.out).all
          have HEE := hid (eight_of_heap HG.out)
          have hw64 : IntKind.i64.wrap 64 = 64 := by decide
          go_wp2_with fail
          have HC : Hid (Calls Tryd.prog 20 #[.agg (v8 X), .slice (some ⟨w.heap.size + 1, 0, none⟩) 64 128] wr.drew fun en w6 => en = .returned (.agg (v8 Y)) ∧ Below w.heap.size w w6 ∧ w6.heap[w.heap.size]? = some (.cells Z23.toArray 23 (0, 0)) ∧ At w6 (w.heap.size + 1) 0 (lastb b) ∧ w6.heap[g]? = some (.cells (v8 X) 35 (0, 0))) := by
            apply hid
            rw [HY.out]
            have hAT : At wr.drew (w.heap.size + 1) 0 blk := by have := HAT.out; rwa [Nat.zero_add] at this
            have hBd := Below.of_drew HB.out
            refine (takeIn_any X blk _ (w.heap.size + 1) 0 128 hAT HAL.out (by decide) (HKC.out.below hBd)).mono ?_
            rintro e w6 ⟨rfl, hb⟩
            have hL : At wr.drew (w.heap.size + 1) 0 (lastb b) := HLL.out
            exact ⟨rfl, hBd.trans (hb.mono hBd.size), (hb.block _ (lt_of_block HR9.out)).trans HR9.out, hL.below hb, (hb.block _ (lt_of_block HG.out)).trans HG.out⟩
          go_region_with (first | (go_at_call 20; refine HC.out.mono ?_; rintro e w6 ⟨rfl, hB6, hR6, hL6, hG6⟩; have HB6 := hid hB6; have HR6 := hid hR6; have HL6 := hid hL6; have HG6 := hid hG6; obtain ⟨_, c0, c1, c2, c3, c4, c5, c6, c7⟩ := eight_of_heap hG6; have rf := fun o => frozen_of_heap hG6 o; clear hB6 hR6 hL6 hG6))
          all_goals
            rw [set8 HG6.out]
            have HB7 := hid (below_setRow (cs := v8 Y) HB6.out (show w.heap.size ≤ g by have := HW1.out; omega))
            have HR7 : Hid ((w6.setRow g (v8 Y)).heap[w.heap.size]? = some (.cells Z23.toArray 23 (0, 0))) := by apply hid; rw [setRow_ne (by have := HW1.out; omega)]; exact HR6.out
            have HL7 : Hid (At (w6.setRow g (v8 Y)) (w.heap.size + 1) 0 (lastb b)) := hid (HL6.out.other (setRow_ne (by have := HW1.out; omega)))
            have HG7 : Hid ((w6.setRow g (v8 Y)).heap[g]? = some (.cells (v8 Y) 35 (0, 0))) := hid (setRow_same HG6.out)
            generalize w6.setRow g (v8 Y) = w7 at HB7 HR7 HL7 HG7 ⊢
            clear c0 c1 c2 c3 c4 c5 c6 c7 rf d0 d1 d2 d3 d4 d5 d6 d7
            go_wp2_with fail
            go_roundg (2 - (0 + 1))
            case measure => decide
            case rel => exact ⟨0 + 1, by decide, rfl, rfl, HB7.out, HR7.out, HL7.out, by rw [HNX.out]; exact HG7.out⟩
        · clear hn hnl
          have HNX : Hid (blks M (lastb b) (1 + 1) = tk (blks M (lastb b) 1) (((lastb b).drop 64).take 64)) := hid rfl
          have HAT := hid (HLL.out.sub 64 64)
          have HAL : Hid ((((lastb b).drop 64).take 64).length = 64) := by apply hid; rw [List.length_take, List.length_drop, lastb_len, HEN.out]; decide
          generalize blks M (lastb b) 1 = X at HG HNX
          generalize ((lastb b).drop 64).take 64 = blk at HNX HAT HAL
          obtain ⟨Y, hY⟩ : ∃ Y, Y = tk X blk := ⟨_, rfl⟩
          have HY := hid hY
          rw [← hY] at HNX
          clear hY
          obtain ⟨_, d0, d1, d2, d3, d4, d5, d6, d7⟩ := eight_of_heap HG.out
          have HD := hid (eight_of_heap HG.out).all
          have HEE := hid (eight_of_heap HG.out)
          have hw64 : IntKind.i64.wrap 128 = 128 := by decide
          go_wp2_with fail
          have HC : Hid (Calls Tryd.prog 20 #[.agg (v8 X), .slice (some ⟨w.heap.size + 1, 64, none⟩) 64 64] wr.drew fun en w6 => en = .returned (.agg (v8 Y)) ∧ Below w.heap.size w w6 ∧ w6.heap[w.heap.size]? = some (.cells Z23.toArray 23 (0, 0)) ∧ At w6 (w.heap.size + 1) 0 (lastb b) ∧ w6.heap[g]? = some (.cells (v8 X) 35 (0, 0))) := by
            apply hid
            rw [HY.out]
            have hAT : At wr.drew (w.heap.size + 1) 64 blk := by have := HAT.out; rwa [Nat.zero_add] at this
            have hBd := Below.of_drew HB.out
            refine (takeIn_any X blk _ (w.heap.size + 1) 64 64 hAT HAL.out (by decide) (HKC.out.below hBd)).mono ?_
            rintro e w6 ⟨rfl, hb⟩
            have hL : At wr.drew (w.heap.size + 1) 0 (lastb b) := HLL.out
            exact ⟨rfl, hBd.trans (hb.mono hBd.size), (hb.block _ (lt_of_block HR9.out)).trans HR9.out, hL.below hb, (hb.block _ (lt_of_block HG.out)).trans HG.out⟩
          go_region_with (first | (go_at_call 20; refine HC.out.mono ?_; rintro e w6 ⟨rfl, hB6, hR6, hL6, hG6⟩; have HB6 := hid hB6; have HR6 := hid hR6; have HL6 := hid hL6; have HG6 := hid hG6; obtain ⟨_, c0, c1, c2, c3, c4, c5, c6, c7⟩ := eight_of_heap hG6; have rf := fun o => frozen_of_heap hG6 o; clear hB6 hR6 hL6 hG6))
          all_goals
            rw [set8 HG6.out]
            have HB7 := hid (below_setRow (cs := v8 Y) HB6.out (show w.heap.size ≤ g by have := HW1.out; omega))
            have HR7 : Hid ((w6.setRow g (v8 Y)).heap[w.heap.size]? = some (.cells Z23.toArray 23 (0, 0))) := by apply hid; rw [setRow_ne (by have := HW1.out; omega)]; exact HR6.out
            have HL7 : Hid (At (w6.setRow g (v8 Y)) (w.heap.size + 1) 0 (lastb b)) := hid (HL6.out.other (setRow_ne (by have := HW1.out; omega)))
            have HG7 : Hid ((w6.setRow g (v8 Y)).heap[g]? = some (.cells (v8 Y) 35 (0, 0))) := hid (setRow_same HG6.out)
            generalize w6.setRow g (v8 Y) = w7 at HB7 HR7 HL7 HG7 ⊢
            clear c0 c1 c2 c3 c4 c5 c6 c7 rf d0 d1 d2 d3 d4 d5 d6 d7
            go_wp2_with fail
            go_roundg (2 - (1 + 1))
            case measure => decide
            case rel => exact ⟨1 + 1, by decide, rfl, rfl, HB7.out, HR7.out, HL7.out, by rw [HNX.out]; exact HG7.out⟩
      · obtain rfl : n = 2 := by omega
        clear hnl hn
        have HSS : Hid (blks M (lastb b) 2 = sumS b) := by apply hid; rw [sum_mid, HEN.out, HM.out]
        rw [HSS.out] at HG
        obtain ⟨_, d0, d1, d2, d3, d4, d5, d6, d7⟩ := eight_of_heap HG.out
        go_wp2_with fail
        refine (written_any (sumS b) _).mono ?_
        rintro e w6 ⟨rfl, hb⟩
        have HB6 := hid (HB.out.trans (hb.mono HB.out.size))
        have HR6 : Hid (w6.heap[w.heap.size]? = some (.cells Z23.toArray 23 (0, 0))) := hid ((hb.block _ (lt_of_block HR9.out)).trans HR9.out)
        clear hb
        have HZS : Hid (Z23.toArray.size = 32) := by apply hid; rw [HZ23.out]; rfl
        have HO : Hid ((u8s (outs (sumS b))).toArray.size = 32) := hid rfl
        have HO1 : Hid ((u8s (outs (sumS b))).toArray.all (·.oneCell') = true) := hid (u8s_one _)
        unfold vsum
        obtain ⟨OO, hOO⟩ : ∃ OO, OO = (u8s (outs (sumS b))).toArray := ⟨_, rfl⟩
        have HOO : Hid (Ending.returned (.agg OO) = Ending.returned (vsum (sumS b))) := by apply hid; rw [hOO]
        rw [← hOO] at HO HO1 ⊢
        clear hOO
        have HZ : Hid ((Tryd.prog.info? 23).map (·.size) = some OO.size) := by apply hid; rw [HO.out]; exact Tryd.size23
        go_wp2_with (refine wpList_store_arr _ rfl (.tmp 2) (.tmp 48) 23 rfl rfl _ 23 Z23.toArray OO rfl rfl HR6.out HZ.out (by rw [HZS.out, HO.out]) HO1.out ?_)
        refine bodyPost_ret (v := .agg OO) (results_cell Tryd.results13 rfl ?_) rfl ⟨?_, below_setRow HB6.out (Nat.le_refl _)⟩
        · exact run_loadVar_row _ _ 23 23 _ (0, 0) _ (setRow_same HR6.out) Tryd.underlying23 rfl HZ.out
        · exact HOO.out
end Go.Proofs.YtkeppcpplkdkaaaDoor
