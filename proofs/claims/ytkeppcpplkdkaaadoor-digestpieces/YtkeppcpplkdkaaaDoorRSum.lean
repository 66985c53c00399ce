/- The document's Sum. -/
import Derived.Test.YtkeppcpplkdkaaaDoorFilled
import Derived.Test.YtkeppcpplkdkaaaDoorTaken
import Derived.Test.YtkeppcpplkdkaaaDoorHex
import Derived.Deep.Cut
namespace Go.Proofs.YtkeppcpplkdkaaaDoor
open Go.RowKit

theorem own_u8 {w : World} {base : Nat} {v : Value} {b : Bs} {n : Nat} (h : w.ownsRow base 5 1 v n (bys b)) (hn : 0 < n) :
    ∃ g kc, v = .slice (some ⟨g, 0, none⟩) n kc ∧ n ≤ kc ∧ At w g 0 b := by
  have hl : b.length = n := by have := h.1; simpa using this
  rcases h.2 with ⟨h1, h0⟩ | ⟨g, cap, cur, hv, hb, hg, hc1, hc2, hc3, hc4⟩
  · omega
  · refine ⟨g, cap, hv, hc1, lt_of_block hg, fun i hi => ?_⟩
    have e : (cur.toList.take (n * 1))[i]? = some (.int .u8 (byt b i)) := by rw [hc4]; exact bys_get hi
    rw [Nat.mul_one, List.getElem?_take_of_lt (by omega), Array.getElem?_toList] at e
    rw [cell_of_heap hg, Nat.zero_add]
    exact e
theorem slice_mid (g n cap i k : Nat) (h : i + k ≤ n) (hc : n ≤ cap) (hk : 0 < k) (W : World) : (Instr.sliceAt 22 (.slice (some ⟨g, 0, none⟩) n cap) (some (.int .i64 (i : Int))) (some (.int .i64 ((i + k : Nat) : Int))) none).run Tryd.prog W = .ok (.slice (some ⟨g, i, none⟩) k (cap - i)) W := by
  obtain ⟨i0, hi, hz⟩ := Option.map_eq_some_iff.1 Tryd.size5
  have h1 : ((i + k : Nat) : Int) ≤ (cap : Int) := by omega
  have h2 : (i : Int) ≤ ((i + k : Nat) : Int) := by omega
  have h3 : ¬ cap = i := by omega
  have h4 : ¬ cap < i + k := by omega
  simp [Instr.sliceAt, Instr.slice, Instr.sliceBounds, Instr.sliceBound, asIntOf, run_underlying Tryd.underlying22, sizeOf, typeInfo, hi, hz, h3, add_off, go_sem]
  split <;> (try omega)
  split <;> (try omega)
  simp
  omega

theorem oset {Z : List Value} (hZ : Z.length = 32) (l : List Int) (hl : l.length = 32) (i : Nat) (hi : i < 32) : (splice Z 0 (u8s (l.take i))).toArray.setIfInBounds i (.int .u8 (l.getD i 0)) = (splice Z 0 (u8s (l.take (i + 1)))).toArray := by
  have h0 : (u8s (l.take i)).length = i := by simp; omega
  have h := splice_set (cur := Z) (o := 0) (cs := u8s (l.take i)) (by omega) (.int .u8 (l.getD i 0))
  rw [h0, Nat.zero_add] at h
  rw [h, take_one l i (by omega)]
  simp [u8s]
theorem below_set {w w1 : World} {g o : Nat} {v : Value} (h : Below w.heap.size w w1) (hg : w.heap.size < g) : Below w.heap.size w (w1.setCell ⟨g, o, none⟩ v) := below_setCell h (by omega)
theorem Eight.set {w : World} {lb g o : Nat} {v : Value} {s : S8} (h : Eight w lb s) (hg : lb ≠ g) : Eight (w.setCell ⟨g, o, none⟩ v) lb s := by
  have e : (w.setCell ⟨g, o, none⟩ v).heap[lb]? = w.heap[lb]? := Below.heap_setCell _ _ _ _ hg
  refine ⟨by simpa [World.setCell] using h.lt, ?_, ?_, ?_, ?_, ?_, ?_, ?_, ?_⟩
  · rw [← h.c0]; simp [World.cell?, e]
  · rw [← h.c1]; simp [World.cell?, e]
  · rw [← h.c2]; simp [World.cell?, e]
  · rw [← h.c3]; simp [World.cell?, e]
  · rw [← h.c4]; simp [World.cell?, e]
  · rw [← h.c5]; simp [World.cell?, e]
  · rw [← h.c6]; simp [World.cell?, e]
  · rw [← h.c7]; simp [World.cell?, e]
set_option maxHeartbeats 8000000 in
set_option maxRecDepth 100000 in
theorem rsum_any (w : World) (a : Option Addr) (cap : Nat) (c : Bs) (hs : Sz w a cap c) (hl : c.length < 10000) : Calls Tryd.prog 8 #[.slice a c.length cap] w fun en w' => en = .returned (vsum (sumS c)) ∧ Below w.heap.size w w' := by
  have HS := hid hs
  have HL := hid hl
  clear hs hl
  have hz2 := zero23_run
  obtain ⟨Z23, hZ23⟩ : ∃ Z, Z = bys (noughts 32) := ⟨_, rfl⟩
  rw [← hZ23] at hz2
  have HZL : Hid (Z23.length = 32) := by apply hid; rw [hZ23]; rfl
  have HZS : Hid (Z23.toArray.size = 32) := by apply hid; rw [hZ23]; rfl
  clear hZ23
  obtain ⟨n, hn⟩ : ∃ n, n = c.length := ⟨_, rfl⟩
  rw [← hn]
  have HN := hid hn
  clear hn
  go_enter Tryd.func8, Tryd.ntmps8
  go_wp2_with fail
  have HB0 : Hid (Below w.heap.size w ((w.alloc (Obj.cells Z23.toArray 23)).alloc (Obj.cells (v8 iv) 34))) := hid ((below_alloc_self' w _).alloc (by simp) _)
  have HR0 : Hid (((w.alloc (Obj.cells Z23.toArray 23)).alloc (Obj.cells (v8 iv) 34)).heap[w.heap.size]? = some (.cells Z23.toArray 23 (0, 0))) := by apply hid; rw [Below.heap_alloc _ _ _ (by simp)]; exact heap_alloc_new w _
  have HE0 : Hid (Eight ((w.alloc (Obj.cells Z23.toArray 23)).alloc (Obj.cells (v8 iv) 34)) (w.heap.size + 1) iv) := by
    apply hid
    have := eight_of_heap (x0 := iv.a) (x1 := iv.b) (x2 := iv.c) (x3 := iv.d) (x4 := iv.e) (x5 := iv.f) (x6 := iv.g) (x7 := iv.h) (heap_alloc_new (w.alloc (Obj.cells Z23.toArray 23)) (.cells (v8 iv) 34))
    rw [show (w.alloc (Obj.cells Z23.toArray 23)).heap.size = w.heap.size + 1 by simp] at this
    exact this
  change Calls _ _ _ ((w.alloc (Obj.cells Z23.toArray 23)).alloc (Obj.cells (v8 iv) 34)) _
  generalize (w.alloc (Obj.cells Z23.toArray 23)).alloc (Obj.cells (v8 iv) 34) = w0 at HB0 HR0 HE0 ⊢
  have HC : Hid (Calls Tryd.prog 15 #[.slice a n cap] w0 fun en w' => ∃ v, en = .returned v ∧ w'.ownsRow w0.heap.size 5 1 v (fil c).length (bys (fil c)) ∧ Below w0.heap.size w0 w') := by apply hid; rw [HN.out]; exact filled_any w0 a cap c (HS.out.below HB0.out) HL.out
  refine HC.out.mono ?_
  rintro e w1 ⟨v, rfl, hown, hb⟩
  have HFL : Hid ((fil c).length = 64 * (c.length / 64 + ends c.length)) := hid (fil_len c)
  have HEN : Hid (1 ≤ ends c.length ∧ ends c.length ≤ 2) := by apply hid; unfold ends; split <;> omega
  obtain ⟨q, hq⟩ : ∃ q, q = c.length / 64 + ends c.length := ⟨_, rfl⟩
  rw [← hq] at HFL
  have HQ : Hid (1 ≤ q ∧ q < 200) := by apply hid; have := HEN.out; have := HL.out; omega
  have HSQ : Hid (blks iv (fil c) q = sumS c) := by apply hid; rw [hq]; rfl
  clear hq
  obtain ⟨g, kc, rfl, hkc, hat⟩ := own_u8 hown (by rw [HFL.out]; have := HQ.out; omega)
  have HAT := hid hat
  have HKC := hid hkc
  have HB1 := hid (HB0.out.trans (hb.mono HB0.out.size))
  have HR1 : Hid (w1.heap[w.heap.size]? = some (.cells Z23.toArray 23 (0, 0))) := hid ((hb.block _ (lt_of_block HR0.out)).trans HR0.out)
  have HE1 := hid (HE0.out.below hb)
  clear hown hat hkc hb HB0 HR0 HE0 HC
  obtain ⟨m, hm⟩ : ∃ m, m = (fil c).length := ⟨_, rfl⟩
  rw [← hm] at HKC HFL ⊢
  have HME := hid hm
  have hm1 : (m : Int) < 20000 := by have := HFL.out; have := HQ.out; omega
  clear hm
  generalize iv = I0 at HE1 HSQ
  go_wp2_with fail
  go_loopg [3, 5] q (fun gg v3 v5 wr => ∃ j lb, ∃ i : Nat, j ≤ q ∧ gg = q - j ∧ v3 = .slice (some ⟨lb, 0, none⟩) 8 8 ∧ v5 = .int .i64 (i : Int) ∧ i = 64 * j ∧ Eight wr lb (blks I0 (fil c) j) ∧ At wr g 0 (fil c) ∧ Below w.heap.size w wr ∧ wr.heap[w.heap.size]? = some (.cells Z23.toArray 23 (0, 0)))
  case atStart => exact ⟨0, _, 0, by omega, rfl, rfl, rfl, rfl, HE1.out, HAT.out, HB1.out, HR1.out⟩
  case round =>
    clear HE1 HAT HB1 HR1
    obtain ⟨j, lb, i, hj, rfl, rfl, rfl, hi, hE, hA, hB, hR⟩ := hrel
    have HE := hid hE
    have HA := hid hA
    have HB := hid hB
    have HR := hid hR
    have HI := hid hi
    clear hE hA hB hR
    by_cases hjl : j < q
    · have him : (i : Int) < (m : Int) := by have := HFL.out; omega
      have hi64 : IntKind.i64.wrap ((i : Int) + 64) = (i : Int) + 64 := by rw [IntKind.wrap_i64]; omega
      have hsl : ∀ W, (Instr.sliceAt 22 (.slice (some ⟨g, 0, none⟩) m kc) (some (.int .i64 (i : Int))) (some (.int .i64 ((i : Int) + 64))) none).run Tryd.prog W = .ok (.slice (some ⟨g, i, none⟩) 64 (kc - i)) W := fun W => slice_mid g m kc i 64 (by have := HFL.out; omega) HKC.out (by decide) W
      have HNX : Hid (blks I0 (fil c) (j + 1) = tk (blks I0 (fil c) j) (((fil c).drop (64 * j)).take 64)) := hid rfl
      have HAT : Hid (At wr g i (((fil c).drop (64 * j)).take 64)) := by apply hid; have := HA.out.sub (64 * j) 64; rw [Nat.zero_add] at this; rw [HI.out]; exact this
      have HAL : Hid ((((fil c).drop (64 * j)).take 64).length = 64) := by apply hid; rw [List.length_take, List.length_drop, ← HME.out, HFL.out]; omega
      generalize blks I0 (fil c) j = X at HE HNX
      generalize ((fil c).drop (64 * j)).take 64 = blk at HNX HAT HAL
      have HJ : Hid (j + 1 ≤ q ∧ q - (j + 1) < q - j) := by apply hid; omega
      clear hi hj hjl
      go_wp2_with fail
      refine (taken_any wr lb g i (kc - i) 8 blk HAT.out HAL.out X HE.out).mono ?_
      rintro e w2 ⟨lb', rfl, hE2, hb2⟩
      have HE2 := hid hE2
      have HA2 := hid (HA.out.below hb2)
      have HB2 := hid (HB.out.trans (hb2.mono HB.out.size))
      have HR2 : Hid (w2.heap[w.heap.size]? = some (.cells Z23.toArray 23 (0, 0))) := hid ((hb2.block _ (lt_of_block HR.out)).trans HR.out)
      clear hE2 hb2
      go_wp2_with fail
      go_roundg (q - (j + 1))
      case measure => exact HJ.out.2
      case rel => exact ⟨j + 1, lb', i + 64, HJ.out.1, rfl, rfl, rfl, by have := HI.out; omega, by rw [HNX.out]; exact HE2.out, HA2.out, HB2.out, HR2.out⟩
    · have him : ¬ (i : Int) < (m : Int) := by have := HFL.out; omega
      obtain rfl : j = q := by omega
      rw [HSQ.out] at HE
      obtain ⟨S, hS⟩ : ∃ S, S = sumS c := ⟨_, rfl⟩
      rw [← hS] at HE
      have HSS := hid hS
      clear hS
      clear hi hj hjl
      go_wp2_with fail
      have HB3 : Hid (Below w.heap.size w (wr.alloc (.cells Z23.toArray 23))) := hid (HB.out.alloc HB.out.size _)
      have HR3 : Hid ((wr.alloc (.cells Z23.toArray 23)).heap[w.heap.size]? = some (.cells Z23.toArray 23 (0, 0))) := by apply hid; rw [Below.heap_alloc _ _ _ (lt_of_block HR.out)]; exact HR.out
      have HE3 := hid (HE.out.below (below_alloc_self' wr (.cells Z23.toArray 23)))
      have HO3 : Hid ((wr.alloc (.cells Z23.toArray 23)).heap[wr.heap.size]? = some (.cells (splice Z23 0 (u8s ((outs S).take 0))).toArray 23 (0, 0))) := by
        apply hid; rw [show splice Z23 0 (u8s ((outs S).take 0)) = Z23 from splice_nil _ _]; exact heap_alloc_new wr _
      have HW : Hid (w.heap.size < wr.heap.size) := hid (lt_of_block HR.out)
      have HLB : Hid (lb ≠ wr.heap.size) := by apply hid; have := HE.out.lt; omega
      generalize wr.alloc (.cells Z23.toArray 23) = w3 at HB3 HR3 HE3 HO3 ⊢
      generalize wr.heap.size = o3 at HO3 HW HLB ⊢
      clear HE HA HB HR hz2 him
      go_loopg [7] 32 (fun gg vi wr => ∃ i : Nat, i ≤ 32 ∧ gg = 32 - i ∧ vi = .int .i64 (i : Int) ∧ Eight wr lb S ∧ Below w.heap.size w wr ∧ wr.heap[w.heap.size]? = some (.cells Z23.toArray 23 (0, 0)) ∧ wr.heap[o3]? = some (.cells (splice Z23 0 (u8s ((outs S).take i))).toArray 23 (0, 0)))
      case atStart => exact ⟨0, by omega, rfl, rfl, HE3.out, HB3.out, HR3.out, HO3.out⟩
      case round =>
        clear HE3 HB3 HR3 HO3
        obtain ⟨i, hi, rfl, rfl, hE, hB, hR, hO⟩ := hrel
        have HE := hid hE
        have HB := hid hB
        have HR := hid hR
        have HO := hid hO
        have HWN : Hid (w.heap.size ≠ o3) := by apply hid; have := HW.out; omega
        have hf := fun o => frozen_of_heap hO o
        have HV : Hid (∀ k, k < 32 → ∃ v, wr.cell? ⟨o3, k, none⟩ = some v) := by
          apply hid; intro k hk
          rw [cell_of_heap HO.out]; exact ⟨_, Array.getElem?_eq_getElem (by rw [List.size_toArray, length_splice _ _ _ (by rw [HZL.out]; simp [outs_len]; omega), HZL.out]; exact hk)⟩
        clear hE hB hR hO
        by_cases hil : i < 32
        · rcases (by omega : i = 0 ∨ i = 1 ∨ i = 2 ∨ i = 3 ∨ i = 4 ∨ i = 5 ∨ i = 6 ∨ i = 7 ∨ i = 8 ∨ i = 9 ∨ i = 10 ∨ i = 11 ∨ i = 12 ∨ i = 13 ∨ i = 14 ∨ i = 15 ∨ i = 16 ∨ i = 17 ∨ i = 18 ∨ i = 19 ∨ i = 20 ∨ i = 21 ∨ i = 22 ∨ i = 23 ∨ i = 24 ∨ i = 25 ∨ i = 26 ∨ i = 27 ∨ i = 28 ∨ i = 29 ∨ i = 30 ∨ i = 31) with rfl | rfl | rfl | rfl | rfl | rfl | rfl | rfl | rfl | rfl | rfl | rfl | rfl | rfl | rfl | rfl | rfl | rfl | rfl | rfl | rfl | rfl | rfl | rfl | rfl | rfl | rfl | rfl | rfl | rfl | rfl | rfl
          all_goals clear hi hil
          · have d0 := HE.out.c0
            have hv := HV.out 0 (by decide)
            obtain ⟨v0, hv0⟩ := hv
            go_wp2_with fail
            go_roundg (32 - (0 + 1))
            case measure => decide
            case rel =>
              refine ⟨0 + 1, by decide, rfl, rfl, HE.out.set HLB.out, below_set HB.out HW.out, ?_, ?_⟩
              · rw [Below.heap_setCell _ _ _ _ HWN.out]; exact HR.out
              · exact (heap_setCell_same HO.out 0 (.int .u8 (S.a / 16777216 % 256))).trans (congrArg (fun z => some (Obj.cells z 23 (0, 0))) (oset HZL.out (outs S) rfl 0 (by decide)))
          · have d0 := HE.out.c0
            have hv := HV.out 1 (by decide)
            obtain ⟨v0, hv0⟩ := hv
            go_wp2_with fail
            go_roundg (32 - (1 + 1))
            case measure => decide
            case rel =>
              refine ⟨1 + 1, by decide, rfl, rfl, HE.out.set HLB.out, below_set HB.out HW.out, ?_, ?_⟩
              · rw [Below.heap_setCell _ _ _ _ HWN.out]; exact HR.out
              · exact (heap_setCell_same HO.out 1 (.int .u8 (S.a / 65536 % 256))).trans (congrArg (fun z => some (Obj.cells z 23 (0, 0))) (oset HZL.out (outs S) rfl 1 (by decide)))
          · have d0 := HE.out.c0
            have hv := HV.out 2 (by decide)
            obtain ⟨v0, hv0⟩ := hv
            go_wp2_with fail
            go_roundg (32 - (2 + 1))
            case measure => decide
            case rel =>
              refine ⟨2 + 1, by decide, rfl, rfl, HE.out.set HLB.out, below_set HB.out HW.out, ?_, ?_⟩
              · rw [Below.heap_setCell _ _ _ _ HWN.out]; exact HR.out
              · exact (heap_setCell_same HO.out 2 (.int .u8 (S.a / 256 % 256))).trans (congrArg (fun z => some (Obj.cells z 23 (0, 0))) (oset HZL.out (outs S) rfl 2 (by decide)))
          · have d0 := HE.out.c0
            have hv := HV.out 3 (by decide)
            obtain ⟨v0, hv0⟩ := hv
            go_wp2_with fail
            go_roundg (32 - (3 + 1))
            case measure => decide
            case rel =>
              refine ⟨3 + 1, by decide, rfl, rfl, HE.out.set HLB.out, below_set HB.out HW.out, ?_, ?_⟩
              · rw [Below.heap_setCell _ _ _ _ HWN.out]; exact HR.out
              · exact (heap_setCell_same HO.out 3 (.int .u8 (S.a % 256))).trans (congrArg (fun z => some (Obj.cells z 23 (0, 0))) (oset HZL.out (outs S) rfl 3 (by decide)))
          · have d0 := HE.out.c1
            have hv := HV.out 4 (by decide)
            obtain ⟨v0, hv0⟩ := hv
            go_wp2_with fail
            go_roundg (32 - (4 + 1))
            case measure => decide
            case rel =>
              refine ⟨4 + 1, by decide, rfl, rfl, HE.out.set HLB.out, below_set HB.out HW.out, ?_, ?_⟩
              · rw [Below.heap_setCell _ _ _ _ HWN.out]; exact HR.out
              · exact (heap_setCell_same HO.out 4 (.int .u8 (S.b / 16777216 % 256))).trans (congrArg (fun z => some (Obj.cells z 23 (0, 0))) (oset HZL.out (outs S) rfl 4 (by decide)))
          · have d0 := HE.out.c1
            have hv := HV.out 5 (by decide)
            obtain ⟨v0, hv0⟩ := hv
            go_wp2_with fail
            go_roundg (32 - (5 + 1))
            case measure => decide
            case rel =>
              refine ⟨5 + 1, by decide, rfl, rfl, HE.out.set HLB.out, below_set HB.out HW.out, ?_, ?_⟩
              · rw [Below.heap_setCell _ _ _ _ HWN.out]; exact HR.out
              · exact (heap_setCell_same HO.out 5 (.int .u8 (S.b / 65536 % 256))).trans (congrArg (fun z => some (Obj.cells z 23 (0, 0))) (oset HZL.out (outs S) rfl 5 (by decide)))
          · have d0 := HE.out.c1
            have hv := HV.out 6 (by decide)
            obtain ⟨v0, hv0⟩ := hv
            go_wp2_with fail
            go_roundg (32 - (6 + 1))
            case measure => decide
            case rel =>
              refine ⟨6 + 1, by decide, rfl, rfl, HE.out.set HLB.out, below_set HB.out HW.out, ?_, ?_⟩
              · rw [Below.heap_setCell _ _ _ _ HWN.out]; exact HR.out
              · exact (heap_setCell_same HO.out 6 (.int .u8 (S.b / 256 % 256))).trans (congrArg (fun z => some (Obj.cells z 23 (0, 0))) (oset HZL.out (outs S) rfl 6 (by decide)))
          · have d0 := HE.out.c1
            have hv := HV.out 7 (by decide)
            obtain ⟨v0, hv0⟩ := hv
            go_wp2_with fail
            go_roundg (32 - (7 + 1))
            case measure => decide
            case rel =>
              refine ⟨7 + 1, by decide, rfl, rfl, HE.out.set HLB.out, below_set HB.out HW.out, ?_, ?_⟩
              · rw [Below.heap_setCell _ _ _ _ HWN.out]; exact HR.out
              · exact (heap_setCell_same HO.out 7 (.int .u8 (S.b % 256))).trans (congrArg (fun z => some (Obj.cells z 23 (0, 0))) (oset HZL.out (outs S) rfl 7 (by decide)))
          · have d0 := HE.out.c2
            have hv := HV.out 8 (by decide)
            obtain ⟨v0, hv0⟩ := hv
            go_wp2_with fail
            go_roundg (32 - (8 + 1))
            case measure => decide
            case rel =>
              refine ⟨8 + 1, by decide, rfl, rfl, HE.out.set HLB.out, below_set HB.out HW.out, ?_, ?_⟩
              · rw [Below.heap_setCell _ _ _ _ HWN.out]; exact HR.out
              · exact (heap_setCell_same HO.out 8 (.int .u8 (S.c / 16777216 % 256))).trans (congrArg (fun z => some (Obj.cells z 23 (0, 0))) (oset HZL.out (outs S) rfl 8 (by decide)))
          · have d0 := HE.out.c2
            have hv := HV.out 9 (by decide)
            obtain ⟨v0, hv0⟩ := hv
            go_wp2_with fail
            go_roundg (32 - (9 + 1))
            case measure => decide
            case rel =>
              refine ⟨9 + 1, by decide, rfl, rfl, HE.out.set HLB.out, below_set HB.out HW.out, ?_, ?_⟩
              · rw [Below.heap_setCell _ _ _ _ HWN.out]; exact HR.out
              · exact (heap_setCell_same HO.out 9 (.int .u8 (S.c / 65536 % 256))).trans (congrArg (fun z => some (Obj.cells z 23 (0, 0))) (oset HZL.out (outs S) rfl 9 (by decide)))
          · have d0 := HE.out.c2
            have hv := HV.out 10 (by decide)
            obtain ⟨v0, hv0⟩ := hv
            go_wp2_with fail
            go_roundg (32 - (10 + 1))
            case measure => decide
            case rel =>
              refine ⟨10 + 1, by decide, rfl, rfl, HE.out.set HLB.out, below_set HB.out HW.out, ?_, ?_⟩
              · rw [Below.heap_setCell _ _ _ _ HWN.out]; exact HR.out
              · exact (heap_setCell_same HO.out 10 (.int .u8 (S.c / 256 % 256))).trans (congrArg (fun z => some (Obj.cells z 23 (0, 0))) (oset HZL.out (outs S) rfl 10 (by decide)))
          · have d0 := HE.out.c2
            have hv := HV.out 11 (by decide)
            obtain ⟨v0, hv0⟩ := hv
            go_wp2_with fail
            go_roundg (32 - (11 + 1))
            case measure => decide
            case rel =>
              refine ⟨11 + 1, by decide, rfl, rfl, HE.out.set HLB.out, below_set HB.out HW.out, ?_, ?_⟩
              · rw [Below.heap_setCell _ _ _ _ HWN.out]; exact HR.out
              · exact (heap_setCell_same HO.out 11 (.int .u8 (S.c % 256))).trans (congrArg (fun z => some (Obj.cells z 23 (0, 0))) (oset HZL.out (outs S) rfl 11 (by decide)))
          · have d0 := HE.out.c3
            have hv := HV.out 12 (by decide)
            obtain ⟨v0, hv0⟩ := hv
            go_wp2_with fail
            go_roundg (32 - (12 + 1))
            case measure => decide
            case rel =>
              refine ⟨12 + 1, by decide, rfl, rfl, HE.out.set HLB.out, below_set HB.out HW.out, ?_, ?_⟩
              · rw [Below.heap_setCell _ _ _ _ HWN.out]; exact HR.out
              · exact (heap_setCell_same HO.out 12 (.int .u8 (S.d / 16777216 % 256))).trans (congrArg (fun z => some (Obj.cells z 23 (0, 0))) (oset HZL.out (outs S) rfl 12 (by decide)))
          · have d0 := HE.out.c3
            have hv := HV.out 13 (by decide)
            obtain ⟨v0, hv0⟩ := hv
            go_wp2_with fail
            go_roundg (32 - (13 + 1))
            case measure => decide
            case rel =>
              refine ⟨13 + 1, by decide, rfl, rfl, HE.out.set HLB.out, below_set HB.out HW.out, ?_, ?_⟩
              · rw [Below.heap_setCell _ _ _ _ HWN.out]; exact HR.out
              · exact (heap_setCell_same HO.out 13 (.int .u8 (S.d / 65536 % 256))).trans (congrArg (fun z => some (Obj.cells z 23 (0, 0))) (oset HZL.out (outs S) rfl 13 (by decide)))
          · have d0 := HE.out.c3
            have hv := HV.out 14 (by decide)
            obtain ⟨v0, hv0⟩ := hv
            go_wp2_with fail
            go_roundg (32 - (14 + 1))
            case measure => decide
            case rel =>
              refine ⟨14 + 1, by decide, rfl, rfl, HE.out.set HLB.out, below_set HB.out HW.out, ?_, ?_⟩
              · rw [Below.heap_setCell _ _ _ _ HWN.out]; exact HR.out
              · exact (heap_setCell_same HO.out 14 (.int .u8 (S.d / 256 % 256))).trans (congrArg (fun z => some (Obj.cells z 23 (0, 0))) (oset HZL.out (outs S) rfl 14 (by decide)))
          · have d0 := HE.out.c3
            have hv := HV.out 15 (by decide)
            obtain ⟨v0, hv0⟩ := hv
            go_wp2_with fail
            go_roundg (32 - (15 + 1))
            case measure => decide
            case rel =>
              refine ⟨15 + 1, by decide, rfl, rfl, HE.out.set HLB.out, below_set HB.out HW.out, ?_, ?_⟩
              · rw [Below.heap_setCell _ _ _ _ HWN.out]; exact HR.out
              · exact (heap_setCell_same HO.out 15 (.int .u8 (S.d % 256))).trans (congrArg (fun z => some (Obj.cells z 23 (0, 0))) (oset HZL.out (outs S) rfl 15 (by decide)))
          · have d0 := HE.out.c4
            have hv := HV.out 16 (by decide)
            obtain ⟨v0, hv0⟩ := hv
            go_wp2_with fail
            go_roundg (32 - (16 + 1))
            case measure => decide
            case rel =>
              refine ⟨16 + 1, by decide, rfl, rfl, HE.out.set HLB.out, below_set HB.out HW.out, ?_, ?_⟩
              · rw [Below.heap_setCell _ _ _ _ HWN.out]; exact HR.out
              · exact (heap_setCell_same HO.out 16 (.int .u8 (S.e / 16777216 % 256))).trans (congrArg (fun z => some (Obj.cells z 23 (0, 0))) (oset HZL.out (outs S) rfl 16 (by decide)))
          · have d0 := HE.out.c4
            have hv := HV.out 17 (by decide)
            obtain ⟨v0, hv0⟩ := hv
            go_wp2_with fail
            go_roundg (32 - (17 + 1))
            case measure => decide
            case rel =>
              refine ⟨17 + 1, by decide, rfl, rfl, HE.out.set HLB.out, below_set HB.out HW.out, ?_, ?_⟩
              · rw [Below.heap_setCell _ _ _ _ HWN.out]; exact HR.out
              · exact (heap_setCell_same HO.out 17 (.int .u8 (S.e / 65536 % 256))).trans (congrArg (fun z => some (Obj.cells z 23 (0, 0))) (oset HZL.out (outs S) rfl 17 (by decide)))
          · have d0 := HE.out.c4
            have hv := HV.out 18 (by decide)
            obtain ⟨v0, hv0⟩ := hv
            go_wp2_with fail
            go_roundg (32 - (18 + 1))
            case measure => decide
            case rel =>
              refine ⟨18 + 1, by decide, rfl, rfl, HE.out.set HLB.out, below_set HB.out HW.out, ?_, ?_⟩
              · rw [Below.heap_setCell _ _ _ _ HWN.out]; exact HR.out
              · exact (heap_setCell_same HO.out 18 (.int .u8 (S.e / 256 % 256))).trans (congrArg (fun z => some (Obj.cells z 23 (0, 0))) (oset HZL.out (outs S) rfl 18 (by decide)))
          · have d0 := HE.out.c4
            have hv := HV.out 19 (by decide)
            obtain ⟨v0, hv0⟩ := hv
            go_wp2_with fail
            go_roundg (32 - (19 + 1))
            case measure => decide
            case rel =>
              refine ⟨19 + 1, by decide, rfl, rfl, HE.out.set HLB.out, below_set HB.out HW.out, ?_, ?_⟩
              · rw [Below.heap_setCell _ _ _ _ HWN.out]; exact HR.out
              · exact (heap_setCell_same HO.out 19 (.int .u8 (S.e % 256))).trans (congrArg (fun z => some (Obj.cells z 23 (0, 0))) (oset HZL.out (outs S) rfl 19 (by decide)))
          · have d0 := HE.out.c5
            have hv := HV.out 20 (by decide)
            obtain ⟨v0, hv0⟩ := hv
            go_wp2_with fail
            go_roundg (32 - (20 + 1))
            case measure => decide
            case rel =>
              refine ⟨20 + 1, by decide, rfl, rfl, HE.out.set HLB.out, below_set HB.out HW.out, ?_, ?_⟩
              · rw [Below.heap_setCell _ _ _ _ HWN.out]; exact HR.out
              · exact (heap_setCell_same HO.out 20 (.int .u8 (S.f / 16777216 % 256))).trans (congrArg (fun z => some (Obj.cells z 23 (0, 0))) (oset HZL.out (outs S) rfl 20 (by decide)))
          · have d0 := HE.out.c5
            have hv := HV.out 21 (by decide)
            obtain ⟨v0, hv0⟩ := hv
            go_wp2_with fail
            go_roundg (32 - (21 + 1))
            case measure => decide
            case rel =>
              refine ⟨21 + 1, by decide, rfl, rfl, HE.out.set HLB.out, below_set HB.out HW.out, ?_, ?_⟩
              · rw [Below.heap_setCell _ _ _ _ HWN.out]; exact HR.out
              · exact (heap_setCell_same HO.out 21 (.int .u8 (S.f / 65536 % 256))).trans (congrArg (fun z => some (Obj.cells z 23 (0, 0))) (oset HZL.out (outs S) rfl 21 (by decide)))
          · have d0 := HE.out.c5
            have hv := HV.out 22 (by decide)
            obtain ⟨v0, hv0⟩ := hv
            go_wp2_with fail
            go_roundg (32 - (22 + 1))
            case measure => decide
            case rel =>
              refine ⟨22 + 1, by decide, rfl, rfl, HE.out.set HLB.out, below_set HB.out HW.out, ?_, ?_⟩
              · rw [Below.heap_setCell _ _ _ _ HWN.out]; exact HR.out
              · exact (heap_setCell_same HO.out 22 (.int .u8 (S.f / 256 % 256))).trans (congrArg (fun z => some (Obj.cells z 23 (0, 0))) (oset HZL.out (outs S) rfl 22 (by decide)))
          · have d0 := HE.out.c5
            have hv := HV.out 23 (by decide)
            obtain ⟨v0, hv0⟩ := hv
            go_wp2_with fail
            go_roundg (32 - (23 + 1))
            case measure => decide
            case rel =>
              refine ⟨23 + 1, by decide, rfl, rfl, HE.out.set HLB.out, below_set HB.out HW.out, ?_, ?_⟩
              · rw [Below.heap_setCell _ _ _ _ HWN.out]; exact HR.out
              · exact (heap_setCell_same HO.out 23 (.int .u8 (S.f % 256))).trans (congrArg (fun z => some (Obj.cells z 23 (0, 0))) (oset HZL.out (outs S) rfl 23 (by decide)))
          · have d0 := HE.out.c6
            have hv := HV.out 24 (by decide)
            obtain ⟨v0, hv0⟩ := hv
            go_wp2_with fail
            go_roundg (32 - (24 + 1))
            case measure => decide
            case rel =>
              refine ⟨24 + 1, by decide, rfl, rfl, HE.out.set HLB.out, below_set HB.out HW.out, ?_, ?_⟩
              · rw [Below.heap_setCell _ _ _ _ HWN.out]; exact HR.out
              · exact (heap_setCell_same HO.out 24 (.int .u8 (S.g / 16777216 % 256))).trans (congrArg (fun z => some (Obj.cells z 23 (0, 0))) (oset HZL.out (outs S) rfl 24 (by decide)))
          · have d0 := HE.out.c6
            have hv := HV.out 25 (by decide)
            obtain ⟨v0, hv0⟩ := hv
            go_wp2_with fail
            go_roundg (32 - (25 + 1))
            case measure => decide
            case rel =>
              refine ⟨25 + 1, by decide, rfl, rfl, HE.out.set HLB.out, below_set HB.out HW.out, ?_, ?_⟩
              · rw [Below.heap_setCell _ _ _ _ HWN.out]; exact HR.out
              · exact (heap_setCell_same HO.out 25 (.int .u8 (S.g / 65536 % 256))).trans (congrArg (fun z => some (Obj.cells z 23 (0, 0))) (oset HZL.out (outs S) rfl 25 (by decide)))
          · have d0 := HE.out.c6
            have hv := HV.out 26 (by decide)
            obtain ⟨v0, hv0⟩ := hv
            go_wp2_with fail
            go_roundg (32 - (26 + 1))
            case measure => decide
            case rel =>
              refine ⟨26 + 1, by decide, rfl, rfl, HE.out.set HLB.out, below_set HB.out HW.out, ?_, ?_⟩
              · rw [Below.heap_setCell _ _ _ _ HWN.out]; exact HR.out
              · exact (heap_setCell_same HO.out 26 (.int .u8 (S.g / 256 % 256))).trans (congrArg (fun z => some (Obj.cells z 23 (0, 0))) (oset HZL.out (outs S) rfl 26 (by decide)))
          · have d0 := HE.out.c6
            have hv := HV.out 27 (by decide)
            obtain ⟨v0, hv0⟩ := hv
            go_wp2_with fail
            go_roundg (32 - (27 + 1))
            case measure => decide
            case rel =>
              refine ⟨27 + 1, by decide, rfl, rfl, HE.out.set HLB.out, below_set HB.out HW.out, ?_, ?_⟩
              · rw [Below.heap_setCell _ _ _ _ HWN.out]; exact HR.out
              · exact (heap_setCell_same HO.out 27 (.int .u8 (S.g % 256))).trans (congrArg (fun z => some (Obj.cells z 23 (0, 0))) (oset HZL.out (outs S) rfl 27 (by decide)))
          · have d0 := HE.out.c7
            have hv := HV.out 28 (by decide)
            obtain ⟨v0, hv0⟩ := hv
            go_wp2_with fail
            go_roundg (32 - (28 + 1))
            case measure => decide
            case rel =>
              refine ⟨28 + 1, by decide, rfl, rfl, HE.out.set HLB.out, below_set HB.out HW.out, ?_, ?_⟩
              · rw [Below.heap_setCell _ _ _ _ HWN.out]; exact HR.out
              · exact (heap_setCell_same HO.out 28 (.int .u8 (S.h / 16777216 % 256))).trans (congrArg (fun z => some (Obj.cells z 23 (0, 0))) (oset HZL.out (outs S) rfl 28 (by decide)))
          · have d0 := HE.out.c7
            have hv := HV.out 29 (by decide)
            obtain ⟨v0, hv0⟩ := hv
            go_wp2_with fail
            go_roundg (32 - (29 + 1))
            case measure => decide
            case rel =>
              refine ⟨29 + 1, by decide, rfl, rfl, HE.out.set HLB.out, below_set HB.out HW.out, ?_, ?_⟩
              · rw [Below.heap_setCell _ _ _ _ HWN.out]; exact HR.out
              · exact (heap_setCell_same HO.out 29 (.int .u8 (S.h / 65536 % 256))).trans (congrArg (fun z => some (Obj.cells z 23 (0, 0))) (oset HZL.out (outs S) rfl 29 (by decide)))
          · have d0 := HE.out.c7
            have hv := HV.out 30 (by decide)
            obtain ⟨v0, hv0⟩ := hv
            go_wp2_with fail
            go_roundg (32 - (30 + 1))
            case measure => decide
            case rel =>
              refine ⟨30 + 1, by decide, rfl, rfl, HE.out.set HLB.out, below_set HB.out HW.out, ?_, ?_⟩
              · rw [Below.heap_setCell _ _ _ _ HWN.out]; exact HR.out
              · exact (heap_setCell_same HO.out 30 (.int .u8 (S.h / 256 % 256))).trans (congrArg (fun z => some (Obj.cells z 23 (0, 0))) (oset HZL.out (outs S) rfl 30 (by decide)))
          · have d0 := HE.out.c7
            have hv := HV.out 31 (by decide)
            obtain ⟨v0, hv0⟩ := hv
            go_wp2_with fail
            go_roundg (32 - (31 + 1))
            case measure => decide
            case rel =>
              refine ⟨31 + 1, by decide, rfl, rfl, HE.out.set HLB.out, below_set HB.out HW.out, ?_, ?_⟩
              · rw [Below.heap_setCell _ _ _ _ HWN.out]; exact HR.out
              · exact (heap_setCell_same HO.out 31 (.int .u8 (S.h % 256))).trans (congrArg (fun z => some (Obj.cells z 23 (0, 0))) (oset HZL.out (outs S) rfl 31 (by decide)))
        · obtain rfl : i = 32 := by omega
          clear hi hil HV hf
          have HT : Hid (splice Z23 0 (u8s ((outs S).take 32)) = u8s (outs S)) := by
            apply hid
            rw [show (outs S).take 32 = outs S from rfl, splice, List.take_zero, List.nil_append, List.drop_eq_nil_of_le (by rw [HZL.out]; simp [outs_len]), List.append_nil]
          rw [HT.out] at HO
          have HO0 : Hid ((u8s (outs S)).toArray.size = 32) := hid rfl
          have HO1 : Hid ((u8s (outs S)).toArray.all (·.oneCell') = true) := hid (u8s_one _)
          obtain ⟨OO, hOO⟩ : ∃ OO, OO = (u8s (outs S)).toArray := ⟨_, rfl⟩
          have HOO : Hid (Ending.returned (.agg OO) = Ending.returned (vsum (sumS c))) := by apply hid; rw [hOO, ← HSS.out]
          rw [← hOO] at HO HO0 HO1
          clear hOO
          have HZ : Hid ((Tryd.prog.info? 23).map (·.size) = some OO.size) := by apply hid; rw [HO0.out]; exact Tryd.size23
          go_wp2_with (first | refine wpList_load_arr _ rfl (.tmp 6) 23 rfl _ 23 _ 32 5 rfl HO.out Tryd.underlying23 HZ.out ?_ | refine wpList_store_arr _ rfl (.tmp 2) (.tmp 41) 23 rfl rfl _ 23 Z23.toArray OO rfl rfl HR.out HZ.out (by rw [HZS.out, HO0.out]) HO1.out ?_)
          refine bodyPost_ret (v := .agg OO) (results_cell Tryd.results8 rfl ?_) rfl ⟨HOO.out, below_setRow HB.out (Nat.le_refl _)⟩
          exact run_loadVar_row _ _ 23 23 _ (0, 0) _ (setRow_same HR.out) Tryd.underlying23 rfl HZ.out
end Go.Proofs.YtkeppcpplkdkaaaDoor
