/- Bytes are written to a state. -/
import Derived.Test.YtkeppcpplkdkaaaDoorFillC
import Derived.Deep.Cut
namespace Go.Proofs.YtkeppcpplkdkaaaDoor
open Go.RowKit

set_option maxHeartbeats 4000000 in
set_option maxRecDepth 100000 in
theorem snil_any' (w : World) (q : Bs) (hq : q = []) (hkc : KC w) : Calls Tryd.prog 13 #[.pointer none] w fun en w' => en = .returned (vsum (sumS q)) ∧ Below w.heap.size w w' := by
  have HKC := hid hkc
  clear hkc
  have hz2 := zero23_run
  obtain ⟨Z23, hZ23⟩ : ∃ Z, Z = bys (noughts 32) := ⟨_, rfl⟩
  rw [← hZ23] at hz2
  have HZ23 := hid hZ23
  clear hZ23
  go_enter Tryd.func13, Tryd.ntmps13
  go_wp2_with fail
  refine (new_any _).mono ?_
  rintro e w1 ⟨rfl, hw⟩
  have HS := hid (stt_new (w.alloc (.cells Z23.toArray 23)))
  rw [← hq] at HS
  have HB : Hid (Below w.heap.size w w1) := by apply hid; rw [hw]; exact (below_alloc_self' w _).alloc (by simp) _
  have HR : Hid (w1.heap[w.heap.size]? = some (.cells Z23.toArray 23 (0, 0))) := by apply hid; rw [hw, Below.heap_alloc _ _ _ (by simp)]; exact heap_alloc_new w _
  rw [← hw, show (w.alloc (.cells Z23.toArray 23)).heap.size = w.heap.size + 1 by simp] at HS
  have HQ := hid hq
  clear hw hq
  go_wp2_with fail
  refine (ssum_any _ _ q _ _ HS.out (by rw [HQ.out]; decide) (HKC.out.below HB.out)).mono ?_
  rintro e w2 ⟨rfl, hb⟩
  have HB2 := hid (HB.out.trans (hb.mono HB.out.size))
  have HR2 : Hid (w2.heap[w.heap.size]? = some (.cells Z23.toArray 23 (0, 0))) := hid ((hb.block _ (lt_of_block HR.out)).trans HR.out)
  clear hb HB HR
  have HZS : Hid (Z23.toArray.size = 32) := by apply hid; rw [HZ23.out]; rfl
  have HO : Hid ((u8s (outs (sumS q))).toArray.size = 32) := hid rfl
  have HO1 : Hid ((u8s (outs (sumS q))).toArray.all (·.oneCell') = true) := hid (u8s_one _)
  unfold vsum
  obtain ⟨OO, hOO⟩ : ∃ OO, OO = (u8s (outs (sumS q))).toArray := ⟨_, rfl⟩
  have HOO : Hid (Ending.returned (.agg OO) = Ending.returned (vsum (sumS q))) := by apply hid; rw [hOO]
  rw [← hOO] at HO HO1 ⊢
  clear hOO
  have HZ : Hid ((Tryd.prog.info? 23).map (·.size) = some OO.size) := by apply hid; rw [HO.out]; exact Tryd.size23
  go_wp2_with (refine wpList_store_arr _ rfl (.tmp 2) (.tmp 11) 23 rfl rfl _ 23 Z23.toArray OO rfl rfl HR2.out HZ.out (by rw [HZS.out, HO.out]) HO1.out ?_)
  refine bodyPost_ret (v := .agg OO) (results_cell Tryd.results13 rfl ?_) rfl ⟨HOO.out, below_setRow HB2.out (Nat.le_refl _)⟩
  exact run_loadVar_row _ _ 23 23 _ (0, 0) _ (setRow_same HR2.out) Tryd.underlying23 rfl HZ.out

theorem snil_any (w : World) (hkc : KC w) : Calls Tryd.prog 13 #[.pointer none] w fun en w' => en = .returned (vsum (sumS [])) ∧ Below w.heap.size w w' := snil_any' w [] rfl hkc

/-- a slice that holds bytes, off block p -/
structure Sl (w : World) (p : Nat) (a : Option Addr) (cap : Nat) (c : Bs) : Prop where
  cap : c.length ≤ cap
  som : 0 < c.length → ∃ cb co, a = some ⟨cb, co, none⟩ ∧ At w cb co c ∧ cb ≠ p

theorem slice_arr_from (p o r : Nat) (h : r < 64) (W : World) : (Instr.sliceAt 36 (.pointer (some ⟨p, o, none⟩)) (some (.int .i64 (r : Int))) none none).run Tryd.prog W = .ok (.slice (some ⟨p, o + r, none⟩) (64 - r) (64 - r)) W := by
  obtain ⟨i, hi, hz⟩ := Option.map_eq_some_iff.1 Tryd.size5
  have h1 : (r : Int) ≤ 64 := by omega
  have h2 : ¬ 64 = r := by omega
  simp [Instr.sliceAt, Instr.sureAddr, Instr.sliceBounds, Instr.sliceBound, asIntOf, run_underlying Tryd.underlying36, sizeOf, typeInfo, hi, hz, h2, add_off, go_sem]
  intro h'; omega
theorem slice_from (a : Option Addr) (n cap k : Nat) (h : k ≤ n) (W : World) : (Instr.sliceAt 22 (.slice a n cap) (some (.int .i64 (k : Int))) none none).run Tryd.prog W = .ok (.slice (if cap = k then a else a.map (·.add k)) (n - k) (cap - k)) W := by
  obtain ⟨i, hi, hz⟩ := Option.map_eq_some_iff.1 Tryd.size5
  have h1 : (k : Int) ≤ (n : Int) := by omega
  simp [Instr.sliceAt, Instr.slice, Instr.sliceBounds, Instr.sliceBound, asIntOf, run_underlying Tryd.underlying22, sizeOf, typeInfo, hi, hz, go_sem]
  intro h'; omega
theorem slice_to (a : Option Addr) (n cap k : Nat) (h : k ≤ cap) (W : World) : (Instr.sliceAt 22 (.slice a n cap) none (some (.int .i64 (k : Int))) none).run Tryd.prog W = .ok (.slice a k cap) W := by
  obtain ⟨i, hi, hz⟩ := Option.map_eq_some_iff.1 Tryd.size5
  have h1 : (k : Int) ≤ (cap : Int) := by omega
  have h0 : ∀ x : Addr, x.add 0 = x := fun x => by unfold Addr.add; split <;> simp_all
  simp [Instr.sliceAt, Instr.slice, Instr.sliceBounds, Instr.sliceBound, asIntOf, run_underlying Tryd.underlying22, sizeOf, typeInfo, hi, go_sem, h0]
  intro h'; omega
theorem Sl.cut {w : World} {p : Nat} {a : Option Addr} {cap : Nat} {c : Bs} (h : Sl w p a cap c) (k : Nat) : Sl w p (if cap = k then a else a.map (·.add k)) (cap - k) (c.drop k) := by
  refine ⟨by have := h.cap; simp; omega, fun h0 => ?_⟩
  have h0' : k < c.length := by simp at h0; omega
  obtain ⟨cb, co, rfl, hat, hne⟩ := h.som (by omega)
  have hc := h.cap
  refine ⟨cb, co + k, ?_, ?_, hne⟩
  · rw [if_neg (by omega)]; simp [add_off]
  · have := hat.sub k (c.length)
    rwa [List.take_of_length_le (by simp)] at this
theorem set8' {w : World} {p : Nat} {s Y : S8} {t : Bs} {n : Nat} (h : w.heap[p]? = some (.cells (stc s t n).toArray 39 (0, 0))) :
    (((((((w.setCell ⟨p, 0, none⟩ (.int .u32 Y.a)).setCell ⟨p, 1, none⟩ (.int .u32 Y.b)).setCell ⟨p, 2, none⟩ (.int .u32 Y.c)).setCell ⟨p, 3, none⟩ (.int .u32 Y.d)).setCell ⟨p, 4, none⟩ (.int .u32 Y.e)).setCell ⟨p, 5, none⟩ (.int .u32 Y.f)).setCell ⟨p, 6, none⟩ (.int .u32 Y.g)).setCell ⟨p, 7, none⟩ (.int .u32 Y.h) = w.setRow p (stc Y t n).toArray := by
  rw [setCell_eq_setRow w p 0 _ 39 (0, 0) _ h, setCell_eq_setRow _ p 1 _ 39 (0, 0) _ (setRow_heap w p _ _ 39 _ h), setRow_setRow, setCell_eq_setRow _ p 2 _ 39 (0, 0) _ (setRow_heap w p _ _ 39 _ h), setRow_setRow, setCell_eq_setRow _ p 3 _ 39 (0, 0) _ (setRow_heap w p _ _ 39 _ h), setRow_setRow, setCell_eq_setRow _ p 4 _ 39 (0, 0) _ (setRow_heap w p _ _ 39 _ h), setRow_setRow, setCell_eq_setRow _ p 5 _ 39 (0, 0) _ (setRow_heap w p _ _ 39 _ h), setRow_setRow, setCell_eq_setRow _ p 6 _ 39 (0, 0) _ (setRow_heap w p _ _ 39 _ h), setRow_setRow, setCell_eq_setRow _ p 7 _ 39 (0, 0) _ (setRow_heap w p _ _ 39 _ h), setRow_setRow, stc_words]
/-- the cells of a state's block -/
theorem stc_eight {w : World} {p : Nat} {s : S8} {t : Bs} {n : Nat} (h : w.heap[p]? = some (.cells (stc s t n).toArray 39 (0, 0))) : Eight w p s := by
  refine ⟨lt_of_block h, ?_, ?_, ?_, ?_, ?_, ?_, ?_, ?_⟩ <;> (rw [cell_of_heap h, stc]; simp)
theorem stc_at {w : World} {p : Nat} {s : S8} {t : Bs} {n : Nat} (h : w.heap[p]? = some (.cells (stc s t n).toArray 39 (0, 0))) (_hl : t.length = 64) : At w p 8 t := by
  refine ⟨lt_of_block h, fun i hi => ?_⟩
  rw [cell_of_heap h, stc, List.getElem?_toArray, List.getElem?_append_right (by simp), List.getElem?_append_left (by simp; omega)]
  rw [show 8 + i - (v8 s).toList.length = i by simp]
  exact bys_get (by omega)
/-- bytes that are copied -/
theorem Sl.cells {w w' : World} {p : Nat} {a : Option Addr} {cap : Nat} {c : Bs} (h : Sl w p a cap c) (ho : Oth w p w') (k : Nat) : 0 < (bys (c.take k)).length → ∃ ad, a = some ad ∧ ∀ j v, (bys (c.take k))[j]? = some v → w'.cell? (ad.add j) = some v := by
  intro h0
  have h0' : 0 < c.length := by simp at h0; omega
  obtain ⟨cb, co, rfl, hat, hne⟩ := h.som h0'
  refine ⟨_, rfl, fun j v hv => ?_⟩
  have hj : j < (c.take k).length := by have := (List.getElem?_eq_some_iff.1 hv).1; simpa using this
  have e := (ho.at hat hne).2 j (by simp at hj; omega)
  rw [add_off, e]
  rw [bys_get hj] at hv
  rw [← hv]
  have hjk : j < k := by simp at hj; omega
  simp [byt, List.getD, hjk]
theorem bys_one (b : Bs) : ∀ v ∈ bys b, v.oneCell' = true := by
  intro v hv; obtain ⟨a, _, rfl⟩ := List.mem_map.1 hv; rfl

set_option maxHeartbeats 1000000 in
theorem write_nil (v : Value) (w : World) : Calls Tryd.prog 14 #[.pointer none, v] w fun en w' => en = .returned (.tuple #[]) ∧ w' = w := by
  go_enter Tryd.func14, Tryd.ntmps14
  go_wp2_with fail
  refine bodyPost_ret (results_none rfl _ _ _) rfl ?_
  exact ⟨rfl, rfl⟩

set_option maxHeartbeats 4000000 in
set_option maxRecDepth 100000 in
theorem write_any (w : World) (p : Nat) (b : Bs) (s : S8) (t : Bs) (a : Option Addr) (cap : Nat) (c : Bs) (h : Stt w p b s t) (hsl : Sl w p a cap c) (hl : b.length + c.length < 1000000) (hkc : KC w) (hp0 : p ≠ 0) :
    Calls Tryd.prog 14 #[.pointer (some ⟨p, 0, none⟩), .slice a c.length cap] w fun en w' => en = .returned (.tuple #[]) ∧ (∃ s' t', Stt w' p (b ++ c) s' t') ∧ Oth w p w' := by
  have HS := hid h
  have HSL := hid hsl
  have HKC := hid hkc
  have HL := hid hl
  have HP0 := hid hp0
  have HLT := hid h.lt
  clear h hsl hkc hl hp0
  obtain ⟨n, hn⟩ : ∃ n, n = c.length := ⟨_, rfl⟩
  rw [← hn]
  have HN := hid hn
  clear hn
  go_enter Tryd.func14, Tryd.ntmps14
  go_wp2_with fail
  refine (begun_any _ p b s t HS.out (by have := HL.out; omega)).mono ?_
  rintro e w1 ⟨rfl, hb1⟩
  have HB1 := hid hb1
  have HS1 := hid (HS.out.below hb1)
  clear hb1
  obtain ⟨M, hM⟩ : ∃ M, M = mid b := ⟨_, rfl⟩
  rw [← hM]
  have HM := hid hM
  clear hM
  obtain ⟨r, hr⟩ : ∃ r, r = b.length % 64 := ⟨_, rfl⟩
  have hr1 : (r : Int) < 64 := by omega
  have HW : Hid (Calls Tryd.prog 17 #[.pointer (some ⟨p, 0, none⟩)] w1 fun en w' => en = .returned (.int .i64 (r : Int)) ∧ w' = w1) := by
    apply hid; rw [hr]; exact waiting_any _ p b.length HS1.out.count (by have := HL.out; omega)
  have HR := hid hr
  clear hr
  go_wp2_with fail
  refine HW.out.mono ?_
  rintro e w2 ⟨rfl, rfl⟩
  clear HW
  have hcnt := HS1.out.count
  have hfz := HS1.out.frozen
  have hplt := HS1.out.lt
  obtain ⟨L, hL⟩ : ∃ L, L = b.length := ⟨_, rfl⟩
  rw [← hL] at hcnt
  have hLn : (L : Int) + (n : Int) < 1000000 := by have := HL.out; have := HN.out; omega
  have HLL := hid hL
  clear hL
  by_cases hr0 : r = 0
  · have hr0' : ¬ (0 : Int) < (r : Int) := by omega
    go_wp2_with fail
    obtain ⟨g, hg⟩ : ∃ g, g = w2.heap.size := ⟨_, rfl⟩
    have HGP : Hid (p ≠ g) := by apply hid; omega
    have HGG : Hid (w.heap.size ≤ g) := by apply hid; rw [hg]; exact HB1.out.size
    have HCNT : Hid ((stc s t b.length).toArray.setIfInBounds 72 (.int .u64 ((L : Int) + (n : Int))) = (stc s t (b ++ c).length).toArray) := by
      apply hid
      rw [show (L : Int) + (n : Int) = (((b ++ c).length : Nat) : Int) by rw [List.length_append, HLL.out, HN.out]; simp, stc_count _ _ _ _ HS.out.len]
    have HP3 : Hid (((w2.setCell ⟨p, 72, none⟩ (.int .u64 ((L : Int) + (n : Int)))).alloc (.cells (v8 M) 35)).heap[p]? = some (.cells (stc s t (b ++ c).length).toArray 39 (0, 0))) := by
      apply hid; rw [Below.heap_alloc _ _ _ (by simpa [World.setCell] using hplt), heap_setCell_same HS1.out.blk, HCNT.out]
    have HG3 : Hid (((w2.setCell ⟨p, 72, none⟩ (.int .u64 ((L : Int) + (n : Int)))).alloc (.cells (v8 M) 35)).heap[g]? = some (.cells (v8 (blks M c 0)) 35 (0, 0))) := by
      apply hid; have := heap_alloc_new (w2.setCell ⟨p, 72, none⟩ (.int .u64 ((L : Int) + (n : Int)))) (.cells (v8 M) 35); rw [show (w2.setCell ⟨p, 72, none⟩ (.int .u64 ((L : Int) + (n : Int)))).heap.size = g by rw [hg]; simp [World.setCell]] at this; exact this
    have HO3 : Hid (Oth w p ((w2.setCell ⟨p, 72, none⟩ (.int .u64 ((L : Int) + (n : Int)))).alloc (.cells (v8 M) 35))) := hid ((((Oth.refl w p).below HB1.out).setCell 72 _).below (below_alloc_self' _ _))
    rw [← hg]
    generalize (w2.setCell ⟨p, 72, none⟩ (.int .u64 ((L : Int) + (n : Int)))).alloc (.cells (v8 M) 35) = w3 at HP3 HG3 HO3 ⊢
    clear hg hcnt hfz hplt
    have HGO : Hid (Goes b c M c) := by apply hid; rw [HM.out]; exact goes_none b c (by have := HR.out; omega)
    have HM0 := HN
    have HSL0 := HSL
    have HT0 := hid HS.out.len
    obtain ⟨a0, ha0⟩ : ∃ a0, a0 = a := ⟨_, rfl⟩
    obtain ⟨cap0, hc0⟩ : ∃ c0, c0 = cap := ⟨_, rfl⟩
    rw [← ha0, ← hc0] at HSL0
    rw [← ha0, ← hc0]
    clear ha0 hc0
    have HQ : Hid (c.length / 64 * 64 ≤ c.length ∧ c.length - 64 * (c.length / 64) < 64) := by apply hid; omega
    obtain ⟨q, hq⟩ : ∃ q, q = c.length / 64 := ⟨_, rfl⟩
    have HQE := hid hq
    clear hq
    go_loopg [1] q (fun gg v1 wr => ∃ j a' cap' m', j ≤ q ∧ gg = q - j ∧ v1 = .slice a' m' cap' ∧ m' = c.length - 64 * j ∧ Sl w p a' cap' (c.drop (64 * j)) ∧ Oth w p wr ∧ wr.heap[p]? = some (.cells (stc s t (b ++ c).length).toArray 39 (0, 0)) ∧ wr.heap[g]? = some (.cells (v8 (blks M c j)) 35 (0, 0)))
    case atStart => exact ⟨0, a0, cap0, _, by omega, rfl, rfl, by rw [HM0.out]; omega, by simpa using HSL0.out, HO3.out, HP3.out, HG3.out⟩
    case round =>
      clear HO3 HP3 HG3 HSL0
      obtain ⟨j, a', cap', m', hj, rfl, rfl, hm', hS, hO, hP, hG⟩ := hrel
      have HSJ := hid hS
      have HO := hid hO
      have HP := hid hP
      have HG := hid hG
      have HME := hid hm'
      have HCAP : Hid (m' ≤ cap') := by apply hid; have := HSJ.out.cap; simp at this; omega
      have HJ := hid hj
      clear hS hO hP hG hm' hj
      by_cases hm : 64 ≤ m'
      · have hm1 : (64 : Int) ≤ (m' : Int) := by omega
        have hcap1 : (64 : Int) ≤ (cap' : Int) := by have := HCAP.out; omega
        have hs1 : ∀ W, (Instr.sliceAt 22 (.slice a' m' cap') none (some (.int .i64 64)) none).run Tryd.prog W = .ok (.slice a' 64 cap') W := fun W => slice_to a' m' cap' 64 (by have := HCAP.out; omega) W
        obtain ⟨a2, ha2⟩ : ∃ a2, a2 = (if cap' = 64 then a' else a'.map (·.add 64)) := ⟨_, rfl⟩
        have hs2 : ∀ W, (Instr.sliceAt 22 (.slice a' m' cap') (some (.int .i64 64)) none none).run Tryd.prog W = .ok (.slice a2 (m' - 64) (cap' - 64)) W := fun W => by rw [ha2]; exact slice_from a' m' cap' 64 hm W
        have HS2 : Hid (Sl w p a2 (cap' - 64) (c.drop (64 * (j + 1)))) := by apply hid; have := HSJ.out.cut 64; rw [List.drop_drop, ← ha2] at this; exact this
        clear ha2
        have hlen : 64 ≤ (c.drop (64 * j)).length := by have := HME.out; simp; omega
        obtain ⟨cb, co, rfl, hat, hne⟩ := HSJ.out.som (by omega)
        have HNX : Hid (blks M c (j + 1) = tk (blks M c j) ((c.drop (64 * j)).take 64)) := hid rfl
        have HAT : Hid (At w cb co ((c.drop (64 * j)).take 64)) := by apply hid; have := hat.sub 0 64; simpa using this
        have HNE := hid hne
        have HAL : Hid (((c.drop (64 * j)).take 64).length = 64) := by apply hid; rw [List.length_take]; omega
        have HJ1 : Hid (j + 1 ≤ q ∧ q - (j + 1) < q - j ∧ m' - 64 = c.length - 64 * (j + 1)) := by
          apply hid; have h1 := HME.out; have h2 := HQE.out; have h3 := HJ.out; omega
        clear hat hne hlen
        generalize blks M c j = X at HG HNX
        generalize (c.drop (64 * j)).take 64 = blk at HNX HAT HAL
        obtain ⟨Y, hY⟩ : ∃ Y, Y = tk X blk := ⟨_, rfl⟩
        have HY := hid hY
        rw [← hY] at HNX
        clear hY
        obtain ⟨_, d0, d1, d2, d3, d4, d5, d6, d7⟩ := eight_of_heap HG.out
        have HC : Hid (Calls Tryd.prog 20 #[.agg (v8 X), .slice (some ⟨cb, co, none⟩) 64 cap'] wr.drew fun en w6 => en = .returned (.agg (v8 Y)) ∧ Oth w p w6 ∧ w6.heap[p]? = some (.cells (stc s t (b ++ c).length).toArray 39 (0, 0)) ∧ w6.heap[g]? = some (.cells (v8 X) 35 (0, 0))) := by
          apply hid
          rw [HY.out]
          have hOd := HO.out.drew
          refine (takeIn_any X blk _ cb co cap' (hOd.at HAT.out HNE.out) HAL.out (by have := HCAP.out; omega) (hOd.kc HKC.out HP0.out)).mono ?_
          rintro e w6 ⟨rfl, hb⟩
          exact ⟨rfl, hOd.below hb, (hb.block _ (lt_of_block HP.out)).trans HP.out, (hb.block _ (lt_of_block HG.out)).trans HG.out⟩
        go_wp2_with fail
        go_region_with (first | (go_at_call 20; refine HC.out.mono ?_; rintro e w6 ⟨rfl, hO6, hP6, hG6⟩; have HO6 := hid hO6; have HP6 := hid hP6; have HG6 := hid hG6; obtain ⟨_, c0, c1, c2, c3, c4, c5, c6, c7⟩ := eight_of_heap hG6; have rf := fun o => frozen_of_heap hG6 o; clear hO6 hP6 hG6))
        all_goals
          rw [set8 HG6.out]
          have HO7 := hid (HO6.out.setRow' (v8 Y) HGG.out)
          have HP7 : Hid ((w6.setRow g (v8 Y)).heap[p]? = some (.cells (stc s t (b ++ c).length).toArray 39 (0, 0))) := by apply hid; rw [setRow_ne HGP.out]; exact HP6.out
          have HG7 : Hid ((w6.setRow g (v8 Y)).heap[g]? = some (.cells (v8 Y) 35 (0, 0))) := hid (setRow_same HG6.out)
          generalize w6.setRow g (v8 Y) = w7 at HO7 HP7 HG7 ⊢
          clear c0 c1 c2 c3 c4 c5 c6 c7 rf d0 d1 d2 d3 d4 d5 d6 d7 hs1
          go_wp2_with fail
          go_roundg (q - (j + 1))
          case measure => exact HJ1.out.2.1
          case rel => exact ⟨j + 1, a2, cap' - 64, m' - 64, HJ1.out.1, rfl, rfl, HJ1.out.2.2, HS2.out, HO7.out, HP7.out, by rw [HNX.out]; exact HG7.out⟩
      · have hm1 : ¬ (64 : Int) ≤ (m' : Int) := by omega
        have HJQ : Hid (j = q ∧ m' = c.length % 64) := by
          apply hid; have h1 := HME.out; have h2 := HQE.out; have h3 := HJ.out; omega
        obtain ⟨w9, hw9⟩ : ∃ w9, w9 = wr.setRow p (stc s (splice t 0 (c.drop (64 * j))) (b ++ c).length).toArray := ⟨_, rfl⟩
        have hdl : (c.drop (64 * j)).length = m' := by rw [List.length_drop]; exact HME.out.symm
        have hcp2 : (Builtin.copy_ #[22, 22] 3 #[.slice (some ⟨p, 8, none⟩) 64 64, .slice a' m' cap']).run Tryd.prog wr = .ok (.int .i64 (m' : Int)) w9 := by
          have hc := HSJ.out.cells HO.out m'
          rw [List.take_of_length_le (by omega)] at hc
          have hbl : (bys (c.drop (64 * j))).length = m' := by rw [List.length_map]; exact hdl
          rw [hw9, copy_row_run wr 22 22 3 5 (some ⟨p, 8, none⟩) a' 64 64 m' cap' Tryd.underlying22 Tryd.size5 p (8 + 0) (stc s t (b ++ c).length) 39 HP.out (bys (c.drop (64 * j))) (by rw [hbl]; exact (Nat.min_eq_left (by omega)).symm) (fun h0 => ⟨rfl, hc h0⟩) (by rw [hbl, stc_len, HT0.out]; omega) (bys_one _), hbl, stc_copy _ _ _ _ _ (by rw [hdl, HT0.out]; omega)]
          rfl
        have HO9 : Hid (Oth w p w9) := by apply hid; rw [hw9]; exact HO.out.setRow _
        have HP9 : Hid (w9.heap[p]? = some (.cells (stc s (splice t 0 (c.drop (64 * j))) (b ++ c).length).toArray 39 (0, 0))) := by apply hid; rw [hw9]; exact setRow_same HP.out
        have HG9 : Hid (w9.heap[g]? = some (.cells (v8 (blks M c j)) 35 (0, 0))) := by apply hid; rw [hw9, setRow_ne (fun e => HGP.out e.symm)]; exact HG.out
        have HT9 : Hid ((splice t 0 (c.drop (64 * j))).length = 64) := by apply hid; rw [length_splice _ _ _ (by rw [hdl, HT0.out]; omega)]; exact HT0.out
        have HTK : Hid ((splice t 0 (c.drop (64 * j))).take (c.length % 64) = c.drop (64 * (c.length / 64))) := by
          apply hid
          have h1 := splice_take t 0 (c.drop (64 * j)) (by rw [hdl, HT0.out]; omega)
          rw [hdl, Nat.zero_add, List.take_zero, List.nil_append, HJQ.out.2] at h1
          rw [h1, HJQ.out.1, HQE.out]
        have HMB : Hid (blks M c j = mid (b ++ c)) := by apply hid; rw [HJQ.out.1, HQE.out]; exact HGO.out.mid.symm
        clear hw9
        generalize splice t 0 (c.drop (64 * j)) = t9 at HP9 HT9 HTK
        rw [HMB.out] at HG9
        generalize mid (b ++ c) = Y at HG9 HMB
        obtain ⟨_, d0, d1, d2, d3, d4, d5, d6, d7⟩ := eight_of_heap HG9.out
        obtain ⟨_, c0, c1, c2, c3, c4, c5, c6, c7⟩ := stc_eight HP9.out
        have rf := fun o => frozen_of_heap HP9.out o
        go_wp2_with fail
        rw [set8' HP9.out]
        refine bodyPost_end (results_none rfl _ _ _) rfl ?_
        refine ⟨rfl, ⟨Y, t9, setRow_same HP9.out, HT9.out, fun _ => ?_, ?_⟩, HO9.out.setRow _⟩
        · rw [← HMB.out, HGO.out.mid, HJQ.out.1, HQE.out]
        · rw [HGO.out.rm, HTK.out, HGO.out.tl]
  · obtain ⟨R, hR⟩ : ∃ R : Int, R = (r : Int) := ⟨_, rfl⟩
    have hR1 : (0 : Int) < R := by omega
    have HRI := hid hR
    rw [← hR]
    have HR1 := hid hr1
    clear hr1 hR
    clear hr0
    go_upto_region 4 with fail
    rw [HRI.out]
    have hr1 := HR1.out
    clear hR1
    have hsl0 := slice_arr_from p 8 r (by omega)
    obtain ⟨g, hg⟩ : ∃ g, g = w2.heap.size := ⟨_, rfl⟩
    have HGP : Hid (p ≠ g) := by apply hid; omega
    have HGG : Hid (w.heap.size ≤ g) := by apply hid; rw [hg]; exact HB1.out.size
    have HCNT : Hid ((stc s t b.length).toArray.setIfInBounds 72 (.int .u64 ((L : Int) + (n : Int))) = (stc s t (b ++ c).length).toArray) := by
      apply hid
      rw [show (L : Int) + (n : Int) = (((b ++ c).length : Nat) : Int) by rw [List.length_append, HLL.out, HN.out]; simp, stc_count _ _ _ _ HS.out.len]
    have HPW : Hid (((w2.setCell ⟨p, 72, none⟩ (.int .u64 ((L : Int) + (n : Int)))).alloc (.cells (v8 M) 35)).heap[p]? = some (.cells (stc s t (b ++ c).length).toArray 39 (0, 0))) := by
      apply hid; rw [Below.heap_alloc _ _ _ (by simpa [World.setCell] using hplt), heap_setCell_same HS1.out.blk, HCNT.out]
    have HGW : Hid (((w2.setCell ⟨p, 72, none⟩ (.int .u64 ((L : Int) + (n : Int)))).alloc (.cells (v8 M) 35)).heap[g]? = some (.cells (v8 M) 35 (0, 0))) := by
      apply hid; have := heap_alloc_new (w2.setCell ⟨p, 72, none⟩ (.int .u64 ((L : Int) + (n : Int)))) (.cells (v8 M) 35); rw [show (w2.setCell ⟨p, 72, none⟩ (.int .u64 ((L : Int) + (n : Int)))).heap.size = g by rw [hg]; simp [World.setCell]] at this; exact this
    have HOW : Hid (Oth w p ((w2.setCell ⟨p, 72, none⟩ (.int .u64 ((L : Int) + (n : Int)))).alloc (.cells (v8 M) 35))) := hid ((((Oth.refl w p).below HB1.out).setCell 72 _).below (below_alloc_self' _ _))
    have HTL := hid HS.out.len
    have HCP : Hid (∀ k, k = min n (64 - r) → (Builtin.copy_ #[22, 22] 3 #[.slice (some ⟨p, 8 + r, none⟩) (64 - r) (64 - r), .slice a n cap]).run Tryd.prog ((w2.setCell ⟨p, 72, none⟩ (.int .u64 ((L : Int) + (n : Int)))).alloc (.cells (v8 M) 35)) = .ok (.int .i64 (k : Int)) (((w2.setCell ⟨p, 72, none⟩ (.int .u64 ((L : Int) + (n : Int)))).alloc (.cells (v8 M) 35)).setRow p (stc s (splice t r (c.take k)) (b ++ c).length).toArray)) := by
      apply hid
      intro k hk
      have hn := HN.out
      have hbl : (bys (c.take k)).length = k := by rw [List.length_map, List.length_take]; omega
      have hck : (c.take k).length = k := by rw [List.length_take]; omega
      have hc := HSL.out.cells HOW.out k
      rw [copy_row_run _ 22 22 3 5 (some ⟨p, 8 + r, none⟩) a (64 - r) (64 - r) n cap Tryd.underlying22 Tryd.size5 p (8 + r) (stc s t (b ++ c).length) 39 HPW.out (bys (c.take k)) (by rw [hbl]; exact hk) (fun h0 => ⟨rfl, hc h0⟩) (by rw [hbl, stc_len, HTL.out]; omega) (bys_one _), hbl, stc_copy _ _ _ _ _ (by rw [hck, HTL.out]; omega)]
      rfl
    rw [← hg]
    generalize (w2.setCell ⟨p, 72, none⟩ (.int .u64 ((L : Int) + (n : Int)))).alloc (.cells (v8 M) 35) = W0 at HPW HGW HOW HCP ⊢
    clear hg hcnt hfz hplt
    by_cases hfew : r + n < 64
    · have hfew' : (r : Int) + (n : Int) < 64 := by omega
      obtain ⟨w3, hw3⟩ : ∃ w3, w3 = W0.setRow p (stc s (splice t r (c.take n)) (b ++ c).length).toArray := ⟨_, rfl⟩
      have hcp := HCP.out n (by omega)
      rw [← hw3] at hcp
      have HP3 : Hid (w3.heap[p]? = some (.cells (stc s (splice t r (c.take n)) (b ++ c).length).toArray 39 (0, 0))) := by apply hid; rw [hw3]; exact setRow_same HPW.out
      have HO3 : Hid (Oth w p w3) := by apply hid; rw [hw3]; exact HOW.out.setRow _
      have HFEW := hid hfew
      clear hw3 HCP hfew
      go_wp2_with fail
      refine bodyPost_ret (results_none rfl _ _ _) rfl ?_
      have hn := HN.out
      have hcn : c.take n = c := List.take_of_length_le (by omega)
      rw [hcn] at HP3
      obtain ⟨f1, f2, f3⟩ := goes_few b c r HR.out (by have := HFEW.out; omega)
      have h64 : r + c.length ≤ t.length := by rw [HTL.out]; have := HFEW.out; omega
      refine ⟨rfl, ⟨s, _, HP3.out, ?_, fun h => ?_, ?_⟩, HO3.out⟩
      · rw [length_splice _ _ _ h64]; exact HTL.out
      · rw [f1]; exact HS.out.mid (by have := HR.out; have := HFEW.out; rw [List.length_append] at h; omega)
      · have ht := HS.out.tl
        rw [f2, f3, splice_take t r c h64, ← ht, HR.out]
    · obtain ⟨k, hk⟩ : ∃ k, k = 64 - r := ⟨_, rfl⟩
      have hk1 : ¬ (r : Int) + (k : Int) < 64 := by omega
      have hk2 : (r : Int) + (k : Int) = 64 := by omega
      have hkn : k ≤ n := by omega
      obtain ⟨e, he⟩ : ∃ e, e = c.drop k := ⟨_, rfl⟩
      obtain ⟨n0, hn0⟩ : ∃ n0, n0 = n - k := ⟨_, rfl⟩
      obtain ⟨a0, ha0⟩ : ∃ a0, a0 = (if cap = k then a else a.map (·.add k)) := ⟨_, rfl⟩
      obtain ⟨cap0, hcap0⟩ : ∃ cap0, cap0 = cap - k := ⟨_, rfl⟩
      have hs7 : ∀ W, (Instr.sliceAt 22 (.slice a n cap) (some (.int .i64 (k : Int))) none none).run Tryd.prog W = .ok (.slice a0 n0 cap0) W := fun W => by rw [ha0, hn0, hcap0]; exact slice_from a n cap k hkn W
      have HSL0 : Hid (Sl w p a0 cap0 e) := by apply hid; rw [ha0, hcap0, he]; exact HSL.out.cut k
      have HM0 : Hid (n0 = e.length) := by apply hid; rw [hn0, he, List.length_drop, HN.out]
      obtain ⟨t1, ht1⟩ : ∃ t1, t1 = splice t r (c.take k) := ⟨_, rfl⟩
      have HCK : Hid ((c.take k).length = k) := by apply hid; rw [List.length_take]; have := HN.out; omega
      have HT1 : Hid (t1.length = 64) := by apply hid; rw [ht1, length_splice _ _ _ (by rw [HCK.out, HTL.out]; omega)]; exact HTL.out
      have HTE : Hid (t1 = b.drop (64 * (b.length / 64)) ++ c.take (64 - r)) := by
        apply hid
        have h1 := splice_take t r (c.take k) (by rw [HCK.out, HTL.out]; omega)
        rw [HCK.out, show r + k = 64 by omega, List.take_of_length_le (by rw [← ht1, HT1.out]; exact Nat.le_refl _)] at h1
        have ht := HS.out.tl
        rw [← HR.out] at ht
        rw [ht1, h1, ht, hk]
      obtain ⟨w3, hw3⟩ : ∃ w3, w3 = W0.setRow p (stc s t1 (b ++ c).length).toArray := ⟨_, rfl⟩
      have hcp := HCP.out k (by omega)
      rw [← ht1, ← hw3] at hcp
      have HPA : Hid (w3.heap[p]? = some (.cells (stc s t1 (b ++ c).length).toArray 39 (0, 0))) := by apply hid; rw [hw3]; exact setRow_same HPW.out
      have HGA : Hid (w3.heap[g]? = some (.cells (v8 M) 35 (0, 0))) := by apply hid; rw [hw3, setRow_ne (fun e => HGP.out e.symm)]; exact HGW.out
      have HOA : Hid (Oth w p w3) := by apply hid; rw [hw3]; exact HOW.out.setRow _
      obtain ⟨M1, hM1⟩ : ∃ M1, M1 = tk M t1 := ⟨_, rfl⟩
      have HGO : Hid (Goes b c M1 e) := by
        apply hid
        have h1 := goes_some b c r HR.out (by have := HN.out; omega)
        rw [← HM.out, ← HTE.out, ← hM1, ← hk, ← he] at h1
        exact h1
      have HC : Hid (Calls Tryd.prog 20 #[.agg (v8 M), .slice (some ⟨p, 8, none⟩) 64 64] w3.drew fun en w6 => en = .returned (.agg (v8 M1)) ∧ Oth w p w6 ∧ w6.heap[p]? = some (.cells (stc s t1 (b ++ c).length).toArray 39 (0, 0)) ∧ w6.heap[g]? = some (.cells (v8 M) 35 (0, 0))) := by
        apply hid
        rw [hM1]
        have hOd := HOA.out.drew
        refine (takeIn_any M t1 _ p 8 64 (stc_at (w := w3.drew) HPA.out HT1.out) HT1.out (by decide) (hOd.kc HKC.out HP0.out)).mono ?_
        rintro e w6 ⟨rfl, hb⟩
        exact ⟨rfl, hOd.below hb, (hb.block _ (lt_of_block HPA.out)).trans HPA.out, (hb.block _ (lt_of_block HGA.out)).trans HGA.out⟩
      obtain ⟨_, d0, d1, d2, d3, d4, d5, d6, d7⟩ := eight_of_heap HGA.out
      clear hw3 HCP hfew hk he hn0 ha0 hcap0 ht1 hM1 hkn
      go_wp2_with fail
      clear hcp hsl0
      go_region_with (first | (go_at_call 20; refine HC.out.mono ?_; rintro e w6 ⟨rfl, hO6, hP6, hG6⟩; have HO6 := hid hO6; have HP6 := hid hP6; have HG6 := hid hG6; obtain ⟨_, c0, c1, c2, c3, c4, c5, c6, c7⟩ := eight_of_heap hG6; have rf := fun o => frozen_of_heap hG6 o; clear hO6 hP6 hG6))
      all_goals
        rw [set8 HG6.out]
        have HO3 := hid (HO6.out.setRow' (v8 M1) HGG.out)
        have HP3 : Hid ((w6.setRow g (v8 M1)).heap[p]? = some (.cells (stc s t1 (b ++ c).length).toArray 39 (0, 0))) := by apply hid; rw [setRow_ne HGP.out]; exact HP6.out
        have HG3 : Hid ((w6.setRow g (v8 M1)).heap[g]? = some (.cells (v8 (blks M1 e 0)) 35 (0, 0))) := hid (setRow_same HG6.out)
        generalize w6.setRow g (v8 M1) = w7 at HO3 HP3 HG3 ⊢
        clear c0 c1 c2 c3 c4 c5 c6 c7 rf d0 d1 d2 d3 d4 d5 d6 d7 HC HPA HGA HOA HPW HGW HOW
        go_wp2_with fail
        have HT0 := HT1
        have HQ : Hid (e.length / 64 * 64 ≤ e.length ∧ e.length - 64 * (e.length / 64) < 64) := by apply hid; omega
        obtain ⟨q, hq⟩ : ∃ q, q = e.length / 64 := ⟨_, rfl⟩
        have HQE := hid hq
        clear hq
        go_loopg [1] q (fun gg v1 wr => ∃ j a' cap' m', j ≤ q ∧ gg = q - j ∧ v1 = .slice a' m' cap' ∧ m' = e.length - 64 * j ∧ Sl w p a' cap' (e.drop (64 * j)) ∧ Oth w p wr ∧ wr.heap[p]? = some (.cells (stc s t1 (b ++ c).length).toArray 39 (0, 0)) ∧ wr.heap[g]? = some (.cells (v8 (blks M1 e j)) 35 (0, 0)))
        case atStart => exact ⟨0, a0, cap0, _, by omega, rfl, rfl, by rw [HM0.out]; omega, by simpa using HSL0.out, HO3.out, HP3.out, HG3.out⟩
        case round =>
          clear HO3 HP3 HG3 HSL0
          obtain ⟨j, a', cap', m', hj, rfl, rfl, hm', hS, hO, hP, hG⟩ := hrel
          have HSJ := hid hS
          have HO := hid hO
          have HP := hid hP
          have HG := hid hG
          have HME := hid hm'
          have HCAP : Hid (m' ≤ cap') := by apply hid; have := HSJ.out.cap; simp at this; omega
          have HJ := hid hj
          clear hS hO hP hG hm' hj
          by_cases hm : 64 ≤ m'
          · have hm1 : (64 : Int) ≤ (m' : Int) := by omega
            have hcap1 : (64 : Int) ≤ (cap' : Int) := by have := HCAP.out; omega
            have hs1 : ∀ W, (Instr.sliceAt 22 (.slice a' m' cap') none (some (.int .i64 64)) none).run Tryd.prog W = .ok (.slice a' 64 cap') W := fun W => slice_to a' m' cap' 64 (by have := HCAP.out; omega) W
            obtain ⟨a2, ha2⟩ : ∃ a2, a2 = (if cap' = 64 then a' else a'.map (·.add 64)) := ⟨_, rfl⟩
            have hs2 : ∀ W, (Instr.sliceAt 22 (.slice a' m' cap') (some (.int .i64 64)) none none).run Tryd.prog W = .ok (.slice a2 (m' - 64) (cap' - 64)) W := fun W => by rw [ha2]; exact slice_from a' m' cap' 64 hm W
            have HS2 : Hid (Sl w p a2 (cap' - 64) (e.drop (64 * (j + 1)))) := by apply hid; have := HSJ.out.cut 64; rw [List.drop_drop, ← ha2] at this; exact this
            clear ha2
            have hlen : 64 ≤ (e.drop (64 * j)).length := by have := HME.out; simp; omega
            obtain ⟨cb, co, rfl, hat, hne⟩ := HSJ.out.som (by omega)
            have HNX : Hid (blks M1 e (j + 1) = tk (blks M1 e j) ((e.drop (64 * j)).take 64)) := hid rfl
            have HAT : Hid (At w cb co ((e.drop (64 * j)).take 64)) := by apply hid; have := hat.sub 0 64; simpa using this
            have HNE := hid hne
            have HAL : Hid (((e.drop (64 * j)).take 64).length = 64) := by apply hid; rw [List.length_take]; omega
            have HJ1 : Hid (j + 1 ≤ q ∧ q - (j + 1) < q - j ∧ m' - 64 = e.length - 64 * (j + 1)) := by
              apply hid; have h1 := HME.out; have h2 := HQE.out; have h3 := HJ.out; omega
            clear hat hne hlen
            generalize blks M1 e j = X at HG HNX
            generalize (e.drop (64 * j)).take 64 = blk at HNX HAT HAL
            obtain ⟨Y, hY⟩ : ∃ Y, Y = tk X blk := ⟨_, rfl⟩
            have HY := hid hY
            rw [← hY] at HNX
            clear hY
            obtain ⟨_, d0, d1, d2, d3, d4, d5, d6, d7⟩ := eight_of_heap HG.out
            have HC : Hid (Calls Tryd.prog 20 #[.agg (v8 X), .slice (some ⟨cb, co, none⟩) 64 cap'] wr.drew fun en w6 => en = .returned (.agg (v8 Y)) ∧ Oth w p w6 ∧ w6.heap[p]? = some (.cells (stc s t1 (b ++ c).length).toArray 39 (0, 0)) ∧ w6.heap[g]? = some (.cells (v8 X) 35 (0, 0))) := by
              apply hid
              rw [HY.out]
              have hOd := HO.out.drew
              refine (takeIn_any X blk _ cb co cap' (hOd.at HAT.out HNE.out) HAL.out (by have := HCAP.out; omega) (hOd.kc HKC.out HP0.out)).mono ?_
              rintro e w6 ⟨rfl, hb⟩
              exact ⟨rfl, hOd.below hb, (hb.block _ (lt_of_block HP.out)).trans HP.out, (hb.block _ (lt_of_block HG.out)).trans HG.out⟩
            go_wp2_with fail
            go_region_with (first | (go_at_call 20; refine HC.out.mono ?_; rintro e w6 ⟨rfl, hO6, hP6, hG6⟩; have HO6 := hid hO6; have HP6 := hid hP6; have HG6 := hid hG6; obtain ⟨_, c0, c1, c2, c3, c4, c5, c6, c7⟩ := eight_of_heap hG6; have rf := fun o => frozen_of_heap hG6 o; clear hO6 hP6 hG6))
            all_goals
              rw [set8 HG6.out]
              have HO7 := hid (HO6.out.setRow' (v8 Y) HGG.out)
              have HP7 : Hid ((w6.setRow g (v8 Y)).heap[p]? = some (.cells (stc s t1 (b ++ c).length).toArray 39 (0, 0))) := by apply hid; rw [setRow_ne HGP.out]; exact HP6.out
              have HG7 : Hid ((w6.setRow g (v8 Y)).heap[g]? = some (.cells (v8 Y) 35 (0, 0))) := hid (setRow_same HG6.out)
              generalize w6.setRow g (v8 Y) = w7 at HO7 HP7 HG7 ⊢
              clear c0 c1 c2 c3 c4 c5 c6 c7 rf d0 d1 d2 d3 d4 d5 d6 d7 hs1
              go_wp2_with fail
              go_roundg (q - (j + 1))
              case measure => exact HJ1.out.2.1
              case rel => exact ⟨j + 1, a2, cap' - 64, m' - 64, HJ1.out.1, rfl, rfl, HJ1.out.2.2, HS2.out, HO7.out, HP7.out, by rw [HNX.out]; exact HG7.out⟩
          · have hm1 : ¬ (64 : Int) ≤ (m' : Int) := by omega
            have HJQ : Hid (j = q ∧ m' = e.length % 64) := by
              apply hid; have h1 := HME.out; have h2 := HQE.out; have h3 := HJ.out; omega
            obtain ⟨w9, hw9⟩ : ∃ w9, w9 = wr.setRow p (stc s (splice t1 0 (e.drop (64 * j))) (b ++ c).length).toArray := ⟨_, rfl⟩
            have hdl : (e.drop (64 * j)).length = m' := by rw [List.length_drop]; exact HME.out.symm
            have hcp2 : (Builtin.copy_ #[22, 22] 3 #[.slice (some ⟨p, 8, none⟩) 64 64, .slice a' m' cap']).run Tryd.prog wr = .ok (.int .i64 (m' : Int)) w9 := by
              have hc := HSJ.out.cells HO.out m'
              rw [List.take_of_length_le (by omega)] at hc
              have hbl : (bys (e.drop (64 * j))).length = m' := by rw [List.length_map]; exact hdl
              rw [hw9, copy_row_run wr 22 22 3 5 (some ⟨p, 8, none⟩) a' 64 64 m' cap' Tryd.underlying22 Tryd.size5 p (8 + 0) (stc s t1 (b ++ c).length) 39 HP.out (bys (e.drop (64 * j))) (by rw [hbl]; exact (Nat.min_eq_left (by omega)).symm) (fun h0 => ⟨rfl, hc h0⟩) (by rw [hbl, stc_len, HT0.out]; omega) (bys_one _), hbl, stc_copy _ _ _ _ _ (by rw [hdl, HT0.out]; omega)]
              rfl
            have HO9 : Hid (Oth w p w9) := by apply hid; rw [hw9]; exact HO.out.setRow _
            have HP9 : Hid (w9.heap[p]? = some (.cells (stc s (splice t1 0 (e.drop (64 * j))) (b ++ c).length).toArray 39 (0, 0))) := by apply hid; rw [hw9]; exact setRow_same HP.out
            have HG9 : Hid (w9.heap[g]? = some (.cells (v8 (blks M1 e j)) 35 (0, 0))) := by apply hid; rw [hw9, setRow_ne (fun e => HGP.out e.symm)]; exact HG.out
            have HT9 : Hid ((splice t1 0 (e.drop (64 * j))).length = 64) := by apply hid; rw [length_splice _ _ _ (by rw [hdl, HT0.out]; omega)]; exact HT0.out
            have HTK : Hid ((splice t1 0 (e.drop (64 * j))).take (e.length % 64) = e.drop (64 * (e.length / 64))) := by
              apply hid
              have h1 := splice_take t1 0 (e.drop (64 * j)) (by rw [hdl, HT0.out]; omega)
              rw [hdl, Nat.zero_add, List.take_zero, List.nil_append, HJQ.out.2] at h1
              rw [h1, HJQ.out.1, HQE.out]
            have HMB : Hid (blks M1 e j = mid (b ++ c)) := by apply hid; rw [HJQ.out.1, HQE.out]; exact HGO.out.mid.symm
            clear hw9
            generalize splice t1 0 (e.drop (64 * j)) = t9 at HP9 HT9 HTK
            rw [HMB.out] at HG9
            generalize mid (b ++ c) = Y at HG9 HMB
            obtain ⟨_, d0, d1, d2, d3, d4, d5, d6, d7⟩ := eight_of_heap HG9.out
            obtain ⟨_, c0, c1, c2, c3, c4, c5, c6, c7⟩ := stc_eight HP9.out
            have rf := fun o => frozen_of_heap HP9.out o
            go_wp2_with fail
            rw [set8' HP9.out]
            refine bodyPost_end (results_none rfl _ _ _) rfl ?_
            refine ⟨rfl, ⟨Y, t9, setRow_same HP9.out, HT9.out, fun _ => ?_, ?_⟩, HO9.out.setRow _⟩
            · rw [← HMB.out, HGO.out.mid, HJQ.out.1, HQE.out]
            · rw [HGO.out.rm, HTK.out, HGO.out.tl]
end Go.Proofs.YtkeppcpplkdkaaaDoor
