/- What may be wrong with a text: the last two faults. -/
import Derived.Test.YtelfogdcijmenaaDoorFlt
namespace Go.Proofs.YtelfogdcijmenaaDoor
open Go.RowKit

theorem clone_any (s : Bs) (w : World) (hm : s.length ≤ 140737488355328) : Calls Tryd.prog 40 #[St s] w fun e w' => e = .returned (St s) ∧ Below w.heap.size w w' := by
  have HC := hid (Tryd.stringslite_Clone ⟨s.toArray⟩ w (by rw [st_size]; omega))
  go_enter Tryd.func40, Tryd.ntmps40
  go_wp2_with fail
  refine HC.out.mono ?_
  rintro e w1 ⟨rfl, hb⟩
  have HB := hid hb
  clear hb
  go_wp2_with fail
  go_ret
  exact ⟨rfl, HB.out⟩
theorem lower_any (s : Bs) (w : World) (hm : s.length ≤ 140737488355328) (ha : ∀ c ∈ s, c.toNat < 128) : Calls Tryd.prog 38 #[St s] w fun e w' => e = .returned (St (low s)) ∧ Below w.heap.size w w' := by
  have h := Tryd.strings_ToLower_ascii ⟨s.toArray⟩ w (by rw [st_size]; exact hm) (fun j b hb => by
    have : b ∈ s := by
      have := List.mem_of_getElem? hb
      simpa using this
    exact ha b this)
  have e : Lib.toLowerA (⟨s.toArray⟩ : ByteArray).data.toList = low s := by rw [lower_low]
  rw [e] at h
  exact h
theorem ascii_of {s l : Bs} (h : s.any outB = false) (hl : ∀ c ∈ l, c ∈ s) : ∀ c ∈ l, c.toNat < 128 := by
  intro c hc
  have h1 := List.any_eq_false.1 h c (hl c hc)
  simp [outB] at h1
  omega
theorem tail_mem {s : Bs} : ∀ c ∈ tailB s, c ∈ s := by
  intro c hc
  unfold tailB at hc
  rw [List.mem_reverse] at hc
  have := (List.takeWhile_sublist (fun c : UInt8 => c != 49) (l := s.reverse)).subset hc
  simpa using this
theorem head_mem {s : Bs} : ∀ c ∈ headB s, c ∈ s := fun _ hc => List.mem_of_mem_take hc
theorem words_len (s : Bs) : (wordsB s).length = (tailB s).length := by unfold wordsB low; simp
theorem low_len (s : Bs) : (low s).length = s.length := by unfold low; simp
theorem Mx.set {w : World} (h : Mx w) {g k : Nat} (hg : 0 < g) (v : Value) : Mx (w.setCell ⟨g, k, none⟩ v) := by
  obtain ⟨e, fr, h1⟩ := h
  exact ⟨e, fr, by rw [Below.heap_setCell _ _ _ _ (by show 0 ≠ g; omega)]; exact h1⟩
set_option maxRecDepth 100000 in
set_option maxHeartbeats 2000000 in
theorem fault5 {w : World} {B bH : Nat} {s : Bs} {W : World} (h : Dc w B bH s 5 W) : FaultOk w B bH s 5 W := by
  have hc := h.tc
  have HD := hid h
  have h0 := h.pass 0 (by omega)
  have h1 := h.pass 1 (by omega)
  have hsl : s.length ≤ 32768 := by simpa [test] using h0
  have htl := tail_len s
  have HL := hid (lower_any (tailB s) W (by omega) (ascii_of h1 tail_mem))
  have HW := hid (fun W' => wof_any (low (tailB s)) W' (by rw [low_len]; omega))
  have hwl := words_len s
  obtain ⟨n, hn⟩ : ∃ n, n = (wordsB s).length := ⟨_, rfl⟩
  have e1 : (low (tailB s)).length = n := by rw [hn, hwl, low_len]
  have e2 : (low (tailB s)).map wordOf = wordsB s := rfl
  rw [e1, e2] at HW
  have HN := hid hn
  have hn6 : n ≤ 32768 := by omega
  have HNW := hid (fun W' v (hs : Sl W' v (wordsB s)) => has_nw (wordsB s) v W' hs (by omega))
  have HT : Hid (test s 5 = (wordsB s).any nwB) := hid rfl
  rw [← HT.out] at HNW
  have HHS : Hid (bH + 4 ≤ W.heap.size) := hid (by have := lt_of_block h.fC; omega)
  have hwn := h.wN (by omega)
  have hwn0 := frozen_of_heap hwn 0
  have HLB := hid h.lB
  have HLT := hid h.lt
  show Calls Tryd.prog 36 #[pt (bH + 1), pt (bH + 2)] W _
  obtain ⟨b, hb⟩ : ∃ b, b = test s 5 := ⟨_, rfl⟩
  rw [← hb] at HNW ⊢
  have HBB := hid hb
  clear h h0 h1 hwl hn e1 e2 htl hb
  go_enter Tryd.func36, Tryd.ntmps36
  go_wp2_with fail
  refine HL.out.mono ?_
  rintro e w1 ⟨rfl, hb1⟩
  have HB1 := hid hb1
  clear hb1 hc
  go_wp2_with fail
  refine (HW.out w1).mono ?_
  rintro e w2 ⟨a2, c2, rfl, ho2, hb2⟩
  have HB2 := hid (two_below HB1.out hb2)
  have HO2 := hid (own_mono ho2 (Nat.le_trans HHS.out HB1.out.size))
  have hw2 : w2.heap[bH + 2]? = some (.cells #[.slice none 0 0] 22 (0, 0)) := (HB2.out.block _ (by have := HHS.out; omega)).trans hwn
  have hcc : w2.cell? ⟨bH + 2, 0, none⟩ = some (.slice none 0 0) := by rw [cell_of_heap hw2]; rfl
  have hfz : w2.frozen? ⟨bH + 2, 0, none⟩ = false := frozen_of_heap hw2 0
  have HS3 : Hid ((w2.setCell ⟨bH + 2, 0, none⟩ (.slice a2 n c2)).heap[bH + 2]? = some (.cells #[.slice a2 n c2] 22 (0, 0))) := hid (by rw [heap_setCell_same hw2]; rfl)
  have HO3 := hid (ownsRow_same (w' := w2.setCell ⟨bH + 2, 0, none⟩ (.slice a2 n c2)) HO2.out (fun g hg => Below.heap_setCell _ _ _ _ (by have := (HO2.out.lt g hg).1; show g ≠ bH + 2; omega)))
  clear ho2 hb2 hwn hwn0 hw2
  go_wp2_with fail
  have HFR := hid ((Fr.of_below (bH := bH) HB2.out).trans (Fr.set2 w2 (.slice a2 n c2)))
  have HBW := hid (below_set (HD.out.bel.trans (HB2.out.mono HD.out.bel.size)) (by have := HLB.out; have := HLT.out; omega : w.heap.size ≤ bH + 2) 0 (.slice a2 n c2))
  have HMX := hid ((HD.out.mix.below HB2.out).set (g := bH + 2) (k := 0) (by omega) (.slice a2 n c2))
  refine (HNW.out _ _ (Sl.own HO3.out HN.out)).mono ?_
  rintro e w3 ⟨rfl, rfl⟩
  go_wp2_with fail
  go_ret
  refine ⟨rfl, HFR.out, HBW.out, fun ht => ?_⟩
  have keep : ∀ k, k < W.heap.size → k ≠ bH + 2 → (w2.setCell ⟨bH + 2, 0, none⟩ (.slice a2 n c2)).heap[k]? = W.heap[k]? := fun k hk hkn => (Below.heap_setCell _ _ _ _ hkn).trans (HB2.out.block k hk)
  have hD := HD.out
  have hh := HHS.out
  have hlt := HLT.out
  refine ⟨hD.lB, hD.lt, (keep _ (by omega) (by omega)).trans hD.sC, ?_, (keep _ (by omega) (by omega)).trans hD.tC, fun h6 => by omega, fun _ => ⟨a2, c2, by rw [← HN.out]; exact HS3.out, by rw [← HN.out]; exact HO3.out⟩, (keep _ (by omega) (by omega)).trans hD.fC, fun j hj => ?_, HBW.out, HMX.out⟩
  · rw [if_pos (by omega)]
    have h9 := hD.hC
    rw [if_pos (by omega)] at h9
    exact (keep _ (by omega) (by omega)).trans h9
  · by_cases e : j = 5
    · rw [e, ← HBB.out]; exact ht
    · exact hD.pass j (by omega)
end Go.Proofs.YtelfogdcijmenaaDoor
