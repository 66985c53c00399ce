/- The words that make a check right. -/
import Derived.Test.YtelfogdcijmenaaDoorChk
namespace Go.Proofs.YtelfogdcijmenaaDoor
open Go.RowKit

/-- the first digits, the others 0 -/
def part (c i : Nat) : Bs := (closeW c).take i ++ List.replicate (6 - i) 0
theorem part_set (c i : Nat) (h : i < 6) : (bcs (part c i)).toArray.setIfInBounds i (By (dig c i)) = (bcs (part c (i + 1))).toArray := by
  have : i = 0 ∨ i = 1 ∨ i = 2 ∨ i = 3 ∨ i = 4 ∨ i = 5 := by omega
  rcases this with rfl | rfl | rfl | rfl | rfl | rfl <;> rfl
theorem part_len (c i : Nat) (h : i ≤ 6) : (part c i).length = 6 := by unfold part closeW; simp; omega
theorem make6 (W : World) : (Instr.makeSlice 22 (.int .i64 6) (.int .i64 6)).run Tryd.prog W = .ok (.slice (some ⟨W.heap.size, 0, none⟩) 6 6) (W.alloc (.cells (bcs zeros).toArray 5)) := by kernel_rfl
set_option maxRecDepth 100000 in
set_option maxHeartbeats 4000000 in
theorem closing_any (h ws : Bs) (v : Value) (w : World) (hs : Sl w v ws) (hm : ws.length ≤ 1000000) (hh : h.length ≤ 1000000) (hx : Mx w) :
    Calls Tryd.prog 25 #[St h, v] w fun e w' => ∃ ao cap, e = .returned (.slice ao 6 cap) ∧ w'.ownsRow w.heap.size 5 1 (.slice ao 6 cap) 6 (bcs (encW h ws)) ∧ Below w.heap.size w w' := by
  have HS := hid hs
  have HX := hid hx
  obtain ⟨aw, cw, rfl⟩ := hs.shape
  have hb1 := (Below.refl w.heap.size w).alloc (Nat.le_refl _) (.cells (bcs zeros).toArray 5)
  have hn1 := heap_alloc_new w (.cells (bcs zeros).toArray 5)
  have hz1 : Sl (w.alloc (.cells (bcs zeros).toArray 5)) (.slice (some ⟨w.heap.size, 0, none⟩) 6 6) zeros := by
    refine Or.inr ⟨_, _, rfl, by decide, fun _ => ⟨rfl, by simp⟩, fun i hi => ?_⟩
    rw [add_plain, cell_of_heap hn1, Nat.zero_add]
    simpa using bcs_get hi
  have hmk := make6
  obtain ⟨hl, hhl⟩ : ∃ k, k = (headW h).length := ⟨_, rfl⟩
  obtain ⟨n, hn⟩ : ∃ n, n = ws.length := ⟨_, rfl⟩
  have HHL := hid hhl
  have HN := hid hn
  have HM := hid hm
  rw [← hn]
  generalize hw1 : w.alloc (.cells (bcs zeros).toArray 5) = w1 at *
  have HW1 := hid hw1
  have HZ1 := hid hz1
  have HB1 := hid hb1
  have HN1 := hid hn1
  have hmk' := hmk w
  rw [hw1] at hmk'
  clear hs hx hm hmk hw1 hz1 hb1 hn1 hhl hn
  go_enter Tryd.func25, Tryd.ntmps25
  go_wp2_with fail
  refine (hw_any h w1 hh).mono ?_
  rintro e w2 ⟨a2, c2, rfl, ho2, hb2⟩
  rw [← HHL.out] at ho2 ⊢
  have hs2 := Sl.own ho2 HHL.out
  have HB2 := hid (two_below HB1.out hb2)
  have hsw := HS.out.below HB2.out
  rw [← HN.out] at hsw
  have HS3 := hid (sls3 w2 _ _ _ _ _ _ hs2 hsw (HZ1.out.below hb2))
  have HN2 : Hid (w2.heap[w.heap.size]? = some (.cells (bcs zeros).toArray 5 (0, 0))) := hid ((hb2.block _ (lt_of_block HN1.out)).trans HN1.out)
  have HB3 := hid (HB2.out.alloc HB2.out.size (.cells #[.slice a2 hl c2, .slice aw n cw, .slice (some ⟨w.heap.size, 0, none⟩) 6 6] 22))
  have HN3 := hid (((Below.refl w2.heap.size w2).alloc (Nat.le_refl _) (.cells #[.slice a2 hl c2, .slice aw n cw, .slice (some ⟨w.heap.size, 0, none⟩) 6 6] 22)).block _ (lt_of_block HN2.out) |>.trans HN2.out)
  clear ho2 hb2 hs2 hsw hmk'
  go_wp2_with fail
  have HFL : Hid ([headW h, ws, zeros].flatten = headW h ++ (ws ++ zeros)) := hid (by simp)
  have HFN : Hid ((headW h ++ (ws ++ zeros)).length ≤ 100000000) := hid (by
    have := head_len h
    have h2 := HM.out
    simp only [List.length_append, zeros, List.length_cons, List.length_nil]
    omega)
  refine (cat_any _ _ _ HS3.out (by rw [HFL.out]; have := HFN.out; omega) (by simp)).mono ?_
  rintro e w4 ⟨a4, c4, rfl, ho4, hb4⟩
  rw [HFL.out] at ho4 ⊢
  obtain ⟨fl, hfl⟩ : ∃ k, k = (headW h ++ (ws ++ zeros)).length := ⟨_, rfl⟩
  rw [← hfl] at ho4 ⊢
  have HS4 := hid (Sl.own ho4 hfl)
  have HB4 := hid (two_below (HB3.out) (hb4))
  have HN4 : Hid (w4.heap[w.heap.size]? = some (.cells (bcs zeros).toArray 5 (0, 0))) := hid ((hb4.block _ (lt_of_block HN3.out)).trans HN3.out)
  clear ho4 hb4 hfl
  go_wp2_with fail
  refine (chk_any _ _ w4 HS4.out (by have := HFN.out; omega) (HX.out.below HB4.out)).mono ?_
  rintro e w5 ⟨rfl, rfl⟩
  obtain ⟨c0, hc0⟩ : ∃ c, c = chk 1 (headW h ++ (ws ++ zeros)) := ⟨_, rfl⟩
  have hc30 : c0 < 1073741824 := by rw [hc0]; exact chk_lt _ 1 (by omega)
  rw [← hc0]
  obtain ⟨c, hc⟩ : ∃ c, c = c0 ^^^ 1 := ⟨_, rfl⟩
  have hcl : c < 1073741824 := by rw [hc]; exact Nat.xor_lt_two_pow (n := 30) hc30 (by omega)
  have hxr := xor32 (a := c0) (b := 1) (by omega) (by omega)
  rw [← hc] at hxr
  have hxr' : bits .xor .u32 (c0 : Int) 1 = (c : Int) := hxr
  have HCW : Hid (encW h ws = closeW c) := hid (by unfold encW; rw [← hc0, ← hc])
  clear hxr hc0 hc
  go_wp2_with fail
  clear hxr'
  go_loopg [7, 19] 6 (fun gg v7 v19 wr => ∃ i : Nat, i ≤ 6 ∧ gg = 6 - i ∧ v19 = .int .i64 (i : Int) ∧ wr.heap[w.heap.size]? = some (.cells (bcs (part c i)).toArray 5 (0, 0)) ∧ Below w.heap.size w wr)
  case atStart => exact ⟨0, by omega, by omega, rfl, HN4.out, HB4.out⟩
  case round =>
    obtain ⟨i, hi, rfl, rfl, hblk, hbel⟩ := hrel
    have hi' : i = 6 ∨ i < 6 := by omega
    rcases hi' with rfl | hi6
    · have HP : Hid (part c 6 = closeW c) := hid rfl
      rw [HP.out, ← HCW.out] at hblk
      have HBL := hid hblk
      have HBE := hid hbel
      clear hblk hbel
      go_wp2_with fail
      go_ret
      refine ⟨some ⟨w.heap.size, 0, none⟩, 6, rfl, ⟨by rw [HCW.out]; rfl, Or.inr ⟨w.heap.size, 6, _, rfl, Nat.le_refl _, HBL.out, by omega, by unfold maxLen; omega, by rw [HCW.out]; rfl, by rw [HCW.out]; rfl⟩⟩, HBE.out⟩
    · have hfz := frozen_of_heap hblk i
      have hce : wr.cell? ⟨w.heap.size, i, none⟩ = some (By ((part c i)[i]'(by rw [part_len c i hi]; exact hi6))) := by
        rw [cell_of_heap hblk]
        simpa using bcs_get (by rw [part_len c i hi]; exact hi6)
      generalize (part c i)[i]'(by rw [part_len c i hi]; exact hi6) = old at hce
      have HSET := hid ((heap_setCell_same hblk i (By (dig c i))).trans (by rw [part_set c i hi6]))
      have HBE := hid (show Below w.heap.size w (wr.setCell ⟨w.heap.size, i, none⟩ (By (dig c i))) from ⟨hbel.os, hbel.tape, hbel.output, by simpa [World.setCell] using hbel.size, fun k hk => by rw [Below.heap_setCell _ _ _ _ (by show k ≠ w.heap.size; omega)]; exact hbel.block k hk⟩)
      have hdg := dig_toNat c i
      have hbit := and32 (a := c / 2 ^ (5 * (5 - i))) 5 (by omega) (Nat.lt_of_le_of_lt (Nat.div_le_self _ _) (by omega))
      obtain ⟨D, hD⟩ : ∃ D, D = c / 2 ^ (5 * (5 - i)) % 32 := ⟨_, rfl⟩
      have hD32 : D < 32 := by omega
      have hbit2 : bits .and .u32 ((c : Int) / ((2 ^ (5 * (5 - i)) : Nat) : Int)) 31 = (D : Int) := by
        rw [hD]
        simpa using hbit
      rw [← hD] at hdg
      unfold By at HSET HBE
      rw [hdg] at HSET HBE
      clear hD hdg hbit hblk hbel
      have hi'' : i = 0 ∨ i = 1 ∨ i = 2 ∨ i = 3 ∨ i = 4 ∨ i = 5 := by omega
      rcases hi'' with rfl | rfl | rfl | rfl | rfl | rfl
      · simp at hbit2
        go_wp2_with fail
        go_roundg 5
        case measure => omega
        case rel => exact ⟨1, by omega, rfl, by go_num, HSET.out, HBE.out⟩
      · simp at hbit2
        go_wp2_with fail
        go_roundg 4
        case measure => omega
        case rel => exact ⟨2, by omega, rfl, by go_num, HSET.out, HBE.out⟩
      · simp at hbit2
        go_wp2_with fail
        go_roundg 3
        case measure => omega
        case rel => exact ⟨3, by omega, rfl, by go_num, HSET.out, HBE.out⟩
      · simp at hbit2
        go_wp2_with fail
        go_roundg 2
        case measure => omega
        case rel => exact ⟨4, by omega, rfl, by go_num, HSET.out, HBE.out⟩
      · simp at hbit2
        go_wp2_with fail
        go_roundg 1
        case measure => omega
        case rel => exact ⟨5, by omega, rfl, by go_num, HSET.out, HBE.out⟩
      · simp at hbit2
        go_wp2_with fail
        go_roundg 0
        case measure => omega
        case rel => exact ⟨6, by omega, rfl, by go_num, HSET.out, HBE.out⟩
end Go.Proofs.YtelfogdcijmenaaDoor
