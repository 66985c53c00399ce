/- The document's number of bits; a row cut off ahead, and bits behind it. -/
import Derived.Test.YtelfogdcijmenaaDoorBits
namespace Go.Proofs.YtelfogdcijmenaaDoor
open Go.RowKit

theorem or8 : ∀ (a : Fin 128) (b : Fin 2), bits .or .u8 (((a.val : Int) * 2)) (b.val : Int) = ((2 * a.val + b.val : Nat) : Int) := by decide +kernel
theorem num_take_succ (l : Bs) (k : Nat) (h : k < l.length) : numB (l.take (k + 1)) = 2 * numB (l.take k) + l[k].toNat := by
  have e : l.take (k + 1) = l.take k ++ [l[k]] := by rw [List.take_add_one, List.getElem?_eq_getElem h]; rfl
  rw [e, num_app]
  simp [numB, numFrom]
  omega
set_option maxRecDepth 100000 in
set_option maxHeartbeats 2000000 in
theorem number_any (l : Bs) (v : Value) (w : World) (hs : Sl w v l) (hb : Bit l) (h8 : l.length ≤ 8) : Calls Tryd.prog 46 #[v] w fun e w' => e = .returned (.int .u8 (numB l : Int)) ∧ w' = w := by
  have HS := hid hs
  have HB := hid hb
  obtain ⟨ao, cap, rfl⟩ := hs.shape
  obtain ⟨A, hA⟩ : ∃ A, A = numB l := ⟨_, rfl⟩
  rw [← hA]
  have HA := hid hA
  obtain ⟨n, hn⟩ : ∃ n, n = l.length := ⟨_, rfl⟩
  rw [← hn] at h8 ⊢
  have HN := hid hn
  clear hs hb hA hn
  go_enter Tryd.func46, Tryd.ntmps46
  go_wp2_with fail
  go_loop [3, 4] (fun v3 v4 => ∃ (k H : Nat), k ≤ n ∧ v4 = .int .i64 (k : Int) ∧ v3 = .int .u8 (H : Int) ∧ Hid (H = numB (l.take k))) (fun _ v4 => n - (intOf v4).toNat)
  case atStart => exact ⟨0, 0, by omega, rfl, rfl, hid rfl⟩
  case round =>
    obtain ⟨k, H, hk, rfl, rfl, hH⟩ := hrel
    by_cases hkn : k < n
    · have hk1 : (k : Int) < (n : Int) := by omega
      have hkl : k < l.length := by rw [← HN.out]; exact hkn
      have HT := hid (num_take_succ l k hkl)
      have hlt := num_lt (l := l.take k) (fun y hy => HB.out y (List.mem_of_mem_take hy))
      have hl7 : (l.take k).length ≤ 7 := by rw [List.length_take]; omega
      have hp7 : 2 ^ (l.take k).length ≤ 2 ^ 7 := Nat.pow_le_pow_right (by omega) hl7
      rw [← hH.out] at hlt HT
      have hH7 : H < 128 := by omega
      obtain ⟨g, o, rfl, hg, hq, hcap, hcell⟩ := HS.out.at (fun e => by rw [e] at hkl; simp at hkl)
      rw [← HN.out] at hcap
      have hck := hcell k hkl
      have hx1 := HB.out l[k] (List.getElem_mem hkl)
      generalize l[k] = x at *
      have hor := or8 ⟨H, hH7⟩ ⟨x.toNat, by omega⟩
      simp only at hor
      obtain ⟨H2, hH2⟩ : ∃ H2, H2 = 2 * H + x.toNat := ⟨_, rfl⟩
      rw [← hH2] at hor
      have HX : Hid (H2 = numB (l.take (k + 1))) := hid (by rw [HT.out]; exact hH2)
      have hw8 : IntKind.u8.wrap ((H : Int) * 2) = (H : Int) * 2 := by rw [IntKind.wrap_u8]; omega
      clear hcell hq hlt hl7 hp7 hH hH2
      go_wp2_with fail
      go_round
      case rel => exact ⟨k + 1, H2, by omega, by go_num, rfl, HX⟩
      case measure => simp [intOf]; omega
    · have hk1 : ¬ (k : Int) < (n : Int) := by omega
      have HE : Hid (H = A) := hid (by rw [hH.out, List.take_of_length_le (by rw [← HN.out]; omega), HA.out])
      clear hH
      obtain rfl := HE.out
      go_wp2_with fail
      go_ret
      exact ⟨rfl, rfl⟩
/-- a row of one's own, cut off ahead -/
def Owo (w : World) (B g o n cap : Nat) (M : Bs) : Prop :=
  n = M.length ∧ B ≤ g ∧ ∃ cur, w.heap[g]? = some (.cells cur 5 (0, 0)) ∧ M.length ≤ cap ∧ cap ≤ maxLen ∧ o + cap ≤ cur.size ∧ (cur.toList.drop o).take M.length = bcs M
theorem Owo.cell {w : World} {B g o n cap : Nat} {M : Bs} (h : Owo w B g o n cap M) {i : Nat} (hi : i < M.length) : w.cell? ⟨g, o + i, none⟩ = some (By M[i]) := by
  obtain ⟨_, _, cur, h3, _, _, _, h8⟩ := h
  have h9 : (bcs M)[i]? = some (By M[i]) := bcs_get hi
  rw [← h8, List.getElem?_take, if_pos hi, List.getElem?_drop] at h9
  simp only [World.cell?, h3]
  simpa using h9
theorem Owo.sl {w : World} {B g o n cap : Nat} {M : Bs} (h : Owo w B g o n cap M) : Sl w (.slice (some ⟨g, o, none⟩) n cap) M := by
  have hc := fun i hi => h.cell (i := i) hi
  obtain ⟨rfl, _, cur, h3, h5, _⟩ := h
  refine Or.inr ⟨⟨g, o, none⟩, cap, rfl, h5, fun _ => ⟨rfl, lt_of_block h3⟩, fun i hi => ?_⟩
  rw [add_plain]
  exact hc i hi
theorem Owo.same {w w' : World} {B g o n cap : Nat} {M : Bs} (h : Owo w B g o n cap M) (hh : w'.heap[g]? = w.heap[g]?) : Owo w' B g o n cap M := by
  obtain ⟨h0, h1, cur, h3, h4⟩ := h
  exact ⟨h0, h1, cur, hh.trans h3, h4⟩
theorem Owo.lt {w : World} {B g o n cap : Nat} {M : Bs} (h : Owo w B g o n cap M) : g < w.heap.size ∧ B ≤ g ∧ n = M.length ∧ M.length ≤ cap := by
  obtain ⟨h0, h1, cur, h3, h4, _⟩ := h
  exact ⟨lt_of_block h3, h1, h0, h4⟩
/-- a byte behind it, which was just laid -/
theorem owo_one {w : World} {B g o n cap : Nat} {M : Bs} (h : Owo w B g o n cap M) (c : UInt8) (x : Int) (hx : (c.toNat : Int) = x) (hb : n + 1 ≤ 140737488355328) (hB : B ≤ w.heap.size) :
    ∃ g' o' cap' w', (∀ ty, (Builtin.append_ #[22, 22] ty #[.slice (some ⟨g, o, none⟩) n cap, .slice (some ⟨w.heap.size, 0, none⟩) 1 1]).run Tryd.prog (w.alloc (.cells #[.int .u8 x] 5)) = .ok (.slice (some ⟨g', o', none⟩) (n + 1) cap') w') ∧ Owo w' B g' o' (n + 1) cap' (M ++ [c]) ∧ (∀ (w0 : World), Below B w0 w → Below B w0 w') ∧ (g' = g ∨ w.heap.size ≤ g') ∧ ∀ k, k < w.heap.size → k ≠ g → w'.heap[k]? = w.heap[k]? := by
  subst hx
  obtain ⟨i0, hi, hz0, hz1, hz2⟩ := info_get Tryd.info5
  have hcell : ∀ j u, [By c][j]? = some u → (w.alloc (.cells #[By c] 5)).cell? ((⟨w.heap.size, 0, none⟩ : Addr).add j) = some u := by
    intro j u hj
    cases j with
    | zero =>
      cases hj
      rw [add_plain, cell_of_heap (heap_alloc_new w (.cells #[By c] 5))]
      rfl
    | succ j => simp at hj
  have hglt := h.lt.1
  have hBg := h.lt.2.1
  have hold : ∀ j (hj : j < M.length), (w.alloc (.cells #[By c] 5)).cell? ⟨g, o + j, none⟩ = some (By M[j]) := fun j hj => by
    rw [← h.cell hj]
    exact World.cell?_of_block (Below.heap_alloc w _ g hglt)
  obtain ⟨rfl, h2, cur, h3, h5, h6, h7, h8⟩ := h
  have h3' : (w.alloc (.cells #[By c] 5)).heap[g]? = some (.cells cur 5 (0, 0)) := (Below.heap_alloc w _ g hglt).trans h3
  by_cases hroom : M.length + 1 ≤ cap
  · have hlt : o + M.length < cur.size := by omega
    have hfz : (w.alloc (.cells #[By c] 5)).frozen? ⟨g, o + M.length, none⟩ = false := frozen_of_heap h3' _
    have hc0 : (w.alloc (.cells #[By c] 5)).cell? ⟨g, o + M.length, none⟩ = some cur[o + M.length] := by simp only [World.cell?, h3']; simp [hlt]
    have hst : (storeCells ((⟨g, o, none⟩ : Addr).add M.length) [By c] 0).run Tryd.prog (w.alloc (.cells #[By c] 5)) = .ok () ((w.alloc (.cells #[By c] 5)).setCell ⟨g, o + M.length, none⟩ (By c)) := by
      have hadd : (⟨g, o + M.length, none⟩ : Addr).add 0 = ⟨g, o + M.length, none⟩ := by rw [add_plain, Nat.add_zero]
      rw [add_plain]
      simp only [storeCells, Sem.run_bind, hadd]
      rw [run_store Tryd.prog _ _ (By c) _ rfl, hc0]
      simp [hfz]
    have hf := run_firstCells_some (P := Tryd.prog) (w.alloc (.cells #[By c] 5)) i0.size 1 ⟨w.heap.size, 0, none⟩ 1 1 [By c] (by rw [hz1]; rfl) hcell
    refine ⟨g, o, cap, (w.alloc (.cells #[By c] 5)).setCell ⟨g, o + M.length, none⟩ (By c), fun ty => ?_, ⟨by simp, h2, cur.setIfInBounds (o + M.length) (By c), ?_, by simpa using hroom, h6, by simpa using h7, ?_⟩, fun w0 hw0 => ?_, Or.inl rfl, fun k hk hkg => ?_⟩
    · rw [hz1] at hf
      simp [Builtin.append_, run_underlying Tryd.underlying22, sizeOf, typeInfo, hi, Builtin.lenOf, hroom, hf, hst, hz1]
    · simp [World.setCell, Array.getElem?_modify, h3']
    · have e1 : (M ++ [c]).length = M.length + 1 := by simp
      rw [e1, Array.toList_setIfInBounds, List.drop_set, if_neg (by omega), Nat.add_sub_cancel_left, List.take_set, List.take_add_one, h8]
      have e2 : (cur.toList.drop o)[M.length]?.toList = [cur[o + M.length]] := by simp [hlt]
      rw [e2, List.set_append_right _ _ (by rw [bcs_len]; omega), bcs_len]
      simp [Lib.byteCells]
    · refine ⟨hw0.os, hw0.tape, hw0.output, ?_, fun k hk => ?_⟩
      · have := hw0.size
        simp [World.setCell]
        omega
      · rw [Below.heap_setCell _ _ _ _ (by show k ≠ g; omega)]
        exact (hw0.alloc hB _).block k hk
    · rw [Below.heap_setCell _ _ _ _ hkg]
      exact Below.heap_alloc w _ k hk
  · have hr := run_append_grow (P := Tryd.prog) (w.alloc (.cells #[By c] 5)) 22 22 5 i0 _ Tryd.underlying22 hi hz0 ⟨g, o, none⟩ M.length cap (bcs M) (by rw [bcs_len, hz1]; omega)
      (fun j u hj => by
        have hjl : j < M.length := by
          apply Classical.byContradiction
          intro hn
          rw [List.getElem?_eq_none (by rw [bcs_len]; omega)] at hj
          cases hj
        rw [bcs_get hjl] at hj
        cases hj
        rw [add_plain]
        exact hold j hjl)
      ⟨w.heap.size, 0, none⟩ 1 1 [By c] (by rw [hz1]; rfl) hcell (by omega) (by omega) (by rw [hz2]; exact slice_fits (by omega) hb)
    have hge := grownCap_ge (w.alloc (.cells #[By c] 5)) (M.length + 1) cap 5
    have hle := grownCap_le_maxLen (w.alloc (.cells #[By c] 5)) (M.length + 1) cap 5 (by unfold maxLen; omega)
    refine ⟨_, _, _, _, fun ty => hr, ⟨by simp, by simp; omega, _, heap_alloc_new (w.alloc (.cells #[By c] 5)).drew _, by simpa using hge, hle, ?_, ?_⟩, fun w0 hw0 => ?_, Or.inr (by simp), fun k hk _ => ?_⟩
    · simp only [Array.size_append, List.size_toArray, size_zeroCells, bcs_len]
      simp [Value.cells]
      omega
    · simp only [Array.toList_append, List.append_assoc, List.drop_zero]
      rw [← List.append_assoc]
      have : (bcs M ++ [By c]) = bcs (M ++ [c]) := by simp [Lib.byteCells]
      rw [this, ← bcs_len (M ++ [c])]
      exact List.take_left
    · have h10 := hw0.alloc hB (.cells #[By c] 5)
      have h11 : Below B w0 (w.alloc (.cells #[By c] 5)).drew := below_drewN h10 1
      exact h11.alloc (by simp; omega) _
    · have h12 : Below w.heap.size w (w.alloc (.cells #[By c] 5)).drew := below_drewN ((Below.refl _ _).alloc (Nat.le_refl _) _) 1
      exact (h12.alloc (by simp) _).block k hk
end Go.Proofs.YtelfogdcijmenaaDoor
