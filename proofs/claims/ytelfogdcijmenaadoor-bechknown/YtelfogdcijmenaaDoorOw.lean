/- A row of bytes that a text was made into, and bytes behind it. -/
import Derived.Test.YtelfogdcijmenaaDoorOne
import Derived.Lib.ConvBytes
import Derived.Lib.Strings
namespace Go.Proofs.YtelfogdcijmenaaDoor
open Go.RowKit

/-- a row of one's own, perhaps with a mark behind its end -/
def Ow (w : World) (B : Nat) (v : Value) (xs : Bs) : Prop :=
  ∃ g cap cur fr, v = .slice (some ⟨g, 0, none⟩) xs.length cap ∧ B ≤ g ∧ w.heap[g]? = some (.cells cur 5 fr) ∧ (fr = (0, 0) ∨ cap ≤ fr.1) ∧ xs.length ≤ cap ∧ cap ≤ maxLen ∧ cur.size = cap ∧ cur.toList.take xs.length = bcs xs
theorem Ow.shape {w : World} {B : Nat} {v : Value} {xs : Bs} (h : Ow w B v xs) : ∃ ao cap, v = .slice ao xs.length cap := by
  obtain ⟨g, cap, _, _, h, _⟩ := h
  exact ⟨_, _, h⟩
theorem Ow.cell {w : World} {B g cap n : Nat} {xs : Bs} (h : Ow w B (.slice (some ⟨g, 0, none⟩) n cap) xs) {i : Nat} (hi : i < xs.length) : w.cell? ⟨g, i, none⟩ = some (By xs[i]) := by
  obtain ⟨g, cap, cur, fr, h1, _, h3, _, _, _, h7, h8⟩ := h
  cases h1
  have h9 : (bcs xs)[i]? = some (By xs[i]) := bcs_get hi
  rw [← h8, List.getElem?_take, if_pos hi] at h9
  simp only [World.cell?, h3]
  simpa using h9
theorem Ow.lt {w : World} {B g cap n : Nat} {xs : Bs} (h : Ow w B (.slice (some ⟨g, 0, none⟩) n cap) xs) : B ≤ g ∧ g < w.heap.size ∧ xs.length ≤ cap ∧ n = xs.length := by
  obtain ⟨g, cap, cur, fr, h1, h2, h3, _, h5, _⟩ := h
  cases h1
  exact ⟨h2, lt_of_block h3, h5, rfl⟩
theorem Ow.at {w : World} {B : Nat} {v : Value} {xs : Bs} (h : Ow w B v xs) : ∃ g cap, v = .slice (some ⟨g, 0, none⟩) xs.length cap := by
  obtain ⟨g, cap, _, _, h, _⟩ := h
  exact ⟨_, _, h⟩
theorem Ow.sl {w : World} {B : Nat} {v : Value} {xs : Bs} (h : Ow w B v xs) : Sl w v xs := by
  obtain ⟨g, cap, rfl⟩ := h.at
  refine Or.inr ⟨⟨g, 0, none⟩, cap, rfl, h.lt.2.2.1, fun _ => ⟨rfl, h.lt.2.1⟩, fun i hi => ?_⟩
  rw [add_plain, Nat.zero_add]
  exact h.cell hi
theorem Ow.same {w w' : World} {B : Nat} {v : Value} {xs : Bs} (h : Ow w B v xs) (hh : ∀ g, v.ownBlock = some g → w'.heap[g]? = w.heap[g]?) : Ow w' B v xs := by
  obtain ⟨g, cap, cur, fr, h1, h2, h3, h4⟩ := h
  exact ⟨g, cap, cur, fr, h1, h2, (hh g (by rw [h1]; rfl)).trans h3, h4⟩
theorem Ow.below {w w' : World} {B : Nat} {v : Value} {xs : Bs} (h : Ow w B v xs) (hb : Below w.heap.size w w') : Ow w' B v xs :=
  h.same (fun g e => by
    obtain ⟨g', cap, cur, fr, h1, h2, h3, h4⟩ := h
    rw [h1] at e
    cases e
    exact hb.block _ (lt_of_block h3))
/-- a text made into bytes -/
theorem text_bytes (w : World) (l : Bs) (hm : l.length ≤ 140737488355328) : ∃ cap w', (convert 9 22 (St l)).run Tryd.prog w = .ok (.slice (some ⟨w.heap.size, 0, none⟩) l.length cap) w' ∧ Ow w' w.heap.size (.slice (some ⟨w.heap.size, 0, none⟩) l.length cap) l ∧ Below w.heap.size w w' := by
  have hge := grownCap_ge w l.length 0 5
  have hle := grownCap_le_maxLen w l.length 0 5 (by unfold maxLen; omega)
  refine ⟨grownCap w l.length 0 5, Lib.bytesWorld w 5 ⟨l.toArray⟩, ?_, ⟨w.heap.size, _, _, _, rfl, Nat.le_refl _, Lib.bytesWorld_at_new w 5 ⟨l.toArray⟩, ?_⟩, ?_⟩
  · have := Lib.run_convert_string_bytes (P := Tryd.prog) w 9 22 5 ⟨l.toArray⟩ Tryd.underlying9 Tryd.underlying22 Tryd.underlying5
    rw [st_size] at this
    exact this
  · have hs : (Lib.bytesCells w 5 ⟨l.toArray⟩).size = grownCap w l.length 0 5 := by
      simp only [Lib.bytesCells, st_size, Array.size_append, Array.size_map, List.size_toArray, Array.size_replicate]
      omega
    refine ⟨Or.inr (by rw [hs]; exact Nat.le_refl _), hge, hle, hs, ?_⟩
    simp [Lib.bytesCells, Lib.byteCells]
  · exact ⟨rfl, rfl, rfl, by rw [Lib.bytesWorld_size]; exact Nat.le_succ _, fun k hk => Lib.bytesWorld_at_old w 5 ⟨l.toArray⟩ k hk⟩
theorem slice_fits {n cap : Nat} (h : cap < n + 1) (hn : n + 1 ≤ 140737488355328) : Builtin.nextslicecap (n + 1) cap * 1 ≤ 281474976710656 := by
  unfold Builtin.nextslicecap
  split
  · omega
  · split
    · omega
    · have hg : ∀ r c, c ≤ n → Builtin.growBy (n + 1) r c ≤ n + 1 + (n + 768) / 4 := by
        intro r
        induction r with
        | zero => intro c hc; simp only [Builtin.growBy]; omega
        | succ r ih =>
          intro c hc
          simp only [Builtin.growBy]
          split
          · omega
          · by_cases h2 : c + (c + 768) / 4 ≤ n
            · exact ih _ h2
            · cases r with
              | zero => simp only [Builtin.growBy]; omega
              | succ r => simp only [Builtin.growBy]; rw [if_pos (by omega)]; omega
      have := hg 4 cap (by omega)
      omega
/-- a byte behind it, which was just laid -/
theorem ow_one {w : World} {B g n cap : Nat} {xs : Bs} (h : Ow w B (.slice (some ⟨g, 0, none⟩) n cap) xs) (c : UInt8) (x : Int) (hx : (c.toNat : Int) = x) (hb : n + 1 ≤ 140737488355328) (hB : B ≤ w.heap.size) :
    ∃ g' cap' w', (∀ ty, (Builtin.append_ #[22, 22] ty #[.slice (some ⟨g, 0, none⟩) n cap, .slice (some ⟨w.heap.size, 0, none⟩) 1 1]).run Tryd.prog (w.alloc (.cells #[.int .u8 x] 5)) = .ok (.slice (some ⟨g', 0, none⟩) (n + 1) cap') w') ∧ Ow w' B (.slice (some ⟨g', 0, none⟩) (n + 1) cap') (xs ++ [c]) ∧ (∀ (w0 : World), Below B w0 w → Below B w0 w') ∧ (g' = g ∨ w.heap.size ≤ g') ∧ ∀ k, k < w.heap.size → k ≠ g → w'.heap[k]? = w.heap[k]? := by
  subst hx
  obtain ⟨i0, hi, hz0, hz1, hz2⟩ := info_get Tryd.info5
  have hcell : ∀ j u, [By c][j]? = some u → (w.alloc (.cells #[By c] 5)).cell? ((⟨w.heap.size, 0, none⟩ : Addr).add j) = some u := by
    intro j u hj
    cases j with
    | zero =>
      cases hj
      rw [add_plain, cell_of_heap (heap_alloc_new w (.cells #[By c] 5))]
      rfl
    | succ j => simp at hj
  have hn := h.lt.2.2.2
  have hglt := h.lt.2.1
  have hBg := h.lt.1
  have hold : ∀ j (hj : j < xs.length), (w.alloc (.cells #[By c] 5)).cell? ⟨g, j, none⟩ = some (By xs[j]) := fun j hj => by
    rw [← h.cell hj]
    exact World.cell?_of_block (Below.heap_alloc w _ g hglt)
  have hn2 : g ≠ w.heap.size := by omega
  obtain ⟨_, _, cur, fr, h1, h2, h3, h4, h5, h6, h7, h8⟩ := h
  cases h1
  have h3' : (w.alloc (.cells #[By c] 5)).heap[g]? = some (.cells cur 5 fr) := (Below.heap_alloc w _ g hglt).trans h3
  by_cases hroom : xs.length + 1 ≤ cap
  · have hlt : xs.length < cur.size := by omega
    have hfz : (w.alloc (.cells #[By c] 5)).frozen? ⟨g, xs.length, none⟩ = false := by
      simp only [World.frozen?, h3']
      rcases h4 with rfl | h4
      · simp
      · simp; omega
    have hc0 : (w.alloc (.cells #[By c] 5)).cell? ⟨g, xs.length, none⟩ = some cur[xs.length] := by simp only [World.cell?, h3']; simp [hlt]
    have hst : (storeCells ⟨g, xs.length, none⟩ [By c] 0).run Tryd.prog (w.alloc (.cells #[By c] 5)) = .ok () ((w.alloc (.cells #[By c] 5)).setCell ⟨g, xs.length, none⟩ (By c)) := by
      have hadd : (⟨g, xs.length, none⟩ : Addr).add 0 = ⟨g, xs.length, none⟩ := by rw [add_plain, Nat.add_zero]
      simp only [storeCells, Sem.run_bind, hadd]
      rw [run_store Tryd.prog _ _ (By c) _ rfl, hc0]
      simp [hfz]
    have hf := run_firstCells_some (P := Tryd.prog) (w.alloc (.cells #[By c] 5)) i0.size 1 ⟨w.heap.size, 0, none⟩ 1 1 [By c] (by rw [hz1]; rfl) hcell
    refine ⟨g, cap, (w.alloc (.cells #[By c] 5)).setCell ⟨g, xs.length, none⟩ (By c), fun ty => ?_, ⟨g, cap, cur.setIfInBounds xs.length (By c), fr, by simp, h2, ?_, h4, by simpa using hroom, h6, by simpa using h7, ?_⟩, fun w0 hw0 => ?_, Or.inl rfl, fun k hk hkg => ?_⟩
    · rw [hz1] at hf
      simp [Builtin.append_, run_underlying Tryd.underlying22, sizeOf, typeInfo, hi, Builtin.lenOf, hroom, hf, Addr.add_lit, hst, hz1]
    · simp [World.setCell, Array.getElem?_modify, h3']
    · have e1 : (xs ++ [c]).length = xs.length + 1 := by simp
      rw [e1, Array.toList_setIfInBounds, List.take_set, List.take_add_one, h8]
      have e2 : cur.toList[xs.length]?.toList = [cur[xs.length]] := by simp [hlt]
      rw [e2, List.set_append_right _ _ (by rw [bcs_len]; omega), bcs_len]
      simp [Lib.byteCells]
    · refine ⟨hw0.os, hw0.tape, hw0.output, ?_, fun k hk => ?_⟩
      · have := hw0.size
        simp [World.setCell]
        omega
      · rw [Below.heap_setCell _ _ _ _ (by show k ≠ g; omega)]
        exact (hw0.alloc hB _).block k hk
    · rw [Below.heap_setCell _ _ _ _ hkg]
      exact Below.heap_alloc w _ k hk
  · have hr := run_append_grow (P := Tryd.prog) (w.alloc (.cells #[By c] 5)) 22 22 5 i0 _ Tryd.underlying22 hi hz0 ⟨g, 0, none⟩ xs.length cap (bcs xs) (by rw [bcs_len, hz1]; omega)
      (fun j u hj => by
        have hjl : j < xs.length := by
          apply Classical.byContradiction
          intro hn
          rw [List.getElem?_eq_none (by rw [bcs_len]; omega)] at hj
          cases hj
        rw [bcs_get hjl] at hj
        cases hj
        rw [add_plain, Nat.zero_add]
        exact hold j hjl)
      ⟨w.heap.size, 0, none⟩ 1 1 [By c] (by rw [hz1]; rfl) hcell (by omega) (by omega) (by rw [hz2]; exact slice_fits (by omega) hb)
    have hge := grownCap_ge (w.alloc (.cells #[By c] 5)) (xs.length + 1) cap 5
    have hle := grownCap_le_maxLen (w.alloc (.cells #[By c] 5)) (xs.length + 1) cap 5 (by unfold maxLen; omega)
    refine ⟨_, _, _, fun ty => hr, ⟨_, _, _, _, by simp, by simp; omega, heap_alloc_new (w.alloc (.cells #[By c] 5)).drew _, Or.inl rfl, by simpa using hge, hle, ?_, ?_⟩, fun w0 hw0 => ?_, Or.inr (by simp), fun k hk _ => ?_⟩
    · simp only [Array.size_append, List.size_toArray, size_zeroCells, bcs_len]
      simp [Value.cells]
      omega
    · simp only [Array.toList_append, List.append_assoc]
      rw [← List.append_assoc]
      have : (bcs xs ++ [By c]) = bcs (xs ++ [c]) := by simp [Lib.byteCells]
      rw [this, ← bcs_len (xs ++ [c])]
      exact List.take_left
    · have h10 := hw0.alloc hB (.cells #[By c] 5)
      have h11 : Below B w0 (w.alloc (.cells #[By c] 5)).drew := below_drewN h10 1
      exact h11.alloc (by simp; omega) _
    · have h12 : Below w.heap.size w (w.alloc (.cells #[By c] 5)).drew := below_drewN ((Below.refl _ _).alloc (Nat.le_refl _) _) 1
      exact (h12.alloc (by simp) _).block k hk
end Go.Proofs.YtelfogdcijmenaaDoor
