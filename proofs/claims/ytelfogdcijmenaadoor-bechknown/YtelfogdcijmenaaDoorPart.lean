/- What stands ahead of the last mark of a text, and what behind it. -/
import Derived.Test.YtelfogdcijmenaaDoorEnc
namespace Go.Proofs.YtelfogdcijmenaaDoor
open Go.RowKit

theorem part_none {s : Bs} (h : ∀ c ∈ s, c ≠ 49) : tailB s = s ∧ headB s = [] := by
  have e : tailB s = s := by
    unfold tailB
    have : s.reverse.takeWhile (fun c => c != 49) = s.reverse := by
      have h1 := List.takeWhile_append_of_pos (p := fun c : UInt8 => c != 49) (l₁ := s.reverse) (l₂ := []) (fun c hc => by have := h c (List.mem_reverse.1 hc); simpa using this)
      simpa using h1
    rw [this, List.reverse_reverse]
  refine ⟨e, ?_⟩
  unfold headB
  rw [e, Nat.sub_self, Nat.zero_sub, List.take_zero]
theorem part_app {a b : Bs} (h : ∀ c ∈ b, c ≠ 49) : tailB (a ++ 49 :: b) = b ∧ headB (a ++ 49 :: b) = a := by
  have e : tailB (a ++ 49 :: b) = b := by
    unfold tailB
    have h1 := List.takeWhile_append_of_pos (p := fun c : UInt8 => c != 49) (l₁ := b.reverse) (l₂ := 49 :: a.reverse) (fun c hc => by have := h c (List.mem_reverse.1 hc); simpa using this)
    have h2 : (a ++ 49 :: b).reverse = b.reverse ++ 49 :: a.reverse := by simp
    rw [h2, h1]
    simp
  refine ⟨e, ?_⟩
  unfold headB
  rw [e]
  have : (a ++ 49 :: b).length - b.length - 1 = a.length := by simp; omega
  rw [this]
  exact List.take_left
theorem part_some {s : Bs} {i : Nat} (hi : i < s.length) (h1 : s[i] = 49) (h2 : ∀ j (hj : j < s.length), i < j → s[j] ≠ 49) : tailB s = s.drop (i + 1) ∧ headB s = s.take i := by
  have e : s = s.take i ++ 49 :: s.drop (i + 1) := by
    rw [← h1]
    simp
  have h3 : ∀ c ∈ s.drop (i + 1), c ≠ 49 := by
    intro c hc
    obtain ⟨j, hj, rfl⟩ := List.getElem_of_mem hc
    rw [List.getElem_drop]
    exact h2 _ _ (by omega)
  have h4 := part_app (a := s.take i) h3
  rw [← e] at h4
  exact h4
/-- the last mark of a text -/
theorem last_mark (s : Bs) : (Lib.lastIndexByte ⟨s.toArray⟩ 49 = -1 ∧ tailB s = s ∧ headB s = []) ∨ ∃ i, i < s.length ∧ Lib.lastIndexByte ⟨s.toArray⟩ 49 = (i : Int) ∧ tailB s = s.drop (i + 1) ∧ headB s = s.take i := by
  unfold Lib.lastIndexByte
  rw [st_size]
  have hg : ∀ j (hj : j < s.length), (((⟨s.toArray⟩ : ByteArray).data[j]!).toNat : Int) = (s[j].toNat : Int) := fun j hj => by
    rw [getElem!_pos (⟨s.toArray⟩ : ByteArray).data j (by simpa using hj)]
    rfl
  have hne : ∀ c : UInt8, (c.toNat : Int) ≠ 49 → c ≠ 49 := fun c h e => h (by rw [e]; rfl)
  rcases Lib.lastIdx_spec ⟨s.toArray⟩ 49 s.length with ⟨e, h⟩ | ⟨i, hi, e, hc, h⟩
  · refine Or.inl ⟨e, part_none (fun c hc => ?_)⟩
    obtain ⟨j, hj, rfl⟩ := List.getElem_of_mem hc
    have := h j hj
    rw [hg j hj] at this
    exact hne _ this
  · refine Or.inr ⟨i, hi, e, part_some hi ?_ (fun j hj hij => ?_)⟩
    · rw [hg i hi] at hc
      exact UInt8.toNat_inj.1 (by have : (49 : UInt8).toNat = 49 := rfl; omega)
    · have := h j hij hj
      rw [hg j hj] at this
      exact hne _ this
theorem ex_text (x : Bs) (i j : Nat) : (⟨x.toArray⟩ : ByteArray).extract i j = ⟨((x.drop i).take (j - i)).toArray⟩ := by
  have := Lib.extract_data ⟨x.toArray⟩ i j
  cases h : (⟨x.toArray⟩ : ByteArray).extract i j with
  | mk d =>
    rw [h] at this
    simp at this
    rw [← this]
theorem slice_text (x : Bs) (k : Nat) (hk : k ≤ x.length) (W : World) : (Instr.sliceAt 9 (St x) none (some (.int .i64 (k : Int))) none).run Tryd.prog W = .ok (St (x.take k)) W := by
  have hs := st_size x
  have he := ex_text x 0 k
  simp [Instr.sliceAt, Instr.slice, Instr.sliceBounds, Instr.sliceBound, asIntOf, run_underlying Tryd.underlying9, hs, he, go_sem]
  intro h; omega
theorem slice_from (x : Bs) (k : Nat) (hk : k ≤ x.length) (W : World) : (Instr.sliceAt 9 (St x) (some (.int .i64 (k : Int))) none none).run Tryd.prog W = .ok (St (x.drop k)) W := by
  have hs := st_size x
  have he := ex_text x k x.length
  rw [List.take_of_length_le (by simp)] at he
  simp [Instr.sliceAt, Instr.slice, Instr.sliceBounds, Instr.sliceBound, asIntOf, run_underlying Tryd.underlying9, hs, he, go_sem]
  intro h; omega
set_option maxRecDepth 100000 in
set_option maxHeartbeats 4000000 in
theorem parted_any (s : Bs) (w : World) (hm : s.length ≤ 140737488355328) : Calls Tryd.prog 29 #[St s] w fun e w' => e = .returned (.tuple #[St (headB s), St (tailB s)]) ∧ Below w.heap.size w w' := by
  have HL := hid (Tryd.strings_LastIndexByte ⟨s.toArray⟩ 49 (by rw [st_size]; omega) w)
  rcases last_mark s with ⟨e1, e2, e3⟩ | ⟨i, hi, e1, e2, e3⟩
  · rw [e1] at HL
    rw [e2, e3]
    have h1 := slice_text s 0 (by omega)
    have h2 := slice_from s 0 (by omega)
    simp at h1 h2
    clear e1 e2 e3
    go_enter Tryd.func29, Tryd.ntmps29
    go_wp2_with fail
    refine HL.out.mono ?_
    rintro e w1 ⟨rfl, rfl⟩
    go_wp2_with fail
    go_quiet (fail)
    go_wp2_with fail
    go_ret2
    refine ⟨?_, below_drewN (Below.refl _ _) _⟩
    have e0 : (max (-1 : Int) 0).toNat = 0 := by decide
    rw [e0, ex_text]
    rfl
  · rw [e1] at HL
    rw [e2, e3]
    have h1 := slice_text s i (by omega)
    have h2 := slice_from s (i + 1) (by omega)
    have hmx : max (i : Int) 0 = (i : Int) := by omega
    clear e1 e2 e3
    go_enter Tryd.func29, Tryd.ntmps29
    go_wp2_with fail
    refine HL.out.mono ?_
    rintro e w1 ⟨rfl, rfl⟩
    go_wp2_with fail
    go_quiet (fail)
    go_wp2_with fail
    go_ret2
    refine ⟨?_, below_drewN (Below.refl _ _) _⟩
    have e9 := ex_text s (i + 1) s.length
    rw [List.take_of_length_le (by simp)] at e9
    rw [e9]
    rfl
end Go.Proofs.YtelfogdcijmenaaDoor
