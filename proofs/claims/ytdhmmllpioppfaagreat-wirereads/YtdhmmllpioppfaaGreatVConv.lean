/- Texts and bytes. -/
import Derived.Test.YtdhmmllpioppfaaGreatVRec
import Derived.Lib.ConvBytes
import Derived.Lib.Strings
namespace Go.Proofs.YtdhmmllpioppfaaGreat.V
open Go.RowKit

theorem st_size (l : Bs) : (⟨l.toArray⟩ : ByteArray).size = l.length := by simp [ByteArray.size]
theorem string_bytes (w : World) (l : Bs) : ∃ cap w', (convert 9 33 (St l)).run Tryz.prog w = .ok (.slice (some ⟨w.heap.size, 0, none⟩) l.length cap) w' ∧ Sl w' (.slice (some ⟨w.heap.size, 0, none⟩) l.length cap) l ∧ Below w.heap.size w w' := by
  refine ⟨grownCap w l.length 0 5, Lib.bytesWorld w 5 ⟨l.toArray⟩, ?_, Or.inr ⟨_, _, rfl, grownCap_ge _ _ _ _, fun _ => ⟨rfl, by rw [Lib.bytesWorld_size]; exact Nat.lt_succ_self _⟩, fun i hi => ?_⟩, ?_⟩
  · have := Lib.run_convert_string_bytes (P := Tryz.prog) w 9 33 5 ⟨l.toArray⟩ Tryz.underlying9 Tryz.underlying33 Tryz.underlying5
    rw [st_size] at this
    exact this
  · rw [add_plain, Nat.zero_add, Lib.bytesWorld_cell w 5 ⟨l.toArray⟩ i (by rw [st_size]; exact hi)]
    simp [hi]
  · exact ⟨rfl, rfl, rfl, by rw [Lib.bytesWorld_size]; exact Nat.le_succ _, fun k hk => Lib.bytesWorld_at_old w 5 ⟨l.toArray⟩ k hk⟩
theorem bytesLess_blt : ∀ a b : Bs, Op.bytesLess a b = blt a b
  | [], [] => rfl
  | [], _ :: _ => rfl
  | _ :: _, [] => rfl
  | a :: x, b :: y => by simp only [Op.bytesLess, blt, bytesLess_blt x y]
theorem slice_text (x : Bs) (k : Nat) (hk : k ≤ x.length) (W : World) : (Instr.sliceAt 9 (St x) none (some (.int .i64 (k : Int))) none).run Tryz.prog W = .ok (St (x.take k)) W := by

  have hs := st_size x
  have he : (⟨x.toArray⟩ : ByteArray).extract 0 k = ⟨(x.take k).toArray⟩ := by
    have := Lib.extract_data ⟨x.toArray⟩ 0 k
    cases h : (⟨x.toArray⟩ : ByteArray).extract 0 k with
    | mk d =>
      rw [h] at this
      simp at this
      rw [← this]
  simp [Instr.sliceAt, Instr.slice, Instr.sliceBounds, Instr.sliceBound, asIntOf, run_underlying Tryz.underlying9, hs, he, go_sem]
  intro h; omega
theorem nil_string' (w : World) : (convert 33 9 (.slice none 0 0)).run Tryz.prog w = .ok (St []) w := by
  simp [convert, run_underlying Tryz.underlying33, run_underlying Tryz.underlying5, run_underlying Tryz.underlying9, go_sem]
  try rfl
/-- bytes, as a text -/
theorem Sl.string {w : World} {v : Value} {l : Bs} (h : Sl w v l) : (convert 33 9 v).run Tryz.prog w = .ok (St l) w := by
  rcases h with ⟨rfl, rfl⟩ | ⟨a, cap, rfl, _, _, h3⟩
  · exact nil_string' w
  · exact run_convert_bytes_back (P := Tryz.prog) w 33 9 5 a cap l Tryz.underlying33 Tryz.underlying5 Tryz.underlying9 (fun j hj => h3 j hj)
end Go.Proofs.YtdhmmllpioppfaaGreat.V
