/- What comes in: bytes, numbers. -/
import Derived.Test.YtcmbijckhcckpaaRows
import Derived.Test.YtcmbijckhcckpaaFrame
import Derived.ProofKit
import Derived.OpenShut
namespace Go.Proofs.Ytcmbijckhcckpaa
open Go.ChangeShapes Go.WideShapes Go.ChangeAt Go.RowKit

theorem own : ownKnob Try.prog.godebug = none := by kernel_rfl
theorem laidOut : laidOutB Try.prog = true := by kernel_rfl
theorem Try.cells5 : Try.prog.cellsOf 5 = 1 := by kernel_rfl
theorem plain_of_cell {w : World} {a : Addr} {v : Value} (h : w.cell? a = some v) : a = ⟨a.block, a.off, none⟩ ∧ a.block < w.heap.size := by
  unfold World.cell? at h
  split at h
  · rename_i c e fr hb
    split at h
    · cases h
    · rename_i hs
      refine ⟨?_, lt_of_block hb⟩
      cases a with
      | mk b o s => cases s with
        | none => rfl
        | some x => simp at hs
  · cases h
/-- bytes that came in -/
theorem sl_of_ints {W : World} {a : Addr} {len cap : Nat} {zs : List Int} (hl : len ≤ cap) (hz : len ≤ zs.length) (hcell : ∀ i, i < zs.length → W.cell? (a.add i) = some (.int .u8 (zs.getD i 0))) (hw : ∀ n ∈ zs, (Lit.int .u8 n).wf = true) :
    ∃ c : Bs, c.length = len ∧ Sl W (.slice (some a) len cap) c := by
  have hlen : ((zs.take len).map (fun z => UInt8.ofNat z.toNat)).length = len := by simp; omega
  refine ⟨(zs.take len).map (fun z => UInt8.ofNat z.toNat), hlen, Or.inr ⟨a, cap, by rw [hlen], by rw [hlen]; exact hl, fun h0 => ?_, fun i hi => ?_⟩⟩
  · have h0' : 0 < len := by
      apply Nat.pos_of_ne_zero
      intro e
      apply h0
      rw [e]
      rfl
    have hc0 := hcell 0 (by omega)
    have e0 : a.add 0 = a := by simp [Addr.add]
    rw [e0] at hc0
    exact plain_of_cell hc0
  · have hi' : i < len := by rw [hlen] at hi; exact hi
    have hzi : i < zs.length := by omega
    rw [hcell i hzi]
    have hr := bounds_u8 (hw zs[i] (List.getElem_mem hzi))
    have e1 : zs.getD i 0 = zs[i] := by simp [List.getD, hzi]
    rw [e1]
    simp only [List.getElem_map, List.getElem_take]
    congr 2
    rw [UInt8.toNat_ofNat']
    omega
theorem bytes_in {H : Type} {enc : TypeId × Value → H} {W : World} {base : Nat} {v : Value} {d : DataW H} {p : List MemPlace} (hv : Value.okWide Try.prog W .any base 23 v) (h : DataW.Trod enc Try.prog W 0 (fun _ => true) true 23 v d p) : ∃ l : Bs, Sl W v l := by
  obtain ⟨fuel, hf⟩ := h
  obtain ⟨a0, len, cap, rfl⟩ := okWide_slice Try.underlying23 hv
  rcases open_ints Try.underlying23 Try.underlying5 Try.cells5 hf with ⟨hcs, hx⟩ | ⟨a, len', cap', zs, hcs, _, hl, hm, hz, hx, hcell, hwz⟩
  · simp [Value.cells] at hcs
    obtain ⟨rfl, rfl, rfl⟩ := hcs
    exact ⟨[], Sl.nil W⟩
  · simp [Value.cells] at hcs
    obtain ⟨rfl, rfl, rfl⟩ := hcs
    obtain ⟨c, _, hs⟩ := sl_of_ints hl (by rw [hz]; split <;> omega) hcell hwz
    exact ⟨c, hs⟩
end Go.Proofs.Ytcmbijckhcckpaa
