/- One start that fits: the listed tables laid; bytes that came in. -/
import Derived.Test.YtelfogdcijmenaaDoorCards
import Derived.Test.YtelfogdcijmenaaDoorTie
import Derived.Test.YtelfogdcijmenaaDoorWork
import Derived.ProofKit
import Derived.LaidMore
import Derived.OpenShut
import Derived.Lay
import Derived.SizedLaws
import Derived.Stop.Joined
import Derived.Stop.LaidErr
import Derived.Lib.LaidTab
namespace Go.Proofs.YtelfogdcijmenaaDoor
open Go.ChangeShapes Go.WideShapes Go.ChangeAt Go.RowKit

theorem own : ownKnob Tryd.prog.godebug = none := by kernel_rfl
theorem laidOut : laidOutB Tryd.prog = true := by kernel_rfl
theorem Tryd.cells5 : Tryd.prog.cellsOf 5 = 1 := by kernel_rfl
theorem Tryd.cells46 : Tryd.prog.cellsOf 46 = 1 := by kernel_rfl
theorem Tryd.cells76 : Tryd.prog.cellsOf 76 = 5 := by kernel_rfl
theorem Tryd.gMix : Tryd.prog.globalNamed "sluiceway/bech.mixes" = some 0 := by kernel_rfl
theorem Tryd.gMixType : (Tryd.prog.globals[0]?).map (·.type) = some 76 := by kernel_rfl
/-- the listed variables -/
def laid4 : List (String × DataW Unit) := Rows.bechOneRow.laid
theorem laid4_plain (W : World) : laidMetH Tryd.prog laid4 W = laidMet Tryd.prog laid4 W := MakeChecks.laidMetH_plain _ _ _ (by kernel_rfl)
/-- the table lies there -/
theorem mx_of_laid {W : World} (h : laidMetH Tryd.prog laid4 W) : Mx W := by
  rw [laid4_plain] at h
  have h1 : laidMet Tryd.prog (("sluiceway/bech.mixes", Lib.tabData .u32 [996825010, 642813549, 513874426, 1027748829, 705979059]) :: laid4.tail.tail) W := h.tail
  have hT := Lib.tabIs_of_head Tryd.gMix Tryd.gMixType Tryd.underlying76 Tryd.underlying46 Tryd.cells46 Tryd.cells76 h1
  unfold Lib.TabIs World.var? at hT
  rw [Tryd.gMix] at hT
  simp only [Option.bind_some] at hT
  split at hT
  · rename_i cs e fr hb
    refine ⟨e, fr, ?_⟩
    rw [hb]
    cases hT
    rfl
  · cases hT
set_option maxRecDepth 100000 in
theorem laid_met (os : Os) (args : Array Value) : laidMetH Tryd.prog laid4 ((World.laidAll Tryd.prog os laid4).forCall (fun _ _ => 0) ⟨#[], args, []⟩).memory := by
  rw [laid4_plain]
  exact laidMet_laidAll _ (by kernel_rfl) (by kernel_rfl)
theorem plain_of_cell {w : World} {a : Addr} {v : Value} (h : w.cell? a = some v) : a = ⟨a.block, a.off, none⟩ ∧ a.block < w.heap.size := by
  unfold World.cell? at h
  split at h
  · rename_i c e fr hb
    split at h
    · cases h
    · rename_i hs
      refine ⟨?_, lt_of_block hb⟩
      cases a with
      | mk b o s => cases s with
        | none => rfl
        | some x => simp at hs
  · cases h
/-- bytes that came in -/
theorem sl_of_ints {W : World} {a : Addr} {len cap : Nat} {zs : List Int} (hl : len ≤ cap) (hz : len ≤ zs.length) (hcell : ∀ i, i < zs.length → W.cell? (a.add i) = some (.int .u8 (zs.getD i 0))) (hw : ∀ n ∈ zs, (Lit.int .u8 n).wf = true) :
    ∃ c : Bs, c.length = len ∧ Sl W (.slice (some a) len cap) c := by
  have hlen : ((zs.take len).map (fun z => UInt8.ofNat z.toNat)).length = len := by simp; omega
  refine ⟨(zs.take len).map (fun z => UInt8.ofNat z.toNat), hlen, Or.inr ⟨a, cap, by rw [hlen], by rw [hlen]; exact hl, fun h0 => ?_, fun i hi => ?_⟩⟩
  · have h0' : 0 < len := by
      apply Nat.pos_of_ne_zero
      intro e
      apply h0
      rw [e]
      rfl
    have hc0 := hcell 0 (by omega)
    have e0 : a.add 0 = a := by simp [Addr.add]
    rw [e0] at hc0
    exact plain_of_cell hc0
  · have hi' : i < len := by rw [hlen] at hi; exact hi
    have hzi : i < zs.length := by omega
    rw [hcell i hzi]
    have hr := bounds_u8 (hw zs[i] (List.getElem_mem hzi))
    have e1 : zs.getD i 0 = zs[i] := by simp [List.getD, hzi]
    rw [e1]
    simp only [List.getElem_map, List.getElem_take]
    congr 2
    rw [UInt8.toNat_ofNat']
    omega
theorem bytes_in {H : Type} {enc : TypeId × Value → H} {W : World} {base : Nat} {v : Value} {d : DataW H} {p : List MemPlace} (hv : Value.okWide Tryd.prog W .any base 22 v) (h : DataW.Trod enc Tryd.prog W 0 (fun _ => true) true 22 v d p) : ∃ l : Bs, Sl W v l := by
  obtain ⟨fuel, hf⟩ := h
  obtain ⟨a0, len, cap, rfl⟩ := okWide_slice Tryd.underlying22 hv
  rcases open_ints Tryd.underlying22 Tryd.underlying5 Tryd.cells5 hf with ⟨hcs, hx⟩ | ⟨a, len', cap', zs, hcs, _, hl, hm, hz, hx, hcell, hwz⟩
  · simp [Value.cells] at hcs
    obtain ⟨rfl, rfl, rfl⟩ := hcs
    exact ⟨[], Sl.nil W⟩
  · simp [Value.cells] at hcs
    obtain ⟨rfl, rfl, rfl⟩ := hcs
    obtain ⟨c, _, hs⟩ := sl_of_ints hl (by rw [hz]; split <;> omega) hcell hwz
    exact ⟨c, hs⟩
theorem text_st (s : ByteArray) : ∃ l : Bs, Value.string s = St l := ⟨s.data.toList, by cases s; simp⟩
theorem byte_in {n : Int} (h : (Lit.int .u8 n).wf = true) : ∃ c : UInt8, Value.int .u8 n = By c := by
  have := bounds_u8 h
  exact ⟨UInt8.ofNat n.toNat, by unfold By; rw [UInt8.toNat_ofNat']; congr 1; omega⟩
end Go.Proofs.YtelfogdcijmenaaDoor
