/- Terms that came in; the table of powers as the program's text lays it. -/
import Derived.Test.YtfnnhekjeobicaaGreatDoorDoor
import Derived.Test.YtfnnhekjeobicaaGreatDoorFreshL
import Derived.Deep.Slices
import Derived.Lib.LaidTab
import Derived.Stop.LaidErr
namespace Go.Proofs.YtfnnhekjeobicaaGreatDoor
open Go.ChangeShapes Go.WideShapes Go.ChangeAt Go.RowKit

theorem laidOut : laidOutB Tryz.prog = true := by kernel_rfl
theorem Tryz.cells29 : Tryz.prog.cellsOf 29 = 1 := by kernel_rfl
theorem Tryz.cells72 : Tryz.prog.cellsOf 72 = 1 := by kernel_rfl
theorem Tryz.cells120 : Tryz.prog.cellsOf 120 = 20 := by kernel_rfl
theorem Tryz.gPow : Tryz.prog.globalNamed "internal/strconv.uint64pow10" = some 0 := by kernel_rfl
theorem Tryz.gPowType : (Tryz.prog.globals[0]?).map (·.type) = some 120 := by kernel_rfl

theorem pw_of_laid {W : World} (h : laidMetH Tryz.prog laid3 W) : Pw W := by
  have h1 : laidMet Tryz.prog laid3 W := h
  have h2 : laidMet Tryz.prog (("internal/strconv.uint64pow10", Lib.tabData .u64 Lib.pow10Tab) :: []) W := (h1.tail).tail
  exact Lib.tabIs_of_head Tryz.gPow Tryz.gPowType Tryz.underlying120 Tryz.underlying72 Tryz.cells72 Tryz.cells120 h2

theorem plain_of_cell {w : World} {a : Addr} {v : Value} (h : w.cell? a = some v) : a = ⟨a.block, a.off, none⟩ ∧ a.block < w.heap.size := by
  unfold World.cell? at h
  split at h
  · rename_i c e fr hb
    split at h
    · cases h
    · rename_i hs
      refine ⟨?_, lt_of_block hb⟩
      cases a with
      | mk b o s => cases s with
        | none => rfl
        | some x => simp at hs
  · cases h

theorem weights_mem {H : Type} {P : Program} {e : TypeId} {x : Nat} {d : DataW H} : ∀ {l : List (DataW H)}, d ∈ l → x ∈ d.weights P e → x ∈ DataW.weightsAll P e l
  | y :: r, hd, hx => by
    rw [DataW.weightsAll, List.mem_append]
    rcases List.mem_cons.1 hd with rfl | h
    · exact Or.inl hx
    · exact Or.inr (weights_mem h hx)

/-- the terms that came in -/
theorem terms_of {H : Type} {enc : TypeId × Value → H} {W : World} {sp : Nat → Bool} {held : Bool} {n : Nat} {v : Value} {d : DataW H} {p : List MemPlace} (h : DataW.trod enc Tryz.prog W 0 sp held n 22 [v] = some (d, p)) (hw : ∀ x ∈ d.weights Tryz.prog 22, x ≤ reachBytes) :
    ∃ (a : Option Addr) (cap : Nat) (ks : List Bs), v = .slice a ks.length cap ∧ Texts W (.slice a ks.length cap) ks ∧ ks.length ≤ maxLen ∧ ∀ i (h : i < ks.length), ks[i].length ≤ 140737488355328 := by
  rcases Go.Deep.open_slice1 Tryz.underlying22 Tryz.cells29 h with ⟨hcs, _⟩ | ⟨a, len, cap, m, k, V, D, Pl, hcs, _, hl, hm, hmm, hx, hel⟩
  · exact ⟨none, 0, [], by simpa using hcs, texts_nil W, by simp, fun i hi => by simp at hi⟩
  · have hlm : len ≤ m := by rw [hmm]; split <;> omega
    have hd : d = .slice ((List.range len).map D) ((List.range (m - len)).map fun j => D (len + j)) := (Prod.mk.inj hx).1
    have hwi : ∀ i, i < len → ∀ x ∈ (D i).weights Tryz.prog 29, x ≤ reachBytes := by
      intro i hi x hxm
      apply hw
      rw [hd, DataW.weights, Tryz.underlying22]
      refine List.mem_cons_of_mem _ (List.mem_append_left _ (weights_mem (d := D i) ?_ hxm))
      exact List.mem_map.2 ⟨i, List.mem_range.2 hi, rfl⟩
    have each : ∀ i : Nat, ∃ c : Bs, i < len → c.length ≤ 140737488355328 ∧ V i = St c := by
      intro i
      by_cases hi : i < len
      · obtain ⟨s, hs1, hs2, _⟩ := DataW.trod_string Tryz.underlying29 (hel i (by omega)).2
        have hD : D i = .lit (.string s.data.toList) := (Prod.mk.inj hs2).1
        have hb := hwi i hi s.data.toList.length (by rw [hD, DataW.weights]; exact List.mem_cons_self)
        exact ⟨s.data.toList, fun _ => ⟨reach_len hb, by simpa using hs1⟩⟩
      · exact ⟨[], fun h => absurd h hi⟩
    obtain ⟨f, hf⟩ := Classical.axiomOfChoice each
    have hlen : ((List.range len).map f).length = len := by simp
    have hg : ∀ i (h : i < ((List.range len).map f).length), ((List.range len).map f)[i] = f i := by
      intro i hi; simp
    refine ⟨some a, cap, (List.range len).map f, by rw [hlen]; simpa using hcs, ⟨_, _, rfl, fun h0 => ?_⟩, by rw [hlen]; omega, fun i hi => ?_⟩
    · have h0' : 0 < len := by
        apply Nat.pos_of_ne_zero; intro e; apply h0; rw [e]; rfl
      have hc0 := (hel 0 (by omega)).1
      have e0 : a.add 0 = a := by simp [Addr.add]
      rw [e0] at hc0
      obtain ⟨ha, hlt⟩ := plain_of_cell hc0
      refine ⟨a.block, a.off, by rw [← ha], hlt, fun i hi => ?_⟩
      have hi' : i < len := by rw [hlen] at hi; exact hi
      have hc := (hel i (by omega)).1
      rw [ha, add_plain] at hc
      rw [hc, (hf i hi').2, hg i hi]
    · rw [hg i hi]
      rw [hlen] at hi
      exact (hf i hi).1
end Go.Proofs.YtfnnhekjeobicaaGreatDoor
