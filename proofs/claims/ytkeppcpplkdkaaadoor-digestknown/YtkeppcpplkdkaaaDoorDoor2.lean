/- Pieces that came in. -/
import Derived.Test.YtkeppcpplkdkaaaDoorDoor
import Derived.Test.YtkeppcpplkdkaaaDoorPieceC
import Derived.Deep.Slices
namespace Go.Proofs.YtkeppcpplkdkaaaDoor
open Go.ChangeShapes Go.WideShapes Go.ChangeAt Go.RowKit

theorem Tryd.cells22 : Tryd.prog.cellsOf 22 = 1 := by kernel_rfl
theorem Tryd.bytes5 : Tryd.prog.bytesOf 5 = 1 := by kernel_rfl

theorem weights_mem {H : Type} {P : Program} {e : TypeId} {x : Nat} {d : DataW H} : ∀ {l : List (DataW H)}, d ∈ l → x ∈ d.weights P e → x ∈ DataW.weightsAll P e l
  | y :: r, hd, hx => by
    rw [DataW.weightsAll, List.mem_append]
    rcases List.mem_cons.1 hd with rfl | h
    · exact Or.inl hx
    · exact Or.inr (weights_mem h hx)

/-- one piece that came in -/
theorem piece_of {H : Type} {enc : TypeId × Value → H} {W : World} {sp : Nat → Bool} {held : Bool} {n : Nat} {v : Value} {d : DataW H} {p : List MemPlace} (h : DataW.trod enc Tryd.prog W 0 sp held n 22 [v] = some (d, p)) (hw : ∀ x ∈ d.weights Tryd.prog 22, x ≤ reachBytes) :
    ∃ c : Bs, c.length ≤ 140737488355328 ∧ ∃ ai ci, v = .slice ai c.length ci ∧ Sz W ai ci c := by
  rcases open_ints Tryd.underlying22 Tryd.underlying5 Tryd.cells5 h with ⟨hcs, _⟩ | ⟨a, len, cap, zs, hcs, _, hl, hm, hz, hx, hcell, hwz⟩
  · refine ⟨[], by simp, none, 0, ?_, sz_nil W⟩
    simpa using hcs
  · have hzl : len ≤ zs.length := by rw [hz]; split <;> omega
    obtain ⟨c, hc, hs⟩ := sz_of_ints hl hzl hcell hwz
    refine ⟨c, ?_, some a, cap, by rw [hc]; simpa using hcs, hs⟩
    have hd : d = .slice (lits .u8 (zs.take len)) (lits .u8 (zs.drop len)) := (Prod.mk.inj hx).1
    rw [hd] at hw
    have h1 := hw (((lits .u8 (zs.take len) : List (DataW H)).length + (lits .u8 (zs.drop len) : List (DataW H)).length) * Tryd.prog.bytesOf 5) (by
      rw [DataW.weights, Tryd.underlying22]
      exact List.mem_cons_self)
    rw [Tryd.bytes5] at h1
    simp [lits] at h1
    have h2 := reachBytes_lt
    have e3 : (2 : Nat) ^ 47 = 140737488355328 := by decide
    omega

/-- the pieces that came in -/
theorem ls_of {H : Type} {enc : TypeId × Value → H} {W : World} {sp : Nat → Bool} {held : Bool} {n : Nat} {v : Value} {d : DataW H} {p : List MemPlace} (h : DataW.trod enc Tryd.prog W 0 sp held n 28 [v] = some (d, p)) (hw : ∀ x ∈ d.weights Tryd.prog 28, x ≤ reachBytes) :
    ∃ (a : Option Addr) (cap : Nat) (cs : List Bs), v = .slice a cs.length cap ∧ Ls W a cap cs ∧ cs.length ≤ maxLen ∧ ∀ i, i < cs.length → (cs.getD i []).length ≤ 140737488355328 := by
  rcases Go.Deep.open_slice1 Tryd.underlying28 Tryd.cells22 h with ⟨hcs, _⟩ | ⟨a, len, cap, m, k, V, D, Pl, hcs, _, hl, hm, hmm, hx, hel⟩
  · exact ⟨none, 0, [], by simpa using hcs, ⟨Nat.le_refl _, fun h => by simp at h⟩, by simp, fun i hi => by simp at hi⟩
  · have hlm : len ≤ m := by rw [hmm]; split <;> omega
    have hd : d = .slice ((List.range len).map D) ((List.range (m - len)).map fun j => D (len + j)) := (Prod.mk.inj hx).1
    have hwi : ∀ i, i < len → ∀ x ∈ (D i).weights Tryd.prog 22, x ≤ reachBytes := by
      intro i hi x hxm
      apply hw
      rw [hd, DataW.weights, Tryd.underlying28]
      refine List.mem_cons_of_mem _ (List.mem_append_left _ (weights_mem (d := D i) ?_ hxm))
      exact List.mem_map.2 ⟨i, List.mem_range.2 hi, rfl⟩
    have each : ∀ i : Nat, ∃ c : Bs, i < len → c.length ≤ 140737488355328 ∧ ∃ ai ci, V i = .slice ai c.length ci ∧ Sz W ai ci c := by
      intro i
      by_cases hi : i < len
      · obtain ⟨c, h1⟩ := piece_of (hel i (by omega)).2 (hwi i hi)
        exact ⟨c, fun _ => h1⟩
      · exact ⟨[], fun h => absurd h hi⟩
    obtain ⟨f, hf⟩ := Classical.axiomOfChoice each
    have hg : ∀ i, i < len → ((List.range len).map f).getD i [] = f i := by
      intro i hi; simp [List.getD, hi]
    have hlen : ((List.range len).map f).length = len := by simp
    refine ⟨some a, cap, (List.range len).map f, by rw [hlen]; simpa using hcs, ⟨by rw [hlen]; exact hl, fun h0 => ?_⟩, by rw [hlen]; omega, fun i hi => ?_⟩
    · rw [hlen] at h0
      have hc0 := (hel 0 (by omega)).1
      have e0 : a.add 0 = a := by simp [Addr.add]
      rw [e0] at hc0
      obtain ⟨ha, hlt⟩ := plain_of_cell hc0
      refine ⟨a.block, a.off, by rw [← ha], hlt, fun i hi => ?_⟩
      rw [hlen] at hi
      obtain ⟨_, ai, ci, h1, h2⟩ := hf i hi
      refine ⟨ai, ci, ?_, by rw [hg i hi]; exact h2⟩
      have hc := (hel i (by omega)).1
      rw [ha, add_off] at hc
      rw [hc, h1, hg i hi]
    · rw [hlen] at hi
      rw [hg i hi]
      exact (hf i hi).1

theorem pieces_any (w : World) (a : Option Addr) (cap : Nat) (cs : List Bs) (hs : Ls w a cap cs) (hm : cs.length ≤ maxLen) (hb : ∀ i, i < cs.length → (cs.getD i []).length ≤ 140737488355328) (hkc : KC w) : Calls Tryd.prog 4 #[.slice a cs.length cap] w fun en w' => en = .returned (.bool true) ∧ Below w.heap.size w w' := by
  by_cases hl : cs.length ≤ 60
  · exact pieces_few w a cap cs hs hl hb hkc
  · exact pieces_many w a cap cs hs (by omega) hm
end Go.Proofs.YtkeppcpplkdkaaaDoor
