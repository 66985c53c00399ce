/- Keys: one start that fits; the listed variables as the program's own text lays them; what comes in. -/
import Derived.Test.YtkifchjpgdmcoaaDoorCards
import Derived.Test.YtkifchjpgdmcoaaDoorTie
import Derived.Test.YtkifchjpgdmcoaaDoorKyD
import Derived.ProofKit
import Derived.LaidMore
import Derived.OpenShut
import Derived.SizedLaws
import Derived.Stop.Joined
import Derived.Stop.LaidErr
import Derived.Lib.LaidTab
import Derived.Deep.Slices
namespace Go.Proofs.YtkifchjpgdmcoaaDoor
open Go.ChangeShapes Go.WideShapes Go.ChangeAt Go.RowKit

theorem own : ownKnob Tryd.prog.godebug = none := by kernel_rfl
theorem laidOut : laidOutB Tryd.prog = true := by kernel_rfl
/-- the listed variables -/
def laid3 : List (String × DataW Unit) := Rows.keysMakesRow.laid
set_option maxRecDepth 100000 in
theorem door_met (os : Os) (args : Array Value) : laidMetH Tryd.prog laid3 ((World.doorLaid Tryd.prog 400 os).forCall (fun _ _ => 0) ⟨#[], args, []⟩).memory :=
  laidMetH_of_parts3 (fuel := 8) (laidMet_of_run' 8 (by kernel_rfl) (by kernel_rfl)) (by kernel_rfl) (by kernel_rfl)
theorem reach_le {n : Nat} (h : n ≤ reachBytes) : n ≤ 140737488355328 := by
  have h2 := reachBytes_lt
  have e3 : (2 : Nat) ^ 47 = 140737488355328 := by decide
  omega
theorem Tryd.gPow : Tryd.prog.globalNamed "internal/strconv.uint64pow10" = some 1 := by kernel_rfl
theorem Tryd.gPowType : (Tryd.prog.globals[1]?).map (·.type) = some 103 := by kernel_rfl
theorem Tryd.gLab : Tryd.prog.globalNamed "sluiceway/keys.labels" = some 0 := by kernel_rfl
theorem Tryd.gLabType : (Tryd.prog.globals[0]?).map (·.type) = some 56 := by kernel_rfl
theorem Tryd.c75 : Tryd.prog.cellsOf 75 = 1 := by kernel_rfl
theorem Tryd.c103 : Tryd.prog.cellsOf 103 = 20 := by kernel_rfl
theorem Tryd.c9 : Tryd.prog.cellsOf 9 = 1 := by kernel_rfl
theorem Tryd.c22 : Tryd.prog.cellsOf 22 = 1 := by kernel_rfl
theorem Tryd.c56 : Tryd.prog.cellsOf 56 = 6 := by kernel_rfl
theorem Tryd.c28 : Tryd.prog.cellsOf 28 = 6 := by kernel_rfl
theorem Tryd.c34 : Tryd.prog.cellsOf 34 = 5 := by kernel_rfl
theorem pw_of_laid {W : World} (h : laidMetH Tryd.prog laid3 W) : Pw W := by
  have h1 : laidMet Tryd.prog laid3 W := h
  have h2 : laidMet Tryd.prog (("internal/strconv.uint64pow10", Lib.tabData .u64 Lib.pow10Tab) :: [("sluiceway/keys.labels", Rows.laid_sluiceway_keys_labels)]) W := (h1.tail).tail
  exact Lib.tabIs_of_head Tryd.gPow Tryd.gPowType Tryd.underlying103 Tryd.underlying75 Tryd.c75 Tryd.c103 h2
/-- an array of strings that reads as a row of texts holds these -/
theorem cells_of_str {H : Type} {enc : TypeId × Value → H} {P : Program} {w : World} {base : Nat} {sp : Nat → Bool} {held : Bool} {fuel : Nat} {t e : TypeId} {n : Nat} {cs : List Value} {zs : List Bs} {p : List MemPlace}
    (ht : P.underlying t = some (.array n e)) (he : P.underlying e = some .string) (hce : P.cellsOf e = 1) (hct : P.cellsOf t = n)
    (h : DataW.trod enc P w base sp held fuel t cs = some (.agg (zs.map fun z => .lit (.string z)), p)) : ∀ i (hi : i < zs.length), cs[i]? = some (St zs[i]) := by
  cases fuel with
  | zero => simp [DataW.trod] at h
  | succ fuel =>
    simp only [DataW.trod, ht, hce, hct, Nat.mul_one] at h
    split at h
    · rename_i hl
      obtain ⟨xs, hm, hx⟩ := Option.map_eq_some_iff.1 h
      have hxs : xs.map (·.1) = zs.map fun z => (DataW.lit (.string z) : DataW H) := by
        have := congrArg Prod.fst hx
        simpa using this
      have hxl : xs.length = n := by simpa using Lib.mapM_length hm
      have hzl : zs.length = n := by
        have := congrArg List.length hxs
        simp at this
        omega
      intro i hi
      obtain ⟨b, hb, hf⟩ := Lib.mapM_at hm i i (List.getElem?_range (by omega))
      obtain ⟨z, hc, hz2, _⟩ := DataW.trod_string he hf
      have h1 : cs[i]? = some (.string z) := by
        have := congrArg (·[0]?) hc
        simpa [List.getElem?_take, List.getElem?_drop] using this
      have h2 : (xs.map (·.1))[i]? = some (DataW.lit (.string z.data.toList) : DataW H) := by simp [hb, hz2]
      rw [hxs] at h2
      simp only [List.getElem?_map, Option.map_eq_some_iff, DataW.lit.injEq, Lit.string.injEq] at h2
      obtain ⟨z', hz', he'⟩ := h2
      rw [List.getElem?_eq_getElem hi] at hz'
      have : zs[i] = z.data.toList := by rw [← he']; exact (Option.some.inj hz')
      rw [h1, this]
    · cases h
theorem lb_of_laid {W : World} (h : laidMetH Tryd.prog laid3 W) : Lb W := by
  have h1 : laidMet Tryd.prog laid3 W := h
  have h2 : laidMet Tryd.prog [("sluiceway/keys.labels", Rows.laid_sluiceway_keys_labels)] W := h1.tail.tail.tail
  obtain ⟨ps, ⟨g, t, cs, fuel, p, q, hg, hty, hvar, hd, _, _⟩, _⟩ := h2
  obtain rfl := Option.some.inj (Tryd.gLab.symm.trans hg)
  obtain rfl := Option.some.inj (Tryd.gLabType.symm.trans hty)
  have hc := cells_of_str (zs := [lb 0, lb 1, lb 2, lb 3, lb 4, lb 5]) Tryd.underlying56 Tryd.underlying9 Tryd.c9 Tryd.c56 hd
  intro j hj
  have h3 := World.var?_cell Tryd.gLab hvar j
  have h4 := hc j hj
  match j, hj with
  | 0, _ | 1, _ | 2, _ | 3, _ | 4, _ | 5, _ => rw [h3]; simpa using h4
theorem text_of {H : Type} {enc : TypeId × Value → H} {W : World} {sp : Nat → Bool} {held : Bool} {n : Nat} {v : Value} {d : DataW H} {p : List MemPlace} (h : DataW.trod enc Tryd.prog W 0 sp held n 22 [v] = some (d, p)) (hw : ∀ x ∈ d.weights Tryd.prog 22, x ≤ reachBytes) : ∃ l : Bs, v = St l ∧ l.length ≤ 140737488355328 := by
  obtain ⟨s, hs1, hs2, _⟩ := DataW.trod_string Tryd.underlying22 h
  have hD : d = .lit (.string s.data.toList) := (Prod.mk.inj hs2).1
  have hb := hw s.data.toList.length (by rw [hD, DataW.weights]; exact List.mem_cons_self)
  exact ⟨s.data.toList, by simpa using hs1, reach_le hb⟩
set_option maxRecDepth 100000 in
theorem secs_in {H : Type} {enc : TypeId × Value → H} {W : World} {base : Nat} {v : Value} {d : DataW H} {p : List MemPlace} (hv : Value.okWide Tryd.prog W .any base 28 v) (h : DataW.Trod enc Tryd.prog W 0 (fun _ => true) true 28 v d p) (hw : ∀ x ∈ d.weights Tryd.prog 28, x ≤ reachBytes) :
    ∃ x0 x1 x2 x3 x4 x5 : Bs, v = .agg #[St x0, St x1, St x2, St x3, St x4, St x5] ∧ x0.length ≤ 140737488355328 ∧ x1.length ≤ 140737488355328 ∧ x2.length ≤ 140737488355328 ∧ x3.length ≤ 140737488355328 ∧ x4.length ≤ 140737488355328 ∧ x5.length ≤ 140737488355328 := by
  obtain ⟨fuel, hf⟩ := h
  obtain ⟨vs, rfl, hvs⟩ := okWide_struct Tryd.underlying28 hv
  rw [Tryd.c28] at hvs
  obtain ⟨c0, c1, c2, c3, c4, c5, rfl⟩ : ∃ c0 c1 c2 c3 c4 c5, vs = #[c0, c1, c2, c3, c4, c5] := by
    match vs, hvs with
    | ⟨[c0, c1, c2, c3, c4, c5]⟩, _ => exact ⟨c0, c1, c2, c3, c4, c5, rfl⟩
  obtain ⟨xs, _, _, hx, _, hxl, hfl⟩ := DataW.trod_struct Tryd.underlying28 hf
  match xs, hxl with
  | [y0, y1, y2, y3, y4, y5], _ =>
    have g0 := hfl 0 _ rfl
    have g1 := hfl 1 _ rfl
    have g2 := hfl 2 _ rfl
    have g3 := hfl 3 _ rfl
    have g4 := hfl 4 _ rfl
    have g5 := hfl 5 _ rfl
    simp [Value.cells, Tryd.c22] at g0 g1 g2 g3 g4 g5
    have hd : d = .agg [y0.1, y1.1, y2.1, y3.1, y4.1, y5.1] := (Prod.mk.inj hx).1
    have hw1 : ∀ x, (x ∈ y0.1.weights Tryd.prog 22 ∨ x ∈ y1.1.weights Tryd.prog 22 ∨ x ∈ y2.1.weights Tryd.prog 22 ∨ x ∈ y3.1.weights Tryd.prog 22 ∨ x ∈ y4.1.weights Tryd.prog 22 ∨ x ∈ y5.1.weights Tryd.prog 22) → x ≤ reachBytes := fun x hx => by
      apply hw
      rw [hd, DataW.weights, Tryd.underlying28]
      simp only [List.map_cons, List.map_nil, DataW.weightsEach, List.mem_append, List.not_mem_nil, or_false]
      exact hx
    obtain ⟨t0, rfl, m0⟩ := text_of g0 (fun x hx => hw1 x (.inl hx))
    obtain ⟨t1, rfl, m1⟩ := text_of g1 (fun x hx => hw1 x (.inr (.inl hx)))
    obtain ⟨t2, rfl, m2⟩ := text_of g2 (fun x hx => hw1 x (.inr (.inr (.inl hx))))
    obtain ⟨t3, rfl, m3⟩ := text_of g3 (fun x hx => hw1 x (.inr (.inr (.inr (.inl hx)))))
    obtain ⟨t4, rfl, m4⟩ := text_of g4 (fun x hx => hw1 x (.inr (.inr (.inr (.inr (.inl hx))))))
    obtain ⟨t5, rfl, m5⟩ := text_of g5 (fun x hx => hw1 x (.inr (.inr (.inr (.inr (.inr (hx)))))))
    exact ⟨t0, t1, t2, t3, t4, t5, rfl, m0, m1, m2, m3, m4, m5⟩
set_option maxRecDepth 100000 in
theorem keys_in {H : Type} {enc : TypeId × Value → H} {W : World} {base : Nat} {v : Value} {d : DataW H} {p : List MemPlace} (hv : Value.okWide Tryd.prog W .any base 34 v) (h : DataW.Trod enc Tryd.prog W 0 (fun _ => true) true 34 v d p) (hw : ∀ x ∈ d.weights Tryd.prog 34, x ≤ reachBytes) :
    ∃ x0 x1 x2 x3 x4 : Bs, v = .agg #[St x0, St x1, St x2, St x3, St x4] ∧ x0.length ≤ 140737488355328 ∧ x1.length ≤ 140737488355328 ∧ x2.length ≤ 140737488355328 ∧ x3.length ≤ 140737488355328 ∧ x4.length ≤ 140737488355328 := by
  obtain ⟨fuel, hf⟩ := h
  obtain ⟨vs, rfl, hvs⟩ := okWide_struct Tryd.underlying34 hv
  rw [Tryd.c34] at hvs
  obtain ⟨c0, c1, c2, c3, c4, rfl⟩ : ∃ c0 c1 c2 c3 c4, vs = #[c0, c1, c2, c3, c4] := by
    match vs, hvs with
    | ⟨[c0, c1, c2, c3, c4]⟩, _ => exact ⟨c0, c1, c2, c3, c4, rfl⟩
  obtain ⟨xs, _, _, hx, _, hxl, hfl⟩ := DataW.trod_struct Tryd.underlying34 hf
  match xs, hxl with
  | [y0, y1, y2, y3, y4], _ =>
    have g0 := hfl 0 _ rfl
    have g1 := hfl 1 _ rfl
    have g2 := hfl 2 _ rfl
    have g3 := hfl 3 _ rfl
    have g4 := hfl 4 _ rfl
    simp [Value.cells, Tryd.c22] at g0 g1 g2 g3 g4
    have hd : d = .agg [y0.1, y1.1, y2.1, y3.1, y4.1] := (Prod.mk.inj hx).1
    have hw1 : ∀ x, (x ∈ y0.1.weights Tryd.prog 22 ∨ x ∈ y1.1.weights Tryd.prog 22 ∨ x ∈ y2.1.weights Tryd.prog 22 ∨ x ∈ y3.1.weights Tryd.prog 22 ∨ x ∈ y4.1.weights Tryd.prog 22) → x ≤ reachBytes := fun x hx => by
      apply hw
      rw [hd, DataW.weights, Tryd.underlying34]
      simp only [List.map_cons, List.map_nil, DataW.weightsEach, List.mem_append, List.not_mem_nil, or_false]
      exact hx
    obtain ⟨t0, rfl, m0⟩ := text_of g0 (fun x hx => hw1 x (.inl hx))
    obtain ⟨t1, rfl, m1⟩ := text_of g1 (fun x hx => hw1 x (.inr (.inl hx)))
    obtain ⟨t2, rfl, m2⟩ := text_of g2 (fun x hx => hw1 x (.inr (.inr (.inl hx))))
    obtain ⟨t3, rfl, m3⟩ := text_of g3 (fun x hx => hw1 x (.inr (.inr (.inr (.inl hx)))))
    obtain ⟨t4, rfl, m4⟩ := text_of g4 (fun x hx => hw1 x (.inr (.inr (.inr (.inr (hx))))))
    exact ⟨t0, t1, t2, t3, t4, rfl, m0, m1, m2, m3, m4⟩
end Go.Proofs.YtkifchjpgdmcoaaDoor
