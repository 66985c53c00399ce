/- Keys: one start that fits; the listed variables as the program's own text lays them; what comes in. -/
import Derived.Test.YtkifchjpgdmcoaaGreatDoorCards
import Derived.Test.YtkifchjpgdmcoaaGreatDoorTie
import Derived.Test.YtkifchjpgdmcoaaGreatDoorKyD
import Derived.ProofKit
import Derived.LaidMore
import Derived.OpenShut
import Derived.SizedLaws
import Derived.Stop.Joined
import Derived.Stop.LaidErr
import Derived.Lib.LaidTab
import Derived.Deep.Slices
import Derived.HandedShaped
import Derived.Shelf.Vars
import Derived.Test.YtkifchjpgdmcoaaGreatDoorFolAll
namespace Go.Proofs.YtkifchjpgdmcoaaGreatDoor
open Go.ChangeShapes Go.WideShapes Go.ChangeAt Go.RowKit
theorem own : ownKnob Tryz.prog.godebug = none := by kernel_rfl
def laid3 : List (String × DataW Unit) := Rows.keysSecretRow.laid
set_option maxRecDepth 100000 in
theorem door_met (os : Os) (args : Array Value) : laidMetH Tryz.prog laid3 ((World.doorLaid Tryz.prog 400 os).forCall (fun _ _ => 0) ⟨#[], args, []⟩).memory :=
 laidMetH_of_parts3 (fuel := 8) (laidMet_of_run' 8 (by kernel_rfl) (by kernel_rfl)) (by kernel_rfl) (by kernel_rfl)
theorem Tryz.gPow : Tryz.prog.globalNamed "internal/strconv.uint64pow10" = some 1 := by kernel_rfl
theorem Tryz.gPowType : (Tryz.prog.globals[1]?).map (·.type) = some 129 := by kernel_rfl
theorem Tryz.gLab : Tryz.prog.globalNamed "sluiceway/keys.labels" = some 0 := by kernel_rfl
theorem Tryz.gLabType : (Tryz.prog.globals[0]?).map (·.type) = some 76 := by kernel_rfl
theorem Tryz.c106 : Tryz.prog.cellsOf 106 = 1 := by kernel_rfl
theorem Tryz.c129 : Tryz.prog.cellsOf 129 = 20 := by kernel_rfl
theorem Tryz.c9 : Tryz.prog.cellsOf 9 = 1 := by kernel_rfl
theorem Tryz.c76 : Tryz.prog.cellsOf 76 = 6 := by kernel_rfl
theorem pw_of_laid {W : World} (h : laidMetH Tryz.prog laid3 W) : Pw W := by
 have h1 : laidMet Tryz.prog laid3 W := h
 have h2 : laidMet Tryz.prog (("internal/strconv.uint64pow10", Lib.tabData .u64 Lib.pow10Tab) :: [("sluiceway/keys.labels", Rows.laid_sluiceway_keys_labels)]) W := (h1.tail).tail
 exact Lib.tabIs_of_head Tryz.gPow Tryz.gPowType Tryz.underlying129 Tryz.underlying106 Tryz.c106 Tryz.c129 h2
theorem cells_of_str {H : Type} {enc : TypeId × Value → H} {P : Program} {w : World} {base : Nat} {sp : Nat → Bool} {held : Bool} {fuel : Nat} {t e : TypeId} {n : Nat} {cs : List Value} {zs : List Bs} {p : List MemPlace}
   (ht : P.underlying t = some (.array n e)) (he : P.underlying e = some .string) (hce : P.cellsOf e = 1) (hct : P.cellsOf t = n)
   (h : DataW.trod enc P w base sp held fuel t cs = some (.agg (zs.map fun z => .lit (.string z)), p)) : ∀ i (hi : i < zs.length), cs[i]? = some (St zs[i]) := by
 cases fuel with
 | zero => simp [DataW.trod] at h
 | succ fuel =>
   simp only [DataW.trod, ht, hce, hct, Nat.mul_one] at h
   split at h
   · rename_i hl
     obtain ⟨xs, hm, hx⟩ := Option.map_eq_some_iff.1 h
     have hxs : xs.map (·.1) = zs.map fun z => (DataW.lit (.string z) : DataW H) := by
       have := congrArg Prod.fst hx
       simpa using this
     have hxl : xs.length = n := by simpa using Lib.mapM_length hm
     have hzl : zs.length = n := by
       have := congrArg List.length hxs
       simp at this
       omega
     intro i hi
     obtain ⟨b, hb, hf⟩ := Lib.mapM_at hm i i (List.getElem?_range (by omega))
     obtain ⟨z, hc, hz2, _⟩ := DataW.trod_string he hf
     have h1 : cs[i]? = some (.string z) := by
       have := congrArg (·[0]?) hc
       simpa [List.getElem?_take, List.getElem?_drop] using this
     have h2 : (xs.map (·.1))[i]? = some (DataW.lit (.string z.data.toList) : DataW H) := by simp [hb, hz2]
     rw [hxs] at h2
     simp only [List.getElem?_map, Option.map_eq_some_iff, DataW.lit.injEq, Lit.string.injEq] at h2
     obtain ⟨z', hz', he'⟩ := h2
     rw [List.getElem?_eq_getElem hi] at hz'
     have : zs[i] = z.data.toList := by rw [← he']; exact (Option.some.inj hz')
     rw [h1, this]
   · cases h
theorem lb_of_laid {W : World} (h : laidMetH Tryz.prog laid3 W) : Lb W := by
 have h1 : laidMet Tryz.prog laid3 W := h
 have h2 : laidMet Tryz.prog [("sluiceway/keys.labels", Rows.laid_sluiceway_keys_labels)] W := h1.tail.tail.tail
 obtain ⟨ps, ⟨g, t, cs, fuel, p, q, hg, hty, hvar, hd, _, _⟩, _⟩ := h2
 obtain rfl := Option.some.inj (Tryz.gLab.symm.trans hg)
 obtain rfl := Option.some.inj (Tryz.gLabType.symm.trans hty)
 have hc := cells_of_str (zs := [lb 0, lb 1, lb 2, lb 3, lb 4, lb 5]) Tryz.underlying76 Tryz.underlying9 Tryz.c9 Tryz.c76 hd
 intro j hj
 have h3 := World.var?_cell Tryz.gLab hvar j
 have h4 := hc j hj
 match j, hj with
 | 0, _ | 1, _ | 2, _ | 3, _ | 4, _ | 5, _ => rw [h3]; simpa using h4
theorem g0_of_shape {W : World} (h : W.ShapedOpen Tryz.prog) : G0 W := by
 obtain ⟨m, hm⟩ := cell_of_shapedOpen_int (P := Tryz.prog) (g := 2) (t := 3) (zero := #[.int .i64 0]) h (of_decide_eq_true (by kernel_rfl)) (by kernel_rfl) rfl (by kernel_rfl) (by kernel_rfl) Tryz.underlying3
 obtain ⟨cs, hh, hs, _⟩ := h.1 2 #[.int .i64 0] 3 (of_decide_eq_true (by kernel_rfl)) (by kernel_rfl)
 have h1 : cs.size = 1 := hs
 rw [cell_of_heap hh] at hm
 refine ⟨m, (0, 0), hh.trans ?_⟩
 have e : cs = #[.int .i64 m] := by
   apply Array.ext (by rw [h1]; rfl)
   intro i hi _
   have : i = 0 := by omega
   subst this
   rw [Array.getElem?_eq_getElem hi] at hm
   exact Option.some.inj hm
 rw [e]
end Go.Proofs.YtkifchjpgdmcoaaGreatDoor
