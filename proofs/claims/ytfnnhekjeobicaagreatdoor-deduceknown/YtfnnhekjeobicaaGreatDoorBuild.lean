/- What build does: an op, a head and parts, put together or refused. -/
import Derived.Test.YtfnnhekjeobicaaGreatDoorWhole
import Derived.Test.YtfnnhekjeobicaaGreatDoorClone
import Derived.Lib.AppendStr
namespace Go.Proofs.YtfnnhekjeobicaaGreatDoor
open Go.RowKit

/-- a slice of texts -/
def Texts (w : World) (kv : Value) (ks : List Bs) : Prop :=
  ∃ ao cap, kv = .slice ao ks.length cap ∧ (ks ≠ [] → ∃ g o, ao = some ⟨g, o, none⟩ ∧ g < w.heap.size ∧ ∀ i (h : i < ks.length), w.cell? ⟨g, o + i, none⟩ = some (St ks[i]))

/-- how deep what is made of parts is -/
def bDeep (ks : List Bs) : Nat := ks.foldl (fun d k => max d (Tm.deep k + 1)) 1
def bSize (ks : List Bs) : Nat := ks.foldl (fun d k => d + k.length) 0

/-- what build answers -/
def bRes (op : UInt8) (head : Bs) (ks : List Bs) : Bs × Nat :=
  if ks.any (fun k => Tm.deep k == 0) then ([], 10)
  else if 64 < bDeep ks ∨ 16384 < 1 + head.length + bSize ks then ([], 3)
  else (op :: (head ++ ks.flatten), 0)

theorem any_take {ks : List Bs} {i : Nat} (h : i < ks.length) (hz : Tm.deep ks[i] = 0) : ks.any (fun k => Tm.deep k == 0) = true := by
  rw [List.any_eq_true]
  exact ⟨ks[i], List.getElem_mem h, by simp [hz]⟩

theorem take_succ' (ks : List Bs) (i : Nat) (h : i < ks.length) : ks.take (i + 1) = ks.take i ++ [ks[i]] := by
  rw [List.take_succ_eq_append_getElem h]

theorem bDeep_snoc (ks : List Bs) (k : Bs) : bDeep (ks ++ [k]) = max (bDeep ks) (Tm.deep k + 1) := by simp [bDeep]
theorem bSize_snoc (ks : List Bs) (k : Bs) : bSize (ks ++ [k]) = bSize ks + k.length := by simp [bSize]
theorem bSize_flat (ks : List Bs) : bSize ks = ks.flatten.length := by
  have : ∀ (ks : List Bs) (d : Nat), ks.foldl (fun d k => d + k.length) d = d + ks.flatten.length := by
    intro ks
    induction ks with
    | nil => intro d; simp
    | cons k ks ih => intro d; simp [ih]; omega
  simpa [bSize] using this ks 0

theorem st_size (l : Bs) : (⟨l.toArray⟩ : ByteArray).size = l.length := by simp [ByteArray.size]
theorem st_list (l : Bs) : (⟨l.toArray⟩ : ByteArray).data.toList = l := by simp

/-- the cells of bytes -/
abbrev bcs (l : Bs) : List Value := Lib.byteCells l
theorem strCells_bcs (l : Bs) : Lib.strCells ⟨l.toArray⟩ = bcs l := by simp [Lib.strCells, Lib.byteCells]
theorem bcs_app (a b : Bs) : bcs a ++ bcs b = bcs (a ++ b) := by simp [Lib.byteCells]

theorem own_block_ge {w : World} {base : Nat} {e : TypeId} {size : Nat} {v : Value} {n : Nat} {xs : List Value} (h : w.ownsRow base e size v n xs) : ∀ k, v.ownBlock = some k → base ≤ k := fun k hk => (h.lt k hk).1

theorem bSize_take (ks : List Bs) (i : Nat) : bSize (ks.take i) ≤ bSize ks := by
  rw [bSize_flat, bSize_flat]
  have : ks.flatten = (ks.take i).flatten ++ (ks.drop i).flatten := by rw [← List.flatten_append, List.take_append_drop]
  rw [this]
  simp

/-- bytes of one's own, as a text -/
theorem own_string {w : World} {base : Nat} {v : Value} {n : Nat} {l : Bs} (h : w.ownsRow base 5 1 v n (bcs l)) (hl : l ≠ []) :
    ∃ g cap, v = .slice (some ⟨g, 0, none⟩) l.length cap ∧ (∀ dst, Tryz.prog.underlying dst = some .string → (convert 82 dst (.slice (some ⟨g, 0, none⟩) l.length cap)).run Tryz.prog w = .ok (St l) w) := by
  have hn : n = l.length := by have := h.1; simp [Lib.byteCells] at this; omega
  subst hn
  rcases h.2 with ⟨_, h0⟩ | ⟨g, cap, cur, hv, _, hg, hc1, hc2, hc3, hc4⟩
  · exact absurd (List.eq_nil_of_length_eq_zero h0) hl
  · refine ⟨g, cap, hv, fun dst hd => ?_⟩
    refine run_convert_bytes_back (P := Tryz.prog) w 82 dst 5 ⟨g, 0, none⟩ cap l Tryz.underlying82 Tryz.underlying5 hd (fun j hj => ?_)
    have hcell : w.cell? ⟨g, j, none⟩ = cur[j]? := by simp [World.cell?, hg]
    have e1 : (cur.toList.take (l.length * 1))[j]? = (bcs l)[j]? := by rw [hc4]
    rw [Nat.mul_one, List.getElem?_take_of_lt hj] at e1
    have e2 : (bcs l)[j]? = some (.int .u8 (l[j].toNat : Int)) := by simp [Lib.byteCells, hj]
    rw [e2, Array.getElem?_toList] at e1
    have e3 : (⟨g, 0, none⟩ : Addr).add j = ⟨g, j, none⟩ := by simp [Addr.add]; intro h; omega
    rw [e3, hcell, e1]

theorem flat_snoc (a : List Bs) (x : Bs) : (a ++ [x]).flatten = a.flatten ++ x := by simp

theorem deep_list (l : Bs) (w : World) : Calls Tryz.prog 53 #[St l] w fun en w' => en = .returned (.int .i64 (Tm.deep l)) ∧ Below w.heap.size w w' := deep_any ⟨l.toArray⟩ w
theorem right_list (l : Bs) (w : World) : Calls Tryz.prog 28 #[St l] w fun en w' => en = .returned (.bool (Tm.deep l != 0)) ∧ Below w.heap.size w w' := right_any ⟨l.toArray⟩ w

end Go.Proofs.YtfnnhekjeobicaaGreatDoor
