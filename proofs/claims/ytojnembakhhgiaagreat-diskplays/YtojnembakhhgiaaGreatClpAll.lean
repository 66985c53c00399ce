import Derived.Test.YtojnembakhhgiaaGreatStep
import Derived.Lib.BufferWrite
import Derived.Lib.UnsafeStr
/- What a text's copy does; a small number's digits. -/
namespace Go.Proofs.YtojnembakhhgiaaGreat
open Go.RowKit

theorem Tryz.info5 : (Tryz.prog.info? 5).map (fun i => (i.zero, i.size, i.bytes)) = some (some (.int .u8 0), 1, 1) := by kernel_rfl

set_option maxHeartbeats 4000000 in
set_option maxRecDepth 100000 in
theorem slite_any (s : ByteArray) (w : World) (hlim : s.size ≤ 40000) :
    Calls Tryz.prog 68 #[.string s] w fun e w' => e = .returned (.string s) ∧ Below w.heap.size w w' := by
  by_cases h0 : s.size = 0
  · have hs : s = ⟨#[]⟩ := ByteArray.ext (Array.eq_empty_of_size_eq_zero h0)
    subst hs
    go_enter Tryz.func68, Tryz.ntmps68
    go_wp2
    go_ret
    exact ⟨rfl, Below.refl _ _⟩
  · obtain ⟨i0, hi, hz0, hz1, hz2⟩ := info_parts Tryz.info5
    have hinfo : (Tryz.prog.info? 5).map (·.size) = some 1 := by rw [hi]; simp [hz1]
    have hco : Tryz.prog.cellsOf 5 = 1 := by simp [Program.cellsOf, hi, hz1]
    obtain ⟨M, hM⟩ : ∃ M, M = madeCells (Value.int .u8 0).cells (((s.size : Nat) : Int).toNat * i0.size) := ⟨_, rfl⟩
    have hMs : M.size = s.size := by rw [hM, size_madeCells, hz1]; simp
    have hmk : ∀ W : World, (Instr.makeSlice 47 (.int .i64 (s.size : Int)) (.int .i64 (s.size : Int))).run Tryz.prog W = .ok (.slice (some ⟨W.heap.size, 0, none⟩) s.size s.size) (W.alloc (.cells M 5)) := fun W => by
      have h := run_make (P := Tryz.prog) W 47 5 i0 (.int .u8 0) Tryz.underlying47 hi hz0 .i64 .i64 (s.size : Int) (s.size : Int) (by omega) (by omega) (by rw [hz2]; omega) (by omega)
      rw [← hM] at h
      simpa using h
    clear hM
    have hcp := Lib.run_copy_row_string (P := Tryz.prog) (w.alloc (.cells M 5)) 47 9 3 5 w.heap.size 0 s.size s.size s M 5 Tryz.underlying47 hinfo (heap_alloc_new w _) (Nat.le_refl _) (by omega)
    obtain ⟨Y, hY⟩ : ∃ Y, Y = (M.toList.take 0 ++ Lib.byteCells s.data.toList ++ M.toList.drop (0 + s.size)).toArray := ⟨_, rfl⟩
    rw [← hY] at hcp
    have hYl : Y.toList = Lib.byteCells s.data.toList := by
      rw [hY, List.toList_toArray, List.take_zero, List.nil_append, List.drop_of_length_le (by rw [Array.length_toList]; omega), List.append_nil]
    have hYs : Y.size = s.size := by rw [← Array.length_toList, hYl, Lib.byteCells_length, ← Lib.size_eq]
    have hgY : ((w.alloc (.cells M 5)).setRow w.heap.size Y).heap[w.heap.size]? = some (.cells Y 5 (0, 0)) := setRow_heap _ _ M _ 5 (0, 0) (heap_alloc_new w _)
    have hne : s.data.toList ≠ [] := fun e => h0 (by rw [Lib.size_eq, e]; rfl)
    have hUS := Lib.run_unsafeString_row (P := Tryz.prog) ((w.alloc (.cells M 5)).setRow w.heap.size Y) 112 3 9 5 Tryz.underlying112 hco w.heap.size Y.size (by unfold World.shape?; rw [hgY]) s.data.toList hne (by rw [← Lib.size_eq]; omega) (by rw [← Lib.size_eq]; omega)
      (fun j x hx => Lib.cells_of_row hgY Y.size j _ (by rw [List.take_of_length_le (by rw [Array.length_toList]; exact Nat.le_refl _), hYl]; simp [Lib.byteCells, hx]))
    rw [← Lib.size_eq] at hUS
    clear hY
    go_enter Tryz.func68, Tryz.ntmps68
    go_wp2
    go_ret
    have hb1 : Below w.heap.size w (w.alloc (.cells M 5)) := (Below.refl _ w).alloc (Nat.le_refl _) _
    have hb2 : Below w.heap.size (w.alloc (.cells M 5)) ((w.alloc (.cells M 5)).setRow w.heap.size Y) := ⟨rfl, rfl, rfl, by simp, fun k hk => setRow_other _ _ _ _ (by omega)⟩
    exact ⟨rfl, Lib.below_freeze (hb1.trans hb2) (p := ⟨w.heap.size, 0, none⟩) (Nat.le_refl _) _⟩

set_option maxHeartbeats 400000 in
theorem clone_any (s : ByteArray) (w : World) (hlim : s.size ≤ 40000) :
    Calls Tryz.prog 47 #[.string s] w fun e w' => e = .returned (.string s) ∧ Below w.heap.size w w' := by
  go_enter Tryz.func47, Tryz.ntmps47
  go_wp2_with fail
  refine (slite_any s _ hlim).mono ?_
  rintro e w1 ⟨rfl, hb⟩
  have HB := hid hb
  clear hb
  go_wp2_with fail
  go_ret
  exact ⟨rfl, HB.out⟩

end Go.Proofs.YtojnembakhhgiaaGreat

/- A file is given its place. -/
namespace Go.Proofs.YtojnembakhhgiaaGreat
open Go.RowKit

theorem below_kf {F : List Nat} {w w' : World} (h : Below w.heap.size w w') : Kf F w w' := ⟨h.os, h.tape, h.output, h.size, fun g hg _ => h.block g hg⟩
theorem grown_kf {F : List Nat} {w w' : World} {b : Nat} (h : w.grownBy w' (some b)) (hb : b ∈ F) : Kf F w w' := ⟨h.os, h.tape, h.output, h.size, fun g hg hF => h.block g hg (fun e => by cases e; exact hF hb)⟩
theorem Kf.more {F G : List Nat} {w w' : World} (h : Kf F w w') (hs : ∀ g ∈ F, g ∈ G) : Kf G w w' := ⟨h.os, h.tape, h.output, h.size, fun g hg hG => h.blk g hg (fun hF => hG (hs g hF))⟩
theorem drew_below {w W : World} (h : Below w.drew.heap.size w.drew W) : Below w.heap.size w W := ⟨h.os, h.tape, h.output, h.size, h.block⟩
set_option maxRecDepth 100000 in
set_option maxHeartbeats 4000000 in
theorem place_some (w : World) (d b p : Nat) (cs : Array Value) (N : NM) (t : Bs) (ht : t.length ≤ 100) (hblk : w.heap[d]? = some (.cells cs 56 (0, 0))) (hc : cs[1]? = some (.map (some b))) (hm : Om w b N) (hbd : b ≠ d) (U : List Bs) (hU : ∀ t, (N t).isSome = true → t ∈ U) (hUl : U.length ≤ 1000) :
    Calls Tryz.prog 46 #[.pointer (some ⟨d, 0, none⟩), St t, .pointer (some ⟨p, 0, none⟩)] w fun e w' => e = .returned (.tuple #[]) ∧ w'.heap[d]? = some (.cells cs 56 (0, 0)) ∧ Om w' b (nput N t p) ∧ Kf [b] w w' := by
  have c1 : w.cell? ⟨d, 1, none⟩ = some (.map (some b)) := (cell_of_heap hblk 1).trans hc
  have HCL := hid (fun W => clone_any ⟨t.toArray⟩ W (by simp [ByteArray.size]; omega))
  have HST : Hid (∀ W, Below w.heap.size w W → ∃ w', (Instr.mapUpdate 52 (.map (some b)) (St t) (.pointer (some ⟨p, 0, none⟩))).run Tryz.prog W = .ok () w' ∧ w'.heap[d]? = some (.cells cs 56 (0, 0)) ∧ Om w' b (nput N t p) ∧ Kf [b] w w') := hid (fun W hb => by
    obtain ⟨w', h1, h2, h3⟩ := (hm.same (hb.block b hm.lt)).store U hU (by omega) t (by omega) p
    have hd : d < w.heap.size := lt_of_block hblk
    refine ⟨w', h1, ?_, h2, (below_kf hb).trans (grown_kf h3 (by simp)) (fun g hg => .inl hg)⟩
    rw [h3.block d (Nat.lt_of_lt_of_le hd hb.size) (fun e => hbd (by cases e; rfl)), hb.block d hd]
    exact hblk)
  have HCC : Hid (∀ W, Below w.heap.size w W → W.cell? ⟨d, 1, none⟩ = some (.map (some b))) := hid (fun W hb => by rw [← c1]; exact World.cell?_of_block (hb.block d (lt_of_block hblk)))
  have HC1 := hid hc
  have hnl : ∀ W, (binOp BinOp.eql 52 (.map (some b)) (.map none)).run Tryz.prog W = .ok (.bool false) W := fun W => by kernel_rfl
  clear hm hblk hc
  go_enter Tryz.func46, Tryz.ntmps46
  go_wp2_with fail
  go_region_held3 (fun w' => w'.cell? ⟨d, 1, none⟩ = some (.map (some b))) (go_keep) (first | (go_at_call 47; refine (HCL.out _).mono ?_; rintro e w2 ⟨rfl, hb2⟩; obtain ⟨w3, hrun, hd3, ho3, hk3⟩ := HST.out w2 (drew_below hb2); have hc2 := HCC.out w2 (drew_below hb2); have hc3 := (cell_of_heap hd3 1).trans HC1.out; have HR := hid (And.intro hd3 (And.intro ho3 hk3)); clear hd3 ho3 hk3 hb2))
  refine bodyPost_end (results_none rfl _ _ _) rfl ?_
  exact ⟨rfl, HR.out⟩
set_option maxRecDepth 100000 in
set_option maxHeartbeats 4000000 in
theorem place_none (w : World) (d p : Nat) (cs : Array Value) (t : Bs) (ht : t.length ≤ 100) (hblk : w.heap[d]? = some (.cells cs 56 (0, 0))) (hc : cs[1]? = some (.map none)) :
    Calls Tryz.prog 46 #[.pointer (some ⟨d, 0, none⟩), St t, .pointer (some ⟨p, 0, none⟩)] w fun e w' => e = .returned (.tuple #[]) ∧ w'.heap[d]? = some (.cells (cs.setIfInBounds 1 (.map (some w.heap.size))) 56 (0, 0)) ∧ Om w' w.heap.size (nput (fun _ => none) t p) ∧ Kf [d] w w' := by
  have c1 : w.cell? ⟨d, 1, none⟩ = some (.map none) := (cell_of_heap hblk 1).trans hc
  have hd : d < w.heap.size := lt_of_block hblk
  have HCL := hid (fun W => clone_any ⟨t.toArray⟩ W (by simp [ByteArray.size]; omega))
  obtain ⟨W1, hW1⟩ : ∃ W1, W1 = (w.setCell ⟨d, 1, none⟩ (.map (some w.heap.size))).alloc (.map #[] 0) := ⟨_, rfl⟩
  have hsz : (w.setCell ⟨d, 1, none⟩ (.map (some w.heap.size))).heap.size = w.heap.size := by simp [World.setCell]
  have hs1 : W1.heap.size = w.heap.size + 1 := by rw [hW1]; simp [World.setCell]
  have hd1 : W1.heap[d]? = some (.cells (cs.setIfInBounds 1 (.map (some w.heap.size))) 56 (0, 0)) := by
    rw [hW1, Below.heap_alloc _ _ _ (by omega)]
    exact heap_setCell_same hblk 1 _
  have hcs : (cs.setIfInBounds 1 (.map (some w.heap.size)))[1]? = some (.map (some w.heap.size)) := by
    have : 1 < cs.size := (Array.getElem?_eq_some_iff.1 hc).1
    simp [this]
  have hc1 : W1.cell? ⟨d, 1, none⟩ = some (.map (some w.heap.size)) := (cell_of_heap hd1 1).trans hcs
  have ho1 : Om W1 w.heap.size (fun _ => none) := by
    have := Om.made (w.setCell ⟨d, 1, none⟩ (.map (some w.heap.size)))
    rw [hsz] at this
    rw [hW1]
    exact this
  have hk1 : Kf [d] w W1 := by
    rw [hW1]
    exact (Kf.set w (List.mem_singleton.2 rfl) _ _).trans (below_kf (F := [d]) ((Below.refl _ _).alloc (Nat.le_refl _) _)) (fun g hg => .inl hg)
  have f1 := frozen_of_heap ((Below.heap_alloc w (.map #[] 0) _ hd).trans hblk) 1
  have c1' : (w.alloc (.map #[] 0)).cell? ⟨d, 1, none⟩ = some (.map none) := (cell_of_heap ((Below.heap_alloc w (.map #[] 0) _ hd).trans hblk) 1).trans hc
  have HST : Hid (∀ W, Below W1.heap.size W1 W → ∃ w', (Instr.mapUpdate 52 (.map (some w.heap.size)) (St t) (.pointer (some ⟨p, 0, none⟩))).run Tryz.prog W = .ok () w' ∧ w'.heap[d]? = some (.cells (cs.setIfInBounds 1 (.map (some w.heap.size))) 56 (0, 0)) ∧ Om w' w.heap.size (nput (fun _ => none) t p) ∧ Kf [d] w w') := hid (fun W hb => by
    obtain ⟨w', h1, h2, h3⟩ := (ho1.same (hb.block _ (by omega))).store [] (fun _ h => (by cases h)) (by simp) t (by omega) p
    refine ⟨w', h1, ?_, h2, (hk1.trans (below_kf (F := [d]) hb) (fun g hg => .inl hg)).trans (grown_kf (F := [w.heap.size]) h3 (by simp)) (fun g hg => .inr (by simp at hg; omega))⟩
    rw [h3.block d (by have := hb.size; omega) (fun e => by cases e; omega), hb.block d (by omega)]
    exact hd1)
  have HCC : Hid (∀ W, Below W1.heap.size W1 W → W.cell? ⟨d, 1, none⟩ = some (.map (some w.heap.size))) := hid (fun W hb => by rw [← hc1]; exact World.cell?_of_block (hb.block d (by omega)))
  have HC1 := hid hcs
  have hnl : ∀ W, (binOp BinOp.eql 52 (.map none) (.map none)).run Tryz.prog W = .ok (.bool true) W := fun W => by kernel_rfl
  have hmk : ∀ W : World, (Instr.makeMap 52 none).run Tryz.prog W = .ok (.map (some W.heap.size)) (W.alloc (.map #[] 0)) := fun W => rfl
  clear hblk hc hs1 hd1 hcs ho1 hk1 hsz
  go_enter Tryz.func46, Tryz.ntmps46
  go_wp2_with fail
  rw [← hW1]
  clear hW1 c1 c1' f1
  go_region_held3 (fun w' => w'.cell? ⟨d, 1, none⟩ = some (.map (some w.heap.size))) (go_keep) (first | (go_at_call 47; refine (HCL.out _).mono ?_; rintro e w2 ⟨rfl, hb2⟩; obtain ⟨w3, hrun, hd3, ho3, hk3⟩ := HST.out w2 (drew_below hb2); have hc2 := HCC.out w2 (drew_below hb2); have hc3 := (cell_of_heap hd3 1).trans HC1.out; have HR := hid (And.intro hd3 (And.intro ho3 hk3)); clear hd3 ho3 hk3 hb2))
  refine bodyPost_end (results_none rfl _ _ _) rfl ?_
  exact ⟨rfl, HR.out⟩
end Go.Proofs.YtojnembakhhgiaaGreat
