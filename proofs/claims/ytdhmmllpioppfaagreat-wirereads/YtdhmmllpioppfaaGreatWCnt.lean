/- The kinds of messages: a map that is laid out, and looked up. -/
import Derived.Test.YtdhmmllpioppfaaGreatWhole
import Derived.Maps.Own
import Derived.WideMake
import Derived.Deep.RegionHeld3
namespace Go.Proofs.YtdhmmllpioppfaaGreat
open Go.RowKit

/-- the kinds, and how many Nums and Terms each has -/
def ktab : List (Int × Int × Int) := [(16, 1, 0), (17, 0, 0), (18, 1, 0), (19, 1, 0), (32, 9, 6), (33, 9, 6), (34, 1, 1), (35, 0, 1), (36, 0, 1), (38, 0, 1), (39, 1, 1), (128, 3, 2), (130, 1, 1), (131, 1, 1), (132, 1, 1), (133, 1, 2), (136, 2, 2), (256, 1, 8), (257, 1, 2), (258, 7, 2)]
/-- entries of the map -/
def kes : List (Int × Int × Int) → Nat → List MapEntry
  | [], _ => []
  | (k, a, b) :: r, c => { key := .int .u16 k, val := .agg #[.int .i64 a, .int .i64 b], born := c } :: kes r (c + 1)
theorem kes_snoc : ∀ (l : List (Int × Int × Int)) (k a b : Int) (c : Nat), kes (l ++ [(k, a, b)]) c = kes l c ++ [{ key := .int .u16 k, val := .agg #[.int .i64 a, .int .i64 b], born := c + l.length }]
  | [], _, _, _, _ => rfl
  | (k', a', b') :: r, k, a, b, c => by
    rw [List.cons_append, kes, kes_snoc r k a b (c + 1), kes, List.cons_append, List.length_cons]
    congr 4
    omega
/-- where a kind stands -/
def kfind (k : Int) : List (Int × Int × Int) → Nat → Option (Nat × Value)
  | [], _ => none
  | (k', a, b) :: r, i => if k = k' then some (i, .agg #[.int .i64 a, .int .i64 b]) else kfind k r (i + 1)
theorem find_kes (k : Int) : ∀ (l : List (Int × Int × Int)) (c i : Nat), Instr.findNow (.int .u16) (.int .u16 k) (kes l c) i = some (kfind k l i)
  | [], _, _ => rfl
  | (k', a, b) :: r, c, i => by
    rw [kes, Instr.findNow, kfind]
    by_cases h : k = k'
    · simp [Instr.sameNow, h]
    · have hb : (k == k') = false := by simpa using h
      simp [Instr.sameNow, hb, h, find_kes k r (c + 1) (i + 1)]
theorem Tryz.under22 : Tryz.prog.underlying 22 = some (.int .u16) := by kernel_rfl
theorem Tryz.under50 : Tryz.prog.underlying 50 = some (.map 22 48) := by kernel_rfl
theorem alloc_set (w : World) (o o' o'' : Obj) (h : o' = o'') : w.alloc o' = { w.alloc o with heap := (w.alloc o).heap.setIfInBounds w.heap.size o'' } := by
  subst h
  have e : (w.heap.push o).setIfInBounds w.heap.size o' = w.heap.push o' := by
    apply Array.ext_getElem?
    intro i
    rw [Array.getElem?_setIfInBounds]
    by_cases hi : w.heap.size = i
    · subst hi
      rw [if_pos rfl]
      simp
    · rw [if_neg hi, Array.getElem?_push, Array.getElem?_push, if_neg (fun e => hi e.symm), if_neg (fun e => hi e.symm)]
  show ({ w with heap := w.heap.push o' } : World) = { w with heap := (w.heap.push o).setIfInBounds w.heap.size o' }
  rw [e]
/-- the world with the first n of the kinds in the map -/
def kW (w : World) (n : Nat) : World := w.alloc (.map (kes (ktab.take n) 0).toArray n)
theorem kW_size (w : World) (n : Nat) : (kW w n).heap.size = w.heap.size + 1 := by simp [kW]
theorem kW_at (w : World) (n : Nat) : (kW w n).heap[w.heap.size]? = some (.map (kes (ktab.take n) 0).toArray n) := heap_alloc_new w _
theorem kW_below (w : World) (n : Nat) : Below w.heap.size w (kW w n) := (Below.refl _ w).alloc (Nat.le_refl _) _
theorem kW_make (w : World) : (Instr.makeMap 50 none).run Tryz.prog w = .ok (.map (some w.heap.size)) (kW w 0) := rfl
theorem kW_put (w : World) (n : Nat) (k a b : Int) (hn : n < 20) (ht : ktab[n]? = some (k, a, b)) (hf : kfind k (ktab.take n) 0 = none) :
    (Instr.mapUpdate 50 (.map (some w.heap.size)) (.int .u16 k) (.agg #[.int .i64 a, .int .i64 b])).run Tryz.prog (kW w n) = .ok () (kW w (n + 1)) := by
  have hfn : Instr.findNow (.int .u16) (.int .u16 k) ((kes (ktab.take n) 0).toArray).toList 0 = some none := by rw [List.toList_toArray, find_kes, hf]
  have hc : (Instr.checkKey false 10000 22 (.int .u16 k)).run Tryz.prog (kW w n) = .ok () (kW w n) := MapKept.run_checkKey (k := .int .u16 k) Tryz.under22 (by simp [MapKept.IsKey]) false 9999
  have hW : kW w (n + 1) = { kW w n with heap := (kW w n).heap.setIfInBounds w.heap.size (.map ((kes (ktab.take n) 0).toArray.push { key := .int .u16 k, val := .agg #[.int .i64 a, .int .i64 b], born := n }) (n + 1)) } := by
    have ht2 : ktab.take (n + 1) = ktab.take n ++ [(k, a, b)] := by
      rw [List.take_add_one, ht]
      rfl
    have hl : (ktab.take n).length = n := by rw [List.length_take]; show min n 20 = n; omega
    unfold kW
    rw [ht2, kes_snoc, hl, Nat.zero_add]
    exact alloc_set w _ _ _ (by simp)
  simp [Instr.mapUpdate, run_underlying Tryz.under50, MapKept.run_getObj_map (kW_at w n), hc, MapKept.run_findKey Tryz.under22 hfn, MapKept.run_setObj_map _ (kW_at w n), Result.andThen, hW]
/-- how many Nums and Terms a kind has; is it known? -/
def cntK (k : Int) : Int × Int × Bool := match ktab.find? (fun t => t.1 == k) with
  | some t => (t.2.1, t.2.2, true)
  | none => (0, 0, false)
theorem kfind_cnt (k : Int) : ∀ (l : List (Int × Int × Int)) (i : Nat), (kfind k l i).map (·.2) = (l.find? (fun t => t.1 == k)).map (fun t => .agg #[.int .i64 t.2.1, .int .i64 t.2.2])
  | [], _ => rfl
  | (k', a, b) :: r, i => by
    rw [kfind, List.find?_cons]
    by_cases h : k = k'
    · simp [h]
    · rw [if_neg h, show (k' == k) = false by simpa using fun e => h e.symm]
      exact kfind_cnt k r (i + 1)
theorem Tryz.zero48 (W : World) : (zeroValue 48).run Tryz.prog W = .ok (.agg #[.int .i64 0, .int .i64 0]) W := by
  have h : (Tryz.prog.info? 48).map (·.zero) = some (some (.agg #[.int .i64 0, .int .i64 0])) := by kernel_rfl
  obtain ⟨i, hi, hz⟩ := Option.map_eq_some_iff.1 h
  simp [zeroValue, typeInfo, hi, hz, go_sem]
theorem kW_look (w : World) (k : Int) : (Instr.lookup 50 (.map (some w.heap.size)) (.int .u16 k) true).run Tryz.prog (kW w 20) = .ok (.tuple #[.agg #[.int .i64 (cntK k).1, .int .i64 (cntK k).2.1], .bool (cntK k).2.2]) (kW w 20) := by
  have ht : ktab.take 20 = ktab := rfl
  have hfn : Instr.findNow (.int .u16) (.int .u16 k) ((kes ktab 0).toArray).toList 0 = some (kfind k ktab 0) := by rw [List.toList_toArray, find_kes]
  have hat := kW_at w 20
  rw [ht] at hat
  have hc : ∀ e, (Instr.checkKey e 10000 22 (.int .u16 k)).run Tryz.prog (kW w 20) = .ok () (kW w 20) := fun e => MapKept.run_checkKey (k := .int .u16 k) Tryz.under22 (by simp [MapKept.IsKey]) e 9999
  have hk := kfind_cnt k ktab 0
  unfold cntK
  cases hq : ktab.find? (fun t => t.1 == k) with
  | none =>
    rw [hq] at hk
    have hz : kfind k ktab 0 = none := by simpa using hk
    rw [hz] at hfn
    simp [Instr.lookup, run_underlying Tryz.under50, MapKept.run_getObj_map hat, hc, MapKept.run_findKey Tryz.under22 hfn, Result.andThen, go_sem]
  | some t =>
    rw [hq] at hk
    obtain ⟨z, hz, he⟩ := Option.map_eq_some_iff.1 hk
    rw [hz] at hfn
    obtain ⟨z1, z2⟩ := z
    simp only at he
    subst he
    simp [Instr.lookup, run_underlying Tryz.under50, MapKept.run_getObj_map hat, hc, MapKept.run_findKey Tryz.under22 hfn, Result.andThen, go_sem]
set_option maxRecDepth 100000 in
set_option maxHeartbeats 4000000 in
theorem kinds_any (w : World) : Calls Tryz.prog 16 #[] w fun e w' => e = .returned (.map (some w.heap.size)) ∧ w' = kW w 20 := by
  have hm := kW_make w
  have h0 : (Instr.mapUpdate 50 (.map (some w.heap.size)) (.int .u16 16) (.agg #[.int .i64 1, .int .i64 0])).run Tryz.prog (kW w 0) = .ok () (kW w 1) := kW_put w 0 16 1 0 (by decide) rfl (by decide)
  have h1 : (Instr.mapUpdate 50 (.map (some w.heap.size)) (.int .u16 17) (.agg #[.int .i64 0, .int .i64 0])).run Tryz.prog (kW w 1) = .ok () (kW w 2) := kW_put w 1 17 0 0 (by decide) rfl (by decide)
  have h2 : (Instr.mapUpdate 50 (.map (some w.heap.size)) (.int .u16 18) (.agg #[.int .i64 1, .int .i64 0])).run Tryz.prog (kW w 2) = .ok () (kW w 3) := kW_put w 2 18 1 0 (by decide) rfl (by decide)
  have h3 : (Instr.mapUpdate 50 (.map (some w.heap.size)) (.int .u16 19) (.agg #[.int .i64 1, .int .i64 0])).run Tryz.prog (kW w 3) = .ok () (kW w 4) := kW_put w 3 19 1 0 (by decide) rfl (by decide)
  have h4 : (Instr.mapUpdate 50 (.map (some w.heap.size)) (.int .u16 32) (.agg #[.int .i64 9, .int .i64 6])).run Tryz.prog (kW w 4) = .ok () (kW w 5) := kW_put w 4 32 9 6 (by decide) rfl (by decide)
  have h5 : (Instr.mapUpdate 50 (.map (some w.heap.size)) (.int .u16 33) (.agg #[.int .i64 9, .int .i64 6])).run Tryz.prog (kW w 5) = .ok () (kW w 6) := kW_put w 5 33 9 6 (by decide) rfl (by decide)
  have h6 : (Instr.mapUpdate 50 (.map (some w.heap.size)) (.int .u16 34) (.agg #[.int .i64 1, .int .i64 1])).run Tryz.prog (kW w 6) = .ok () (kW w 7) := kW_put w 6 34 1 1 (by decide) rfl (by decide)
  have h7 : (Instr.mapUpdate 50 (.map (some w.heap.size)) (.int .u16 35) (.agg #[.int .i64 0, .int .i64 1])).run Tryz.prog (kW w 7) = .ok () (kW w 8) := kW_put w 7 35 0 1 (by decide) rfl (by decide)
  have h8 : (Instr.mapUpdate 50 (.map (some w.heap.size)) (.int .u16 36) (.agg #[.int .i64 0, .int .i64 1])).run Tryz.prog (kW w 8) = .ok () (kW w 9) := kW_put w 8 36 0 1 (by decide) rfl (by decide)
  have h9 : (Instr.mapUpdate 50 (.map (some w.heap.size)) (.int .u16 38) (.agg #[.int .i64 0, .int .i64 1])).run Tryz.prog (kW w 9) = .ok () (kW w 10) := kW_put w 9 38 0 1 (by decide) rfl (by decide)
  have h10 : (Instr.mapUpdate 50 (.map (some w.heap.size)) (.int .u16 39) (.agg #[.int .i64 1, .int .i64 1])).run Tryz.prog (kW w 10) = .ok () (kW w 11) := kW_put w 10 39 1 1 (by decide) rfl (by decide)
  have h11 : (Instr.mapUpdate 50 (.map (some w.heap.size)) (.int .u16 128) (.agg #[.int .i64 3, .int .i64 2])).run Tryz.prog (kW w 11) = .ok () (kW w 12) := kW_put w 11 128 3 2 (by decide) rfl (by decide)
  have h12 : (Instr.mapUpdate 50 (.map (some w.heap.size)) (.int .u16 130) (.agg #[.int .i64 1, .int .i64 1])).run Tryz.prog (kW w 12) = .ok () (kW w 13) := kW_put w 12 130 1 1 (by decide) rfl (by decide)
  have h13 : (Instr.mapUpdate 50 (.map (some w.heap.size)) (.int .u16 131) (.agg #[.int .i64 1, .int .i64 1])).run Tryz.prog (kW w 13) = .ok () (kW w 14) := kW_put w 13 131 1 1 (by decide) rfl (by decide)
  have h14 : (Instr.mapUpdate 50 (.map (some w.heap.size)) (.int .u16 132) (.agg #[.int .i64 1, .int .i64 1])).run Tryz.prog (kW w 14) = .ok () (kW w 15) := kW_put w 14 132 1 1 (by decide) rfl (by decide)
  have h15 : (Instr.mapUpdate 50 (.map (some w.heap.size)) (.int .u16 133) (.agg #[.int .i64 1, .int .i64 2])).run Tryz.prog (kW w 15) = .ok () (kW w 16) := kW_put w 15 133 1 2 (by decide) rfl (by decide)
  have h16 : (Instr.mapUpdate 50 (.map (some w.heap.size)) (.int .u16 136) (.agg #[.int .i64 2, .int .i64 2])).run Tryz.prog (kW w 16) = .ok () (kW w 17) := kW_put w 16 136 2 2 (by decide) rfl (by decide)
  have h17 : (Instr.mapUpdate 50 (.map (some w.heap.size)) (.int .u16 256) (.agg #[.int .i64 1, .int .i64 8])).run Tryz.prog (kW w 17) = .ok () (kW w 18) := kW_put w 17 256 1 8 (by decide) rfl (by decide)
  have h18 : (Instr.mapUpdate 50 (.map (some w.heap.size)) (.int .u16 257) (.agg #[.int .i64 1, .int .i64 2])).run Tryz.prog (kW w 18) = .ok () (kW w 19) := kW_put w 18 257 1 2 (by decide) rfl (by decide)
  have h19 : (Instr.mapUpdate 50 (.map (some w.heap.size)) (.int .u16 258) (.agg #[.int .i64 7, .int .i64 2])).run Tryz.prog (kW w 19) = .ok () (kW w 20) := kW_put w 19 258 7 2 (by decide) rfl (by decide)
  go_enter Tryz.func16, Tryz.ntmps16
  go_wp2
  go_ret
  exact ⟨rfl, rfl⟩
set_option maxRecDepth 100000 in
set_option maxHeartbeats 2000000 in
theorem counts_any (k : Int) (w : World) : Calls Tryz.prog 7 #[.int .u16 k] w fun e w' => e = .returned (.tuple #[.int .i64 (cntK k).1, .int .i64 (cntK k).2.1, .bool (cntK k).2.2]) ∧ Below w.heap.size w w' := by
  have hl := kW_look w k
  have HB := hid (kW_below w 20)
  have hz := kW_size w 20
  generalize cntK k = c at hl
  obtain ⟨a, b, f⟩ := c
  go_enter Tryz.func7, Tryz.ntmps7
  go_wp2_with (first | (go_at_call 16; refine (kinds_any _).mono ?_; rintro e w1 ⟨rfl, rfl⟩))
  go_quiet (fail)
  go_wp2_with fail
  refine bodyPost_ret (v := .tuple #[.int .i64 a, .int .i64 b, .bool f]) (by simp [results, Tryz.results7, go_sem]) rfl ⟨rfl, ?_⟩
  exact below_drewN (((HB.out).alloc (by rw [hz]; omega) _)) _
end Go.Proofs.YtdhmmllpioppfaaGreat
