/- The words by their letters' bytes. -/
import Derived.Test.YtelfogdcijmenaaDoorPart
import Derived.Laws.ResultCell
namespace Go.Proofs.YtelfogdcijmenaaDoor
open Go.RowKit

/-- the table when the first k words stand in it -/
def tabK : Nat → Bs
  | 0 => List.replicate 256 255
  | k + 1 => (tabK k).set (letters.getD k 0).toNat (UInt8.ofNat k)
def fillK (i : Nat) : Bs := List.replicate i 255 ++ List.replicate (256 - i) 0
theorem tab_len (k : Nat) : (tabK k).length = 256 := by
  induction k with
  | zero => exact List.length_replicate
  | succ k ih => rw [tabK, List.length_set, ih]
theorem tab_all : ∀ c : Fin 256, (tabK 32).getD c.val 0 = wordOf (UInt8.ofNat c.val) := by decide +kernel
theorem tab_get (c : UInt8) : (tabK 32)[c.toNat]'(by rw [tab_len]; exact c.toNat_lt) = wordOf c := by
  have h := tab_all ⟨c.toNat, c.toNat_lt⟩
  simp only [UInt8.ofNat_toNat] at h
  rw [← h]
  simp [List.getD, tab_len, c.toNat_lt]
theorem fill_len (i : Nat) (h : i ≤ 256) : (fillK i).length = 256 := by simp [fillK]; omega
theorem fill_set (i : Nat) (h : i < 256) : (fillK i).set i 255 = fillK (i + 1) := by
  unfold fillK
  rw [List.set_append_right _ _ (by simp)]
  have e : 256 - i = (256 - (i + 1)) + 1 := by omega
  rw [e, List.replicate_succ, List.length_replicate, Nat.sub_self, List.set_cons_zero, List.replicate_succ', List.append_assoc]
  rfl
theorem bcs_set (l : Bs) (i : Nat) (c : UInt8) : (bcs l).toArray.setIfInBounds i (By c) = (bcs (l.set i c)).toArray := by
  simp [Lib.byteCells, List.map_set]
theorem Tryd.size62 : (Tryd.prog.info? 62).map (·.size) = some 256 := by kernel_rfl
theorem zero62 (W : World) : (zeroValue 62).run Tryd.prog W = .ok (.agg (bcs (fillK 0)).toArray) W := by kernel_rfl
theorem wpList_store_arr {P : Program} (w : World) {ops : Array Oper} {rest : List Oper} {o : Oper} {a : Act} {Q : Exit → Act → World → Prop} (hg : o.guard = none) (x y : Operand) (t : TypeId) (hop : o.op = Op.store t x y) (hdst : o.dst = none)
    (g : Nat) (e : TypeId) (old cs : Array Value) (hx : a.eval x = .pointer (some ⟨g, 0, none⟩)) (hy : a.eval y = .agg cs) (hb : w.heap[g]? = some (.cells old e (0, 0))) (hi : (P.info? t).map (·.size) = some cs.size) (ho : old.size = cs.size) (h1 : cs.all (·.oneCell') = true)
    (hK : wpList P ops Q rest a (w.setRow g cs)) : wpList P ops Q (o :: rest) a w := by
  refine wpList_plain hg fun K hK' => ?_
  have hrun : (Instr.storeAt t (.pointer (some ⟨g, 0, none⟩)) (.agg cs)).run P w = .ok () (w.setRow g cs) := by
    simp only [Instr.storeAt, Instr.sureAddr, Sem.run_bind, Sem.run_pure, Result.andThen]
    exact run_storeVar_row _ _ e t old cs hb hi ho h1
  unfold Oper.wp
  simp [execOp, hop, hx, hy, hrun, Result.andThen]
  exact hK' _ _ (by simpa [Act.put, hdst] using hK)
theorem setRow_same {w : World} {g : Nat} {old cs : Array Value} {e : TypeId} {fr : Nat × Nat} (h : w.heap[g]? = some (.cells old e fr)) : (w.setRow g cs).heap[g]? = some (.cells cs e fr) := by
  simp [World.setRow, Array.getElem?_modify, h]
theorem setRow_ne {w : World} {g k : Nat} {cs : Array Value} (h : k ≠ g) : (w.setRow g cs).heap[k]? = w.heap[k]? := by
  have h' : ¬ g = k := fun e => h e.symm
  simp [World.setRow, Array.getElem?_modify, h']
theorem below_setRow {w0 w : World} {g : Nat} {cs : Array Value} (h : Below w0.heap.size w0 w) (hg : w0.heap.size ≤ g) : Below w0.heap.size w0 (w.setRow g cs) :=
  ⟨h.os, h.tape, h.output, by simpa [World.setRow] using h.size, fun k hk => by rw [setRow_ne (by omega)]; exact h.block k hk⟩
theorem below_set {B : Nat} {w0 w : World} {g : Nat} (h : Below B w0 w) (hg : B ≤ g) (k : Nat) (x : Value) : Below B w0 (w.setCell ⟨g, k, none⟩ x) :=
  ⟨h.os, h.tape, h.output, by have := h.size; simpa [World.setCell] using this, fun i hi => by rw [Below.heap_setCell _ _ _ _ (by show i ≠ g; omega)]; exact h.block i hi⟩
/-- a result that lives in a variable -/
theorem results_cell {P : Program} {fn : Func} {tmps : Array Value} {k : Nat} {t : TypeId} {a : Addr} {v : Value} {w : World} (hr : fn.results = #[.cell k t]) (hk : tmps.getD k undef = .pointer (some a)) (hl : (loadVar t a).run P w = .ok v w) :
    (results fn tmps).run P w = .ok v w := by
  have hk' : tmps[k]?.getD undef = .pointer (some a) := by simpa using hk
  unfold results
  rw [hr]
  simp [hk', asAddr, hl]
theorem bcs_one (l : Bs) : (bcs l).toArray.all (·.oneCell') = true := by
  simp [Lib.byteCells]
  intros
  rfl
/-- a cell of a block of bytes -/
theorem blk_cell {w : World} {g : Nat} {l : Bs} {t : TypeId} (h : w.heap[g]? = some (.cells (bcs l).toArray t (0, 0))) {i : Nat} (hi : i < l.length) : w.cell? ⟨g, i, none⟩ = some (By l[i]) := by
  rw [cell_of_heap h]
  simpa using bcs_get hi
theorem blk_set {w : World} {g : Nat} {l : Bs} {t : TypeId} (h : w.heap[g]? = some (.cells (bcs l).toArray t (0, 0))) (i : Nat) (c : UInt8) : (w.setCell ⟨g, i, none⟩ (By c)).heap[g]? = some (.cells (bcs (l.set i c)).toArray t (0, 0)) := by
  rw [heap_setCell_same h, bcs_set]
set_option maxRecDepth 100000 in
set_option maxHeartbeats 4000000 in
theorem tab_any (w : World) : Calls Tryd.prog 49 #[] w fun e w' => e = .returned (.agg (bcs (tabK 32)).toArray) ∧ Below w.heap.size w w' := by
  have hz := zero62
  obtain ⟨z0, hz0⟩ : ∃ z, z = fillK 0 := ⟨_, rfl⟩
  rw [← hz0] at hz
  have HZ0 := hid hz0
  clear hz0
  have HB0 := hid ((Below.refl w.heap.size w).alloc (Nat.le_refl _) (.cells (bcs z0).toArray 62) |>.alloc (by simp) (.cells (bcs z0).toArray 62))
  have hs1 : (w.alloc (.cells (bcs z0).toArray 62)).heap.size = w.heap.size + 1 := by simp
  have hn1 := heap_alloc_new (w.alloc (.cells (bcs z0).toArray 62)) (.cells (bcs z0).toArray 62)
  rw [hs1] at hn1
  have HN1 := hid hn1
  have HN0 := hid ((Below.heap_alloc (w.alloc (.cells (bcs z0).toArray 62)) (.cells (bcs z0).toArray 62) w.heap.size (by simp)).trans (heap_alloc_new w (.cells (bcs z0).toArray 62)))
  clear hs1 hn1
  obtain ⟨T, hT⟩ : ∃ T, T = bcs (tabK 32) := ⟨_, rfl⟩
  rw [← hT]
  have HT := hid hT
  clear hT
  go_enter Tryd.func49, Tryd.ntmps49
  go_wp2_with fail
  clear hz
  go_loopg [2, 4] 256 (fun gg v2 v4 wr => ∃ i : Nat, i ≤ 256 ∧ gg = 256 - i ∧ v4 = .int .i64 (i : Int) ∧ wr.heap[w.heap.size]? = some (.cells (bcs z0).toArray 62 (0, 0)) ∧ wr.heap[w.heap.size + 1]? = some (.cells (bcs (fillK i)).toArray 62 (0, 0)) ∧ Below w.heap.size w wr)
  case atStart => exact ⟨0, by omega, by omega, rfl, HN0.out, by rw [← HZ0.out]; exact HN1.out, HB0.out⟩
  case round =>
    obtain ⟨i, hi, rfl, rfl, h0, h1, hbel⟩ := hrel
    clear HB0 HN0 HN1
    by_cases hi6 : i < 256
    · have hi1 : (i : Int) < 256 := by omega
      have hfz := frozen_of_heap h1 i
      have hcell := blk_cell h1 (by rw [fill_len i hi]; exact hi6)
      generalize (fillK i)[i]'(by rw [fill_len i hi]; exact hi6) = old at hcell
      have hset := blk_set h1 i 255
      rw [fill_set i hi6] at hset
      have HSET : Hid ((wr.setCell ⟨w.heap.size + 1, i, none⟩ (.int .u8 255)).heap[w.heap.size + 1]? = some (.cells (bcs (fillK (i + 1))).toArray 62 (0, 0))) := hid hset
      have HS0 : Hid ((wr.setCell ⟨w.heap.size + 1, i, none⟩ (.int .u8 255)).heap[w.heap.size]? = some (.cells (bcs z0).toArray 62 (0, 0))) := hid (by rw [Below.heap_setCell _ _ _ _ (by show w.heap.size ≠ w.heap.size + 1; omega)]; exact h0)
      have HBE := hid (below_set hbel (by omega : w.heap.size ≤ w.heap.size + 1) i (.int .u8 255))
      clear h0 h1 hbel hset
      go_wp2_with fail
      go_roundg (256 - (i + 1))
      case measure => omega
      case rel => exact ⟨i + 1, by omega, rfl, by go_num, HS0.out, HSET.out, HBE.out⟩
    · have hi1 : ¬ (i : Int) < 256 := by omega
      have hie : i = 256 := by omega
      subst hie
      have HF : Hid (fillK 256 = tabK 0) := hid (by unfold fillK tabK; rw [Nat.sub_self]; exact List.append_nil _)
      rw [HF.out] at h1
      have H0 := hid h0
      have H1 := hid h1
      have HB1 := hid hbel
      clear h0 h1 hbel hi hi6
      obtain ⟨wx, rfl⟩ : ∃ wx, wx = wr := ⟨_, rfl⟩
      go_wp2_with fail
      go_loopg [3, 10] 32 (fun gg v3 v10 wr => ∃ i : Nat, i ≤ 32 ∧ gg = 32 - i ∧ v10 = .int .i64 (i : Int) ∧ wr.heap[w.heap.size]? = some (.cells (bcs z0).toArray 62 (0, 0)) ∧ wr.heap[w.heap.size + 1]? = some (.cells (bcs (tabK i)).toArray 62 (0, 0)) ∧ Below w.heap.size w wr)
      case atStart => exact ⟨0, by omega, by omega, rfl, H0.out, H1.out, HB1.out⟩
      case round =>
        obtain ⟨k, hk, rfl, rfl, h0, h1, hbel⟩ := hrel
        clear H0 H1 HB1
        by_cases hk2 : k < 32
        · have hk1 : (k : Int) < 32 := by omega
          have hkl : k < letters.length := hk2
          have HIX := hid (text_index letters .i64 k hkl)
          have HTS : Hid (tabK (k + 1) = (tabK k).set letters[k].toNat (UInt8.ofNat k)) := hid (by rw [tabK]; simp [List.getD, hkl])
          generalize letters[k] = x at *
          have hx8 := x.toNat_lt
          have hfz := frozen_of_heap h1 x.toNat
          have hcell := blk_cell h1 (by rw [tab_len k]; exact hx8)
          generalize (tabK k)[x.toNat]'(by rw [tab_len k]; exact hx8) = old at hcell
          have hset := blk_set h1 x.toNat (UInt8.ofNat k)
          rw [← HTS.out] at hset
          have hbk : By (UInt8.ofNat k) = .int .u8 (k : Int) := by unfold By; rw [UInt8.toNat_ofNat']; congr 1; omega
          rw [hbk] at hset
          have HSET := hid hset
          have HS0 : Hid ((wr.setCell ⟨w.heap.size + 1, x.toNat, none⟩ (.int .u8 (k : Int))).heap[w.heap.size]? = some (.cells (bcs z0).toArray 62 (0, 0))) := hid (by rw [Below.heap_setCell _ _ _ _ (by show w.heap.size ≠ w.heap.size + 1; omega)]; exact h0)
          have HBE := hid (below_set hbel (by omega : w.heap.size ≤ w.heap.size + 1) x.toNat (.int .u8 (k : Int)))
          have hwk : IntKind.u8.wrap (k : Int) = (k : Int) := by rw [IntKind.wrap_u8]; omega
          have hx256 : (x.toNat : Int) < 256 := by omega
          clear h0 h1 hbel hset hbk hkl
          go_wp2_with (first | (refine wpList_index_run rfl _ (.tmp 13) 9 rfl (St letters) _ (By x) rfl rfl HIX.out ?_) | fail)
          go_roundg (32 - (k + 1))
          case measure => omega
          case rel => exact ⟨k + 1, by omega, rfl, by go_num, HS0.out, HSET.out, HBE.out⟩
        · have hk1 : ¬ (k : Int) < 32 := by omega
          have hke : k = 32 := by omega
          subst hke
          have HTL : Hid (T.toArray.size = 256) := hid (by rw [HT.out, List.size_toArray, bcs_len, tab_len])
          rw [← HT.out] at h1
          have HZ : Hid ((Tryd.prog.info? 62).map (·.size) = some T.toArray.size) := hid (by rw [HTL.out]; exact Tryd.size62)
          have HZS : Hid ((bcs z0).toArray.size = T.toArray.size) := hid (by rw [HTL.out, HZ0.out, List.size_toArray, bcs_len, fill_len 0 (by omega)])
          have HON : Hid (T.toArray.all (·.oneCell') = true) := hid (by rw [HT.out]; exact bcs_one _)
          have H0 := hid h0
          have H1 := hid h1
          have HBE := hid hbel
          clear h0 h1 hbel
          go_wp2_with (first | refine wpList_load_arr _ rfl (.tmp 1) 62 rfl (w.heap.size + 1) 62 (0, 0) T.toArray 256 5 rfl H1.out Tryd.underlying62 HZ.out ?_ | refine wpList_store_arr _ rfl (.tmp 0) (.tmp 19) 62 rfl rfl w.heap.size 62 (bcs z0).toArray T.toArray rfl rfl H0.out HZ.out HZS.out HON.out ?_)
          have hload := run_loadVar_row (P := Tryd.prog) (wr.setRow w.heap.size T.toArray) w.heap.size 62 62 T.toArray (0, 0) _ (setRow_same H0.out) Tryd.underlying62 rfl HZ.out
          refine bodyPost_ret (v := .agg T.toArray) ?_ rfl ⟨rfl, below_setRow HBE.out (Nat.le_refl _)⟩
          exact results_cell Tryd.results49 rfl hload
end Go.Proofs.YtelfogdcijmenaaDoor
