/- What is kept behind one more secret being heard. -/
import Derived.Test.YtmdiggbbgcjcnaaDoorSdE
namespace Go.Proofs.YtmdiggbbgcjcnaaDoor
open Go.RowKit

theorem z50 : (Tryd.prog.info? 50).map (fun i => (i.zero, i.size)) = some (some (.agg (rowL (fun _ => [])).toArray), 21) := by kernel_rfl
/-- the row that is left of what is kept -/
def cutR (R : Nat → Bs) (b : Nat) : Nat → Bs := fun j => if j < b then [] else R j
theorem cutR_zero (R : Nat → Bs) : cutR R 0 = R := by funext j; simp [cutR]
theorem rowL_set (R : Nat → Bs) (k : Nat) (x : Bs) : (rowL R).toArray.setIfInBounds k (St x) = (rowL (fun j => if j = k then x else R j)).toArray := by
  apply Array.ext_getElem?
  intro i
  rw [Array.getElem?_setIfInBounds]
  simp only [List.getElem?_toArray, List.size_toArray, rowL_len]
  by_cases h : i < 21
  · rw [rowL_get _ h]
    by_cases e : k = i
    · subst e; rw [rowL_get _ h]; simp [h]
    · rw [if_neg e, rowL_get _ h, if_neg (fun e' => e e'.symm)]
  · have h1 : (rowL (fun j => if j = k then x else R j))[i]? = none := List.getElem?_eq_none (by rw [rowL_len]; omega)
    have h2 : (rowL R)[i]? = none := List.getElem?_eq_none (by rw [rowL_len]; omega)
    rw [h1, h2]
    by_cases e : k = i
    · subst e; simp [h]
    · rw [if_neg e]
theorem cutR_next (R : Nat → Bs) (b : Nat) : (fun j => if j = b then [] else cutR R b j) = cutR R (b + 1) := by
  funext j
  unfold cutR
  by_cases h : j = b
  · simp [h]
  · by_cases h2 : j < b
    · simp [h, h2, show j < b + 1 by omega]
    · simp [h, h2, show ¬ j < b + 1 by omega]

/-- does a secret make what is kept below? -/
def okB (R : Nat → Bs) (k i : Nat) (t : Bs) : Bool := (List.range k).all (fun b => Sd.fr stp k (i + 2 ^ b) t == (R b, 0))
def addR (R : Nat → Bs) (k : Nat) (t : Bs) : Nat → Bs := fun j => if j < k then [] else if j = k then t else R j
def withRes (R : Nat → Bs) (i : Nat) (t : Bs) : (Nat → Bs) × Bool := if okB R (Sd.low i) i t then (addR R (Sd.low i) t, true) else (fun _ => [], false)
theorem okB_no {R : Nat → Bs} {k i : Nat} {t : Bs} {b : Nat} (hb : b < k) (h : Sd.fr stp k (i + 2 ^ b) t ≠ (R b, 0)) : okB R k i t = false := by
  cases e : okB R k i t
  · rfl
  · unfold okB at e
    rw [List.all_eq_true] at e
    have := e b (by simpa using hb)
    exact absurd (by simpa using this) h
theorem okB_yes {R : Nat → Bs} {k i : Nat} {t : Bs} (h : ∀ b, b < k → Sd.fr stp k (i + 2 ^ b) t = (R b, 0)) : okB R k i t = true := by
  unfold okB
  rw [List.all_eq_true]
  intro b hb
  have := h b (by simpa using hb)
  simp [this]

/-- a result of two, the first out of a variable -/
theorem results_27 {tmps : Array Value} {a : Addr} {v u : Value} {w : World} (hk : tmps.getD 6 undef = .pointer (some a)) (hl : (loadVar 50 a).run Tryd.prog w = .ok v w) (hu : tmps.getD 7 undef = u) :
    (results Tryd.f27 tmps).run Tryd.prog w = .ok (.tuple #[v, u]) w := by
  have hk' : tmps[6]?.getD undef = .pointer (some a) := by simpa using hk
  have hu' : tmps[7]?.getD undef = u := by simpa using hu
  unfold results
  rw [Tryd.results27]
  simp [hk', hu', asAddr, hl]

/-- the two blocks that the call works on -/
structure Wt (w : World) (Z : Array Value) (R : Nat → Bs) (wr : World) : Prop where
  bel : Below w.heap.size w wr
  row : wr.heap[w.heap.size]? = some (.cells (rowL R).toArray 50 (0, 0))
  res : wr.heap[w.heap.size + 1]? = some (.cells Z 50 (0, 0))
theorem Wt.below {w : World} {Z : Array Value} {R : Nat → Bs} {wr wn : World} (h : Wt w Z R wr) (hb : Below wr.heap.size wr wn) : Wt w Z R wn :=
  ⟨h.bel.trans (hb.mono h.bel.size), (hb.block _ (lt_of_block h.row)).trans h.row, (hb.block _ (lt_of_block h.res)).trans h.res⟩
theorem Wt.start (w : World) (Z : Array Value) (R : Nat → Bs) : Wt w Z R ((w.alloc (.cells (rowL R).toArray 50)).alloc (.cells Z 50)) :=
  ⟨((Below.refl _ w).alloc (Nat.le_refl _) _).alloc (by simp) _, by
    rw [Below.heap_alloc _ _ _ (by simp)]; exact heap_alloc_new w _, by
    have := heap_alloc_new (w.alloc (.cells (rowL R).toArray 50)) (.cells Z 50)
    simpa using this⟩
theorem Wt.cell {w : World} {Z : Array Value} {R : Nat → Bs} {wr : World} (h : Wt w Z R wr) {k : Nat} (hk : k < 21) : wr.cell? ⟨w.heap.size, k, none⟩ = some (St (R k)) := by
  rw [cell_of_heap h.row]; simp only [List.getElem?_toArray]; exact rowL_get R hk
theorem Wt.frozen {w : World} {Z : Array Value} {R : Nat → Bs} {wr : World} (h : Wt w Z R wr) (k : Nat) : wr.frozen? ⟨w.heap.size, k, none⟩ = false := by
  simp [World.frozen?, h.row]
theorem Wt.set {w : World} {Z : Array Value} {R : Nat → Bs} {wr : World} (h : Wt w Z R wr) (k : Nat) (x : Bs) : Wt w Z (fun j => if j = k then x else R j) (wr.setCell ⟨w.heap.size, k, none⟩ (St x)) := by
  refine ⟨h.bel.setCell (Nat.le_refl _) _, ?_, ?_⟩
  · simp [World.setCell, Array.getElem?_modify, h.row, rowL_set R k x]
  · have := h.res
    simp [World.setCell, Array.getElem?_modify, this]
theorem Wt.load {w : World} {Z : Array Value} {R : Nat → Bs} {wr : World} (h : Wt w Z R wr) : (Instr.loadAt 50 (.pointer (some ⟨w.heap.size, 0, none⟩))).run Tryd.prog wr = .ok (.agg (rowL R).toArray) wr :=
  run_loadAt_mid wr w.heap.size 0 50 (rowL R) _ (fun j v hv => by rw [cell_of_heap h.row, Nat.zero_add]; simpa using hv) u50 rfl (by rw [rowL_len]; exact i50)
theorem Wt.out {w : World} {Z : Array Value} {R : Nat → Bs} {wr : World} (h : Wt w Z R wr) (hZ : Z.size = 21) (R' : Nat → Bs) :
    ∃ wn, (Instr.storeAt 50 (.pointer (some ⟨w.heap.size + 1, 0, none⟩)) (.agg (rowL R').toArray)).run Tryd.prog wr = .ok () wn ∧ Below w.heap.size w wn ∧ (loadVar 50 ⟨w.heap.size + 1, 0, none⟩).run Tryd.prog wn = .ok (.agg (rowL R').toArray) wn := by
  have hi : (Tryd.prog.info? 50).map (·.size) = some (rowL R').toArray.size := by rw [List.size_toArray, rowL_len]; exact i50
  refine ⟨wr.setRow (w.heap.size + 1) (rowL R').toArray, ?_, ?_, ?_⟩
  · simp only [Instr.storeAt, Instr.sureAddr, Sem.run_bind, Sem.run_pure, Result.andThen_ok]
    exact run_storeVar_row _ _ 50 50 Z _ h.res hi (by rw [hZ, List.size_toArray, rowL_len]) (all_oneCell_toArray (rowL_one R'))
  · refine ⟨h.bel.os, h.bel.tape, h.bel.output, by simpa [World.setRow] using h.bel.size, fun k hk => ?_⟩
    have h' : ¬ w.heap.size + 1 = k := by omega
    have e : (wr.setRow (w.heap.size + 1) (rowL R').toArray).heap[k]? = wr.heap[k]? := by simp [World.setRow, Array.getElem?_modify, h']
    rw [e]; exact h.bel.block k hk
  · have hb : (wr.setRow (w.heap.size + 1) (rowL R').toArray).heap[w.heap.size + 1]? = some (.cells (rowL R').toArray 50 (0, 0)) := by
      simp [World.setRow, Array.getElem?_modify, h.res]
    exact run_loadVar_row _ _ 50 50 _ (0, 0) _ hb u50 rfl hi

set_option maxHeartbeats 2000000 in
set_option maxRecDepth 100000 in
theorem with_any (R : Nat → Bs) (i : Nat) (t : Bs) (w : World) (hi : i < 1048576) (ht : t.length ≤ 20000) (hp : Pw w) (hz : Tz w) :
    Calls Tryd.prog 27 #[.agg (rowL R).toArray, .int .i64 (i : Int), St t] w fun e w' => e = .returned (.tuple #[.agg (rowL (withRes R i t).1).toArray, .bool (withRes R i t).2]) ∧ Below w.heap.size w w' := by
  have hzz := (zero_of_info z50).1
  obtain ⟨Z, hZ⟩ : ∃ Z, Z = (rowL (fun _ => [])).toArray := ⟨_, rfl⟩
  have HZ := hid hZ
  have HZS : Hid (Z.size = 21) := hid (by rw [hZ, List.size_toArray, rowL_len])
  rw [← hZ] at hzz
  have HP := hid hp
  have HI := hid hi
  have HTL := hid ht
  have hcv : IntKind.u64.wrap (i : Int) = (i : Int) := by rw [IntKind.wrap_u64]; omega
  have HTZ : Hid (∀ W, Below w.heap.size w W → Calls Tryd.prog 37 #[.int .u64 (i : Int)] W fun e w' => e = .returned (.int .i64 (Lib.ctz 64 i : Int)) ∧ w' = W) := hid (fun W hW => tz_any i (by omega) W (hz.below hW))
  have hmin : min (Lib.ctz 64 i : Int) 20 = (Sd.low i : Int) := by rw [← low_ctz hi]; omega
  obtain ⟨k, hk⟩ : ∃ k, k = Sd.low i := ⟨_, rfl⟩
  have HK20 : Hid (k ≤ 20) := hid (by rw [hk]; exact (Sd.low_is i).1)
  obtain ⟨p, hpp⟩ : ∃ p, p = withRes R i t := ⟨_, rfl⟩
  have HRS : Hid (p = if okB R k i t then (addR R k t, true) else (fun _ => [], false)) := hid (by rw [hpp, withRes, ← hk])
  rw [← hpp]
  rw [← hk] at hmin
  have HW0 := hid (Wt.start w Z R)
  generalize Lib.ctz 64 i = z at HTZ hmin
  have HMIN := hid hmin
  clear hp hz hZ hk hpp hmin ht
  go_enter Tryd.func27, Tryd.ntmps27
  go_wp2_with fail
  refine (HTZ.out _ HW0.out.bel).mono ?_
  rintro e w1 ⟨rfl, rfl⟩
  have hmin := HMIN.out
  generalize ((w.alloc (.cells (rowL R).toArray 50)).alloc (.cells Z 50)) = W0 at HW0 ⊢
  go_wp2_with fail
  clear hmin hcv hi
  go_loopg [9, 10, 11, 17] k (fun gg v9 v10 v11 v17 wr => ∃ b : Nat, gg = k - b ∧ b ≤ k ∧ v17 = .int .i64 (b : Int) ∧ Hid (∀ j, j < b → Sd.fr stp k (i + 2 ^ j) t = (R j, 0)) ∧ Wt w Z (cutR R b) wr)
  case atStart => exact ⟨0, rfl, Nat.zero_le _, rfl, hid (fun j hj => by omega), by rw [cutR_zero]; exact HW0.out⟩
  case round =>
    obtain ⟨b, rfl, hb, rfl, hdone, hW⟩ := hrel
    by_cases hbk : b < k
    · have HWR := hid hW
      have hc1 : ∀ W, Below wr.heap.size wr W → W.cell? ⟨w.heap.size, b, none⟩ = some (St (R b)) := fun W hB => by
        have := (hW.below hB).cell (k := b) (by have := HK20.out; omega)
        rw [this]; simp [cutR]
      have HC1 := hid hc1
      have HF := hid (from_any t k HK20.out (i + 2 ^ b) (by have := HI.out; have h1 : 2 ^ b ≤ 2 ^ 20 := Nat.pow_le_pow_right (by omega) (by have := HK20.out; omega); omega) wr (HP.out.below hW.bel))
      have hb0 : (0 : Int) ≤ (b : Int) := Int.natCast_nonneg _
      have hb64 : (b : Int) ≤ 64 := by have := HK20.out; omega
      have hb21 : (b : Int) < 21 := by have := HK20.out; omega
      have hlt : (b : Int) < (k : Int) := by omega
      have hw1 : IntKind.i64.wrap ((b : Int) + 1) = ((b + 1 : Nat) : Int) := by rw [IntKind.wrap_i64]; omega
      have hple : 2 ^ b ≤ 2 ^ 20 := Nat.pow_le_pow_right (by omega) (by have := HK20.out; omega)
      have hp2 : ((2 : Int) ^ b) = ((2 ^ b : Nat) : Int) := by simp
      obtain ⟨q, hq⟩ : ∃ q, q = 2 ^ b := ⟨_, rfl⟩
      rw [← hq] at hp2 HF hple
      have hsh1 : IntKind.i64.wrap ((2 : Int) ^ b) = (q : Int) := by rw [hp2, IntKind.wrap_i64]; omega
      have hsh2 : IntKind.i64.wrap (1 * (2 : Int) ^ b) = (q : Int) := by rw [Int.one_mul]; exact hsh1
      have hadd : IntKind.i64.wrap ((i : Int) + (q : Int)) = ((i + q : Nat) : Int) := by rw [IntKind.wrap_i64]; have := HI.out; omega
      have HNX : Hid (Sd.fr stp k (i + q) t = (R b, 0) → ∀ j, j < b + 1 → Sd.fr stp k (i + 2 ^ j) t = (R j, 0)) := hid (fun h j hj => by
        by_cases e : j = b
        · subst e; rw [← hq]; exact h
        · exact hdone.out j (by omega))
      have HNO : Hid (Sd.fr stp k (i + q) t ≠ (R b, 0) → okB R k i t = false) := hid (fun h => okB_no hbk (by rw [← hq]; exact h))
      have HBK := hid hbk
      clear hq hp2 hple hdone hb hbk hc1 hW
      obtain ⟨f, hf⟩ : ∃ f, f = Sd.fr stp k (i + q) t := ⟨_, rfl⟩
      rw [← hf] at HF HNX HNO
      clear hf
      obtain ⟨y, e1⟩ := f
      go_wp2_with fail
      refine HF.out.mono ?_
      rintro e w2 ⟨rfl, hb2⟩
      have HB2 := hid hb2
      have hc2 := HC1.out w2 hb2
      clear hb2
      have HW2 := hid (HWR.out.below HB2.out)
      have hfz := HW2.out.frozen b
      by_cases he : e1 = 0
      · subst he
        by_cases hy : y = R b
        · have HNX2 := hid (HNX.out (by rw [hy]))
          obtain ⟨x, hx⟩ : ∃ x, x = R b := ⟨_, rfl⟩
          rw [← hx] at hy hc2
          subst hy
          have HSET : Hid (Wt w Z (cutR R (b + 1)) (w2.setCell ⟨w.heap.size, b, none⟩ (St []))) := hid (by have := HW2.out.set b []; rwa [cutR_next] at this)
          clear hx
          go_wp2_with fail
          go_roundg (k - (b + 1))
          case measure => have := HBK.out; omega
          case rel => exact ⟨b + 1, rfl, HBK.out, by go_num, HNX2, HSET.out⟩
        · have HNO2 : Hid (p = (fun _ => [], false)) := hid (by rw [HRS.out, HNO.out (by intro h; exact hy (congrArg Prod.fst h))]; rfl)
          obtain ⟨x, hx⟩ : ∃ x, x = R b := ⟨_, rfl⟩
          rw [← hx] at hy hc2
          have hy2 : (y == x) = false := by simpa using hy
          obtain ⟨wn, hst, hbn, hld⟩ := HW2.out.out HZS.out (fun _ => [])
          rw [← HZ.out] at hst hld
          have HST := hid hst
          have HBN := hid hbn
          have HLD := hid hld
          clear hst hbn hld hx
          go_wp2_with (first | (refine wpList_store_run rfl (.tmp 6) (.tmp 39) 50 rfl _ (.agg Z) rfl rfl HST.out ?_) | fail)
          refine bodyPost_ret (results_27 rfl HLD.out rfl) rfl ⟨?_, HBN.out⟩
          rw [HNO2.out, HZ.out]; rfl
      · have HNO2 : Hid (p = (fun _ => [], false)) := hid (by rw [HRS.out, HNO.out (by intro h; exact he (congrArg Prod.snd h))]; rfl)
        have he2 : ((e1 : Int) == 0) = false := by simp; omega
        have he3 : (e1 : Int) ≠ 0 := by omega
        obtain ⟨wn, hst, hbn, hld⟩ := HW2.out.out HZS.out (fun _ => [])
        rw [← HZ.out] at hst hld
        have HST := hid hst
        have HBN := hid hbn
        have HLD := hid hld
        clear hst hbn hld he
        go_wp2_with (first | (refine wpList_store_run rfl (.tmp 6) (.tmp 39) 50 rfl _ (.agg Z) rfl rfl HST.out ?_) | fail)
        refine bodyPost_ret (results_27 rfl HLD.out rfl) rfl ⟨?_, HBN.out⟩
        rw [HNO2.out, HZ.out]; rfl
    · have hbe : b = k := by omega
      subst hbe
      have HYES : Hid (p = (addR R b t, true)) := hid (by rw [HRS.out, okB_yes hdone.out]; rfl)
      have hlt : ¬ (b : Int) < (b : Int) := by omega
      have hb21 : (b : Int) < 21 := by have := HK20.out; omega
      have hb0 : (0 : Int) ≤ (b : Int) := Int.natCast_nonneg _
      have HWR := hid hW
      have HCL : Hid (∀ W, Below wr.heap.size wr W → W.cell? ⟨w.heap.size, b, none⟩ = some (St (cutR R b b)) ∧ W.frozen? ⟨w.heap.size, b, none⟩ = false) := hid (fun W hB => ⟨(hW.below hB).cell (k := b) (by have := HK20.out; omega), (hW.below hB).frozen b⟩)
      clear hdone hb hbk hW
      go_wp2_with fail
      refine (fresh_any t _ HTL.out).mono ?_
      rintro e w2 ⟨rfl, hb2⟩
      have hc := (HCL.out w2 hb2).1
      have hfz := (HCL.out w2 hb2).2
      have HS2 : Hid (Wt w Z (addR R b t) (w2.setCell ⟨w.heap.size, b, none⟩ (St t))) := hid (by
        have := (HWR.out.below hb2).set b t
        have e : (fun j => if j = b then t else cutR R b j) = addR R b t := by
          funext j; unfold addR cutR
          by_cases h1 : j = b
          · subst h1; simp
          · simp [h1]
        rwa [e] at this)
      have HLW := hid HS2.out.load
      obtain ⟨wn, hst, hbn, hld⟩ := HS2.out.out HZS.out (addR R b t)
      have HST := hid hst
      have HBN := hid hbn
      have HLD := hid hld
      clear hst hbn hld hb2
      obtain ⟨AR, hAR⟩ : ∃ AR, AR = (rowL (addR R b t)).toArray := ⟨_, rfl⟩
      rw [← hAR] at HLW HST HLD
      have HAR := hid hAR
      clear hAR
      go_wp2_with (first | (refine wpList_load_run rfl (.tmp 3) 50 rfl _ (.agg AR) rfl HLW.out ?_) | (refine wpList_store_run rfl (.tmp 6) (.tmp 47) 50 rfl _ (.agg AR) rfl rfl HST.out ?_) | fail)
      refine bodyPost_ret (results_27 rfl HLD.out rfl) rfl ⟨?_, HBN.out⟩
      rw [HYES.out, HAR.out]; rfl
end Go.Proofs.YtmdiggbbgcjcnaaDoor
