/- A store in memory, and what it is asked. -/
import Derived.Test.YtmdiggbbgcjcnaaDoorSdB
import Derived.Deep.MidRow
import Derived.Deep.WholeRow
import Derived.Deep.RegionHeld3
namespace Go.Proofs.YtmdiggbbgcjcnaaDoor
open Go.RowKit

/-- what is kept, as an array's cells -/
def rowL (R : Nat → Bs) : List Value := (List.range 21).map (fun k => St (R k))
theorem rowL_len (R : Nat → Bs) : (rowL R).length = 21 := by simp [rowL]
theorem rowL_get (R : Nat → Bs) {k : Nat} (h : k < 21) : (rowL R)[k]? = some (St (R k)) := by simp [rowL, h]
theorem rowL_one (R : Nat → Bs) : ∀ v ∈ rowL R, v.oneCell' = true := by
  intro v hv
  simp only [rowL, List.mem_map] at hv
  obtain ⟨k, _, rfl⟩ := hv
  rfl
/-- a store lies there -/
def Sto (w : World) (g c : Nat) (R : Nat → Bs) : Prop := w.heap[g]? = some (.cells (.int .i64 (c : Int) :: rowL R).toArray 52 (0, 0))

theorem lt_of_block {w : World} {b : Nat} {o : Obj} (h : w.heap[b]? = some o) : b < w.heap.size := by
  apply Classical.byContradiction
  intro hn
  rw [Array.getElem?_eq_none (by omega)] at h
  cases h
theorem Sto.lt {w : World} {g c : Nat} {R : Nat → Bs} (h : Sto w g c R) : g < w.heap.size := lt_of_block h
theorem Sto.below {w w' : World} {g c : Nat} {R : Nat → Bs} (h : Sto w g c R) (hb : Below w.heap.size w w') : Sto w' g c R := (hb.block g h.lt).trans h
theorem Sto.count {w : World} {g c : Nat} {R : Nat → Bs} (h : Sto w g c R) : w.cell? ⟨g, 0, none⟩ = some (.int .i64 (c : Int)) := (cell_of_heap h 0).trans rfl
theorem Sto.range {w : World} {g c : Nat} {R : Nat → Bs} (h : Sto w g c R) : w.rangeAt g 1 (rowL R) := fun j v hv => by
  rw [cell_of_heap h]
  simp only [List.getElem?_toArray]
  rw [show 1 + j = j + 1 from by omega, List.getElem?_cons_succ]
  exact hv
theorem Sto.all {w : World} {g c : Nat} {R : Nat → Bs} (h : Sto w g c R) : w.rangeAt g 0 (.int .i64 (c : Int) :: rowL R) := fun j v hv => by
  rw [cell_of_heap h, Nat.zero_add]
  simpa using hv
theorem u50 : Tryd.prog.underlying 50 = some (.array 21 22) := by kernel_rfl
theorem i50 : (Tryd.prog.info? 50).map (·.size) = some 21 := by kernel_rfl
theorem i52 : (Tryd.prog.info? 52).map (·.size) = some 22 := by kernel_rfl
theorem u52 : ∃ d, Tryd.prog.underlying 52 = some d ∧ d.isRow = true := ⟨_, Tryd.underlying52, rfl⟩
theorem Sto.row {w : World} {g c : Nat} {R : Nat → Bs} (h : Sto w g c R) : (Instr.loadAt 50 (.pointer (some ⟨g, 1, none⟩))).run Tryd.prog w = .ok (.agg (rowL R).toArray) w :=
  run_loadAt_mid w g 1 50 (rowL R) _ h.range u50 rfl (by rw [rowL_len]; exact i50)
theorem Sto.whole {w : World} {g c : Nat} {R : Nat → Bs} (h : Sto w g c R) : (Instr.loadAt 52 (.pointer (some ⟨g, 0, none⟩))).run Tryd.prog w = .ok (.agg (.int .i64 (c : Int) :: rowL R).toArray) w := by
  obtain ⟨d, hd, hr⟩ := u52
  exact run_loadAt_mid w g 0 52 _ d h.all hd hr (by rw [List.length_cons, rowL_len]; exact i52)

set_option maxHeartbeats 400000 in
theorem last_any {w : World} {g c : Nat} (h0 : w.cell? ⟨g, 0, none⟩ = some (.int .i64 (c : Int))) (hc : c ≤ 1048576) : Calls Tryd.prog 26 #[.pointer (some ⟨g, 0, none⟩)] w fun e w' => e = .returned (.int .i64 (1048576 - (c : Int))) ∧ w' = w := by
  have hw : IntKind.i64.wrap (1048576 - (c : Int)) = 1048576 - (c : Int) := by rw [IntKind.wrap_i64]; omega
  clear hc
  go_enter Tryd.func26, Tryd.ntmps26
  go_wp2_with fail
  go_ret
  exact ⟨rfl, rfl⟩

set_option maxHeartbeats 400000 in
theorem count_any {w : World} {g c : Nat} {R : Nat → Bs} (h : Sto w g c R) : Calls Tryd.prog 18 #[.pointer (some ⟨g, 0, none⟩)] w fun e w' => e = .returned (.int .i64 (c : Int)) ∧ w' = w := by
  have h0 := h.count
  clear h
  go_enter Tryd.func18, Tryd.ntmps18
  go_wp2_with fail
  go_ret
  exact ⟨rfl, rfl⟩

/-- how many are kept -/
def keptF (R : Nat → Bs) : Nat → Nat → Nat
  | 0, _ => 0
  | n + 1, k => (if R k = [] then 0 else 1) + keptF R n (k + 1)
theorem keptF_le (R : Nat → Bs) : ∀ n k, keptF R n k ≤ n
  | 0, _ => Nat.le_refl _
  | n + 1, k => by
    have := keptF_le R n (k + 1)
    unfold keptF
    split <;> omega
theorem wpList_index_at {P : Program} {w : World} {ops : Array Oper} {rest : List Oper} {o : Oper} {a : Act} {Q : Exit → Act → World → Prop} (hgd : o.guard = none) (x i : Operand) (t : TypeId)
    (ho : o.op = .index t x i) (xv iv v : Value) (hx : a.eval x = xv) (hi : a.eval i = iv)
    (hrun : (Instr.index t xv iv).run P w = .ok v w) (h : wpList P ops Q rest (a.put o.dst v) w) : wpList P ops Q (o :: rest) a w := by
  refine wpList_plain hgd fun K hK => ?_
  unfold Oper.wp
  simp [execOp, ho, hx, hi, hrun, Result.andThen]
  exact hK _ _ h
theorem run_index_row (R : Nat → Bs) (k : Nat) (w : World) (h : k < 21) :
    (Instr.index 50 (.agg (rowL R).toArray) (.int .i64 (k : Int))).run Tryd.prog w = .ok (St (R k)) w := by
  have h2 := rowL_get R h
  have h3 : (rowL R).length = 21 := rowL_len R
  have a22 := Tryd.isAgg22
  have z22 := Tryd.sizeOf22
  generalize rowL R = L at *
  simp [Instr.index, run_underlying u50, asIntOf, go_sem, part, a22, z22, h2]
  omega
theorem ne_text (l : Bs) : (Value.string ⟨l.toArray⟩ = Value.string ⟨#[]⟩) ↔ l = [] := by
  constructor
  · intro h
    have h1 : (⟨l.toArray⟩ : ByteArray) = ⟨#[]⟩ := by injection h
    have h2 : l.toArray = #[] := by injection h1
    simpa using h2
  · rintro rfl; rfl

set_option maxHeartbeats 400000 in
set_option maxRecDepth 100000 in
theorem kept_any {w : World} {g c : Nat} {R : Nat → Bs} (h : Sto w g c R) : Calls Tryd.prog 19 #[.pointer (some ⟨g, 0, none⟩)] w fun e w' => e = .returned (.int .i64 (keptF R 21 0 : Int)) ∧ w' = w := by
  have hr := h.range
  have HL : Hid ((Tryd.prog.info? 50).map (·.size) = some (rowL R).length) := hid (by rw [rowL_len]; exact i50)
  have HX : Hid (∀ k : Nat, k < 21 → ∀ w, (Instr.index 50 (.agg (rowL R).toArray) (.int .i64 (k : Int))).run Tryd.prog w = .ok (St (R k)) w) := hid (fun k hk w => run_index_row R k w hk)
  have HR := hid hr
  clear h hr
  obtain ⟨K, hK⟩ : ∃ K, K = keptF R 21 0 := ⟨_, rfl⟩
  have HK : Hid (0 + keptF R 21 0 = K) := hid (by omega)
  rw [← hK]
  clear hK
  generalize rowL R = L at HR HL HX
  go_enter Tryd.func19, Tryd.ntmps19
  go_wp2_with (first | (refine wpList_load_mid rfl 50 (.tmp 10) rfl g 1 rfl L _ HR.out u50 rfl HL.out ?_) | fail)
  go_loop [3, 5, 12] (fun v3 v5 v12 => ∃ (k n : Nat), k ≤ 21 ∧ v12 = .int .i64 (k : Int) ∧ v3 = .int .i64 (n : Int) ∧ n ≤ k ∧ Hid (n + keptF R (21 - k) k = K)) (fun _ _ v12 => 21 - (intOf v12).toNat)
  case atStart => exact ⟨0, 0, by omega, rfl, rfl, by omega, HK⟩
  case round =>
    obtain ⟨k, n, hk, rfl, rfl, hn, hrel⟩ := hrel
    by_cases h21 : k < 21
    · have HX1 := hid (HX.out k h21)
      have hk1 : (k : Int) < 21 := by omega
      have hk0 : (0 : Int) ≤ (k : Int) := Int.natCast_nonneg _
      have hw1 : IntKind.i64.wrap ((k : Int) + 1) = ((k + 1 : Nat) : Int) := by rw [IntKind.wrap_i64]; omega
      have hw2 : IntKind.i64.wrap ((n : Int) + 1) = ((n + 1 : Nat) : Int) := by rw [IntKind.wrap_i64]; omega
      have HREL : Hid (n + ((if R k = [] then 0 else 1) + keptF R (21 - (k + 1)) (k + 1)) = K) := hid (by have := hrel.out; rw [show 21 - k = (21 - (k + 1)) + 1 from by omega, keptF] at this; exact this)
      have HK1 := hid h21
      have HN := hid hn
      clear hrel h21 hk hn HX
      by_cases hR : R k = []
      · have HRE : Hid (n + keptF R (21 - (k + 1)) (k + 1) = K) := hid (by have := HREL.out; rw [if_pos hR] at this; omega)
        rw [hR] at HX1
        clear hR HREL
        have hix := HX1.out
        clear HX1
        go_wp2_with fail
        go_round
        case rel => exact ⟨k + 1, n, by have := HK1.out; omega, by go_num, rfl, by have := HN.out; omega, HRE⟩
        case measure => simp [intOf]; omega
      · have HRE : Hid (n + 1 + keptF R (21 - (k + 1)) (k + 1) = K) := hid (by have := HREL.out; rw [if_neg hR] at this; omega)
        generalize R k = x at HX1 hR
        have hR2 : (x == []) = false := by simpa using hR
        clear HREL
        have hix := HX1.out
        clear HX1
        go_wp2_with fail
        go_round
        case rel => exact ⟨k + 1, n + 1, by have := HK1.out; omega, by go_num, by go_num, by have := HN.out; omega, HRE⟩
        case measure => simp [intOf]; omega
    · have hk21 : k = 21 := by omega
      subst hk21
      have HRE : Hid (n = K) := hid (by have := hrel.out; simpa [keptF] using this)
      clear hrel h21
      go_wp2_with fail
      go_ret
      exact ⟨by rw [HRE.out]; rfl, rfl⟩

set_option maxHeartbeats 1000000 in
set_option maxRecDepth 100000 in
theorem maker_any (R : Nat → Bs) (a0 : Nat) (ha : a0 < 1048576) (w : World) : Calls Tryd.prog 30 #[.agg (rowL R).toArray, .int .i64 (a0 : Int)] w fun e w' => e = .returned (.tuple #[St (Sd.mkr R 21 0 a0).1, .int .i64 ((Sd.mkr R 21 0 a0).2 : Int)]) ∧ Below w.heap.size w w' := by
  have HX : Hid (∀ k : Nat, k < 21 → ∀ w, (Instr.index 50 (.agg (rowL R).toArray) (.int .i64 (k : Int))).run Tryd.prog w = .ok (St (R k)) w) := hid (fun k hk w => run_index_row R k w hk)
  have HL : Hid ((Tryd.prog.info? 50).map (·.size) = some (rowL R).length) := hid (by rw [rowL_len]; exact i50)
  have HRA : Hid ((w.alloc (.cells (rowL R).toArray 50)).rangeAt w.heap.size 0 (rowL R)) := hid (fun j v hv => by
    rw [cell_of_heap (heap_alloc_new w _), Nat.zero_add]; simpa using hv)
  obtain ⟨M, hM⟩ : ∃ M, M = Sd.mkr R 21 0 a0 := ⟨_, rfl⟩
  have HM : Hid (Sd.mkr R 21 0 a0 = M) := hid hM.symm
  have HA := hid ha
  rw [← hM]
  clear hM ha
  generalize rowL R = L at HX HL HRA ⊢
  have HBL : Hid (Below w.heap.size w (w.alloc (.cells L.toArray 50))) := hid ((Below.refl _ w).alloc (Nat.le_refl _) _)
  go_enter Tryd.func30, Tryd.ntmps30
  go_wp2_with (first | (refine wpList_load_mid rfl 50 (.tmp 2) rfl w.heap.size 0 rfl L _ HRA.out u50 rfl HL.out ?_) | fail)
  go_loop [1, 6, 7, 9] (fun v1 v6 v7 v9 => ∃ (k a : Nat), k ≤ 21 ∧ v9 = .int .i64 (k : Int) ∧ v1 = .int .i64 (a : Int) ∧ a < 1048576 ∧ Hid (Sd.mkr R (21 - k) k a = M)) (fun _ _ _ v9 => 21 - (intOf v9).toNat)
  case atStart => exact ⟨0, a0, by omega, rfl, rfl, HA.out, HM⟩
  case round =>
    obtain ⟨k, a, hk, rfl, rfl, ha, hrel⟩ := hrel
    by_cases h21 : k < 21
    · have hix := HX.out k h21
      have hk1 : (k : Int) < 21 := by omega
      have hk0 : (0 : Int) ≤ (k : Int) := Int.natCast_nonneg _
      have hk64 : (k : Int) ≤ 64 := by omega
      have hw1 : IntKind.i64.wrap ((k : Int) + 1) = ((k + 1 : Nat) : Int) := by rw [IntKind.wrap_i64]; omega
      have HREL : Hid ((if R k = [] then Sd.mkr R (21 - (k + 1)) (k + 1) a else if a < 2 ^ k then (R k, k) else Sd.mkr R (21 - (k + 1)) (k + 1) (a - 2 ^ k)) = M) := hid (by have := hrel.out; rw [show 21 - k = (21 - (k + 1)) + 1 from by omega, Sd.mkr] at this; exact this)
      have HK1 := hid h21
      have hp2 : ((2 : Int) ^ k) = ((2 ^ k : Nat) : Int) := by simp
      have hple : 2 ^ k ≤ 2 ^ 20 := Nat.pow_le_pow_right (by omega) (by omega)
      have hsh1 : IntKind.i64.wrap ((2 : Int) ^ k) = ((2 ^ k : Nat) : Int) := by rw [hp2, IntKind.wrap_i64]; have hpos : 0 ≤ ((2 ^ k : Nat) : Int) := Int.natCast_nonneg _; have hup : ((2 ^ k : Nat) : Int) ≤ ((2 ^ 20 : Nat) : Int) := Int.ofNat_le.2 hple; generalize ((2 ^ k : Nat) : Int) = z at hpos hup ⊢; omega
      have hsh2 : IntKind.i64.wrap (1 * (2 : Int) ^ k) = ((2 ^ k : Nat) : Int) := by rw [Int.one_mul]; exact hsh1
      have HA1 := hid ha
      clear hrel h21 hk ha HX hp2
      by_cases hR : R k = []
      · have HRE : Hid (Sd.mkr R (21 - (k + 1)) (k + 1) a = M) := hid (by have := HREL.out; rw [if_pos hR] at this; exact this)
        rw [hR] at hix
        clear hR HREL
        go_wp2_with fail
        go_round
        case rel => exact ⟨k + 1, a, by have := HK1.out; omega, by go_num, rfl, HA1.out, HRE⟩
        case measure => simp [intOf]; omega
      · have HRE : Hid ((if a < 2 ^ k then (R k, k) else Sd.mkr R (21 - (k + 1)) (k + 1) (a - 2 ^ k)) = M) := hid (by have := HREL.out; rw [if_neg hR] at this; exact this)
        have HRK : Hid (∀ x, x = R k → (x == []) = false) := hid (fun x hx => by rw [hx]; simpa using hR)
        clear HREL
        obtain ⟨x, hx⟩ : ∃ x, x = R k := ⟨_, rfl⟩
        have hR2 := HRK.out x hx
        rw [← hx] at hix HRE hR
        clear HRK hx
        have HPL := hid hple
        obtain ⟨q, hq⟩ : ∃ q, q = 2 ^ k := ⟨_, rfl⟩
        rw [← hq] at hsh1 hsh2 HRE HPL
        have HQ := hid hq
        clear hq hple
        by_cases hlt : a < q
        · have hlt' : (a : Int) < (q : Int) := by omega
          have HRE2 : Hid (M = (x, k)) := hid (by have := HRE.out; rw [if_pos hlt] at this; exact this.symm)
          clear hlt HRE
          go_wp2_with fail
          go_ret2
          exact ⟨by rw [HRE2.out]; rfl, HBL.out⟩
        · have hlt' : ¬ (a : Int) < (q : Int) := by omega
          have HRE2 : Hid (Sd.mkr R (21 - (k + 1)) (k + 1) (a - q) = M) := hid (by have := HRE.out; rw [if_neg hlt] at this; exact this)
          have hw3 : IntKind.i64.wrap ((a : Int) - (q : Int)) = ((a - q : Nat) : Int) := by rw [IntKind.wrap_i64]; have := HA1.out; omega
          have HLT := hid hlt
          clear hlt HRE
          go_wp2_with fail
          go_round
          case rel => exact ⟨k + 1, a - q, by have := HK1.out; omega, by go_num, by have := HLT.out; first | rfl | go_num, by have := HA1.out; omega, HRE2⟩
          case measure => simp [intOf]; omega
    · have hk21 : k = 21 := by omega
      subst hk21
      have HRE : Hid (M = ([], 0)) := hid (by have := hrel.out; simpa [Sd.mkr] using this.symm)
      clear hrel h21
      go_wp2_with fail
      go_ret2
      exact ⟨by rw [HRE.out]; rfl, HBL.out⟩
end Go.Proofs.YtmdiggbbgcjcnaaDoor
