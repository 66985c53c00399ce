/- Checks: the program's and the document's. -/
import Derived.Test.YtelfogdcijmenaaDoorOne
import Derived.Deep.WholeRow
namespace Go.Proofs.YtelfogdcijmenaaDoor
open Go.RowKit

theorem bv32 (a : Nat) : (BitVec.ofInt 32 (a : Int)).toNat = a % 4294967296 := by simp
theorem xor32 {a b : Nat} (ha : a < 4294967296) (hb : b < 4294967296) : bits .xor .u32 (a : Int) (b : Int) = ((a ^^^ b : Nat) : Int) := by
  have h1 : a ^^^ b < 2 ^ 32 := Nat.xor_lt_two_pow ha hb
  change IntKind.u32.wrap ((BitVec.ofInt 32 (a : Int) ^^^ BitVec.ofInt 32 (b : Int)).toNat : Int) = _
  rw [BitVec.toNat_xor, bv32, bv32, Nat.mod_eq_of_lt ha, Nat.mod_eq_of_lt hb, IntKind.wrap_u32]
  omega
theorem and32 {a : Nat} (n : Nat) (hn : 2 ^ n < 4294967296) (ha : a < 4294967296) : bits .and .u32 (a : Int) (((2 ^ n - 1 : Nat)) : Int) = ((a % 2 ^ n : Nat) : Int) := by
  have h1 : a % 2 ^ n ≤ a := Nat.mod_le _ _
  change IntKind.u32.wrap ((BitVec.ofInt 32 (a : Int) &&& BitVec.ofInt 32 ((2 ^ n - 1 : Nat) : Int)).toNat : Int) = _
  rw [BitVec.toNat_and, bv32, bv32, Nat.mod_eq_of_lt ha, Nat.mod_eq_of_lt (show 2 ^ n - 1 < 4294967296 by omega), Nat.and_two_pow_sub_one_eq_mod, IntKind.wrap_u32]
  omega
/-- the table lies there -/
def mixA : Array Value := #[.int .u32 996825010, .int .u32 642813549, .int .u32 513874426, .int .u32 1027748829, .int .u32 705979059]
def Mx (w : World) : Prop := ∃ e fr, w.heap[0]? = some (.cells mixA e fr)
theorem Mx.below {w w' : World} (h : Mx w) (hb : Below w.heap.size w w') : Mx w' := by
  obtain ⟨e, fr, h1⟩ := h
  exact ⟨e, fr, (hb.block 0 (lt_of_block h1)).trans h1⟩
theorem wpList_load_arr {P : Program} (w : World) {ops : Array Oper} {rest : List Oper} {o : Oper} {a : Act} {Q : Exit → Act → World → Prop} (hg : o.guard = none) (x : Operand) (t : TypeId) (hop : o.op = Op.load t x)
    (g : Nat) (e : TypeId) (fr : Nat × Nat) (cs : Array Value) (n : Nat) (el : TypeId) (hx : a.eval x = .pointer (some ⟨g, 0, none⟩)) (hb : w.heap[g]? = some (.cells cs e fr)) (hu : P.underlying t = some (.array n el)) (hi : (P.info? t).map (·.size) = some cs.size)
    (hK : wpList P ops Q rest (a.put o.dst (.agg cs)) w) : wpList P ops Q (o :: rest) a w := by
  refine wpList_plain hg fun K hK' => ?_
  have hrun : (Instr.loadAt t (.pointer (some ⟨g, 0, none⟩))).run P w = .ok (.agg cs) w := by
    simp only [Instr.loadAt, Instr.sureAddr, Sem.run_bind, Sem.run_pure, Result.andThen]
    exact run_loadVar_row _ _ e t cs fr _ hb hu rfl hi
  unfold Oper.wp
  simp [execOp, hop, hx, hrun, Result.andThen]
  exact hK' _ _ hK
theorem wpList_index_run {P : Program} {w : World} {ops : Array Oper} {rest : List Oper} {o : Oper} {a : Act} {Q : Exit → Act → World → Prop} (hgd : o.guard = none) (x i : Operand) (t : TypeId)
    (ho : o.op = .index t x i) (xv iv v : Value) (hx : a.eval x = xv) (hi : a.eval i = iv)
    (hrun : ∀ W, (Instr.index t xv iv).run P W = .ok v W) (h : wpList P ops Q rest (a.put o.dst v) w) : wpList P ops Q (o :: rest) a w := by
  refine wpList_plain hgd fun K hK => ?_
  unfold Oper.wp
  simp [execOp, ho, hx, hi, hrun, Result.andThen]
  exact hK _ _ h
theorem mix_at0 (W : World) : (Instr.index 76 (.agg mixA) (.int .i64 0)).run Tryd.prog W = .ok (.int .u32 996825010) W := by kernel_rfl
theorem mix_at1 (W : World) : (Instr.index 76 (.agg mixA) (.int .i64 1)).run Tryd.prog W = .ok (.int .u32 642813549) W := by kernel_rfl
theorem mix_at2 (W : World) : (Instr.index 76 (.agg mixA) (.int .i64 2)).run Tryd.prog W = .ok (.int .u32 513874426) W := by kernel_rfl
theorem mix_at3 (W : World) : (Instr.index 76 (.agg mixA) (.int .i64 3)).run Tryd.prog W = .ok (.int .u32 1027748829) W := by kernel_rfl
theorem mix_at4 (W : World) : (Instr.index 76 (.agg mixA) (.int .i64 4)).run Tryd.prog W = .ok (.int .u32 705979059) W := by kernel_rfl
theorem mix_at (i : Nat) (h : i < 5) (W : World) : (Instr.index 76 (.agg mixA) (.int .i64 (i : Int))).run Tryd.prog W = .ok (.int .u32 (mx i : Int)) W := by
  have : i = 0 ∨ i = 1 ∨ i = 2 ∨ i = 3 ∨ i = 4 := by omega
  rcases this with rfl | rfl | rfl | rfl | rfl
  · exact mix_at0 W
  · exact mix_at1 W
  · exact mix_at2 W
  · exact mix_at3 W
  · exact mix_at4 W
theorem Tryd.size76 : (Tryd.prog.info? 76).map (·.size) = some 5 := by kernel_rfl
theorem chk_take_succ (c : Nat) (l : Bs) (k : Nat) (h : k < l.length) : chk c (l.take (k + 1)) = step (chk c (l.take k)) l[k].toNat := by
  have e : l.take (k + 1) = l.take k ++ [l[k]] := by rw [List.take_add_one, List.getElem?_eq_getElem h]; rfl
  rw [e, chk_append]
  rfl

set_option maxRecDepth 100000 in
set_option maxHeartbeats 4000000 in
theorem chk_any (l : Bs) (v : Value) (w : World) (hs : Sl w v l) (hm : l.length ≤ 1000000000) (hx : Mx w) : Calls Tryd.prog 41 #[v] w fun e w' => e = .returned (.int .u32 (chk 1 l : Int)) ∧ w' = w := by
  have HS := hid hs
  have HX := hid hx
  obtain ⟨ao, cap, rfl⟩ := hs.shape
  obtain ⟨C, hC⟩ : ∃ C, C = chk 1 l := ⟨_, rfl⟩
  rw [← hC]
  have HC := hid hC
  obtain ⟨n, hn⟩ : ∃ n, n = l.length := ⟨_, rfl⟩
  rw [← hn] at hm ⊢
  have HN := hid hn
  clear hs hx hC hn
  go_enter Tryd.func41, Tryd.ntmps41
  go_wp2_with fail
  go_loop [3, 5, 6, 7, 8, 11, 24] (fun v3 v5 v6 v7 v8 v11 v24 => ∃ (k c : Nat), k ≤ n ∧ c < 1073741824 ∧ v11 = .int .i64 (k : Int) ∧ v3 = .int .u32 (c : Int) ∧ Hid (c = chk 1 (l.take k))) (fun _ _ _ _ _ v11 _ => n - (intOf v11).toNat)
  case atStart => exact ⟨0, 1, by omega, by omega, rfl, rfl, hid rfl⟩
  case round =>
    obtain ⟨k, c, hk, hc30, rfl, rfl, hc⟩ := hrel
    by_cases hkn : k < n
    · have hk1 : (k : Int) < (n : Int) := by omega
      have hkl : k < l.length := by rw [← HN.out]; exact hkn
      have HT := hid (chk_take_succ 1 l k hkl)
      obtain ⟨g, o, rfl, hg, _, hcap, hcell⟩ := HS.out.at (fun e => by rw [e] at hkl; simp at hkl)
      rw [← HN.out] at hcap
      have hck := hcell k hkl
      generalize l[k] = x at *
      clear hcell
      obtain ⟨e0, fr0, hm0⟩ := HX.out
      have h1 : bits .and .u32 (c : Int) 33554431 = ((c % 33554432 : Nat) : Int) := and32 25 (by omega) (by omega)
      go_wp2_with (first | (refine wpList_load_arr _ rfl (.global 0) 76 rfl 0 e0 fr0 mixA 5 46 rfl hm0 Tryd.underlying76 Tryd.size76 ?_) | fail)
      clear h1 hck hm0
      obtain ⟨t, ht⟩ : ∃ t, t = c / 33554432 := ⟨_, rfl⟩
      obtain ⟨b0, hb0⟩ : ∃ b0, b0 = c % 33554432 * 32 ^^^ x.toNat := ⟨_, rfl⟩
      have hx8 := x.toNat_lt
      have hb30 : b0 < 1073741824 := by rw [hb0]; exact Nat.xor_lt_two_pow (n := 30) (by omega) (by omega)
      have e1 : (c : Int) / 33554432 = (t : Int) := by omega
      have e2 : bits .xor .u32 ((c : Int) % 33554432 * 32) ((x.toNat : Int) % 4294967296) = (b0 : Int) := by
        have h1 := xor32 (a := c % 33554432 * 32) (b := x.toNat) (by omega) (by omega)
        rw [← hb0] at h1
        rw [← h1]
        congr 1
        omega
      rw [e1, e2]
      have HST : Hid (step c x.toNat = b0 ^^^ mixUp t 5) := hid (by rw [hb0, ht]; rfl)
      have ht32 : t < 32 := by omega
      clear ht hb0 e1 e2
      go_loop [3, 7, 8, 24] (fun v3 v7 v8 v24 => ∃ (i d : Nat), i ≤ 5 ∧ d < 1073741824 ∧ v24 = .int .i64 (i : Int) ∧ v3 = .int .u32 (d : Int) ∧ Hid (d = b0 ^^^ mixUp t i)) (fun _ _ _ v24 => 5 - (intOf v24).toNat)
      case atStart => exact ⟨0, b0, by omega, hb30, rfl, rfl, hid (by simp [mixUp])⟩
      case round =>
        obtain ⟨i, d, hi, hd30, rfl, rfl, hd⟩ := hrel
        have hi' : i = 5 ∨ i < 5 := by omega
        rcases hi' with rfl | hi5
        · have HE : Hid (d = chk 1 (l.take (k + 1))) := hid (by rw [HT.out, ← hc.out, HST.out]; exact hd.out)
          go_wp2_with fail
          go_round
          case rel => exact ⟨k + 1, d, by omega, hd30, by go_num, rfl, HE⟩
          case measure => simp [intOf]; omega
        · have hbit : bits .and .u32 ((t : Int) / ((2 ^ i : Nat) : Int)) 1 = ((t / 2 ^ i % 2 : Nat) : Int) := by
            have h1 := and32 (a := t / 2 ^ i) 1 (by omega) (Nat.lt_of_le_of_lt (Nat.div_le_self _ _) (by omega))
            simpa using h1
          have hxr := xor32 (a := d) (b := mx i) (by omega) (by
            have : i = 0 ∨ i = 1 ∨ i = 2 ∨ i = 3 ∨ i = 4 := by omega
            rcases this with rfl | rfl | rfl | rfl | rfl <;> decide)
          have hx30 : d ^^^ mx i < 1073741824 := Nat.xor_lt_two_pow (n := 30) hd30 (by
            have : i = 0 ∨ i = 1 ∨ i = 2 ∨ i = 3 ∨ i = 4 := by omega
            rcases this with rfl | rfl | rfl | rfl | rfl <;> decide)
          have HIX := hid (mix_at i hi5)
          obtain ⟨m, hm2⟩ : ∃ m, m = mx i := ⟨_, rfl⟩
          rw [← hm2] at HIX hxr hx30
          have HMX := hid hm2
          clear hm2
          by_cases hbt : t / 2 ^ i % 2 = 1
          · have HD : Hid (d ^^^ m = b0 ^^^ mixUp t (i + 1)) := hid (by rw [mixUp, if_pos hbt, ← Nat.xor_assoc, ← hd.out, HMX.out])
            rw [hbt] at hbit
            clear hbt hd
            generalize d ^^^ m = d2 at *
            have hi'' : i = 0 ∨ i = 1 ∨ i = 2 ∨ i = 3 ∨ i = 4 := by omega
            rcases hi'' with rfl | rfl | rfl | rfl | rfl
            all_goals
              simp at hbit
              go_wp2_with (first | (refine wpList_index_run rfl (.tmp 23) (.tmp 24) 76 rfl _ _ (.int .u32 (m : Int)) rfl rfl HIX.out ?_) | fail)
              go_round
              case rel => exact ⟨_, d2, by omega, hx30, by go_num, rfl, HD⟩
              case measure => simp [intOf]
          · have HD : Hid (d = b0 ^^^ mixUp t (i + 1)) := hid (by rw [mixUp, if_neg hbt]; exact hd.out)
            have hbt0 : t / 2 ^ i % 2 = 0 := by omega
            rw [hbt0] at hbit
            clear hbt hbt0 hd hxr hx30
            have hi'' : i = 0 ∨ i = 1 ∨ i = 2 ∨ i = 3 ∨ i = 4 := by omega
            rcases hi'' with rfl | rfl | rfl | rfl | rfl
            all_goals
              simp at hbit
              go_wp2_with (first | (refine wpList_index_run rfl (.tmp 23) (.tmp 24) 76 rfl _ _ (.int .u32 (m : Int)) rfl rfl HIX.out ?_) | fail)
              go_round
              case rel => exact ⟨_, d, by omega, hd30, by go_num, rfl, HD⟩
              case measure => simp [intOf]
    · have hk1 : ¬ (k : Int) < (n : Int) := by omega
      have HE : Hid (c = C) := hid (by rw [hc.out, List.take_of_length_le (by rw [← HN.out]; omega), HC.out])
      clear hc
      obtain rfl := HE.out
      go_wp2_with fail
      go_ret
      exact ⟨rfl, rfl⟩
end Go.Proofs.YtelfogdcijmenaaDoor
