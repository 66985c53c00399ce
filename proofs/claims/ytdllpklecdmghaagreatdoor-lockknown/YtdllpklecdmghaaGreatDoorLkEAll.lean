import Derived.Test.YtdllpklecdmghaaGreatDoorFrAll
import Derived.Deep.AppendSrc
import Derived.Test.YtdllpklecdmghaaGreatDoorDrAll
import Derived.Test.YtdllpklecdmghaaGreatDoorKeysAll
import Derived.Test.YtdllpklecdmghaaGreatDoorKaAll
/- Locks are put together. -/
namespace Go.Proofs.YtdllpklecdmghaaGreatDoor
open Go.RowKit
open Lk (Lt)
theorem zero_cells {w w1 : World} (hb : Below (w.alloc (.cells #[.int .u8 0, .string ⟨#[]⟩, .int .i64 0, .slice none 0 0] 25)).heap.size (w.alloc (.cells #[.int .u8 0, .string ⟨#[]⟩, .int .i64 0, .slice none 0 0] 25)) w1) : w1.cell? ⟨w.heap.size, 0, none⟩ = some (.int .u8 0) ∧ w1.cell? ⟨w.heap.size, 1, none⟩ = some (.string ⟨#[]⟩) ∧ w1.cell? ⟨w.heap.size, 2, none⟩ = some (.int .i64 0) ∧ w1.cell? ⟨w.heap.size, 3, none⟩ = some (.slice none 0 0) ∧ ∀ j, w1.frozen? ⟨w.heap.size, j, none⟩ = false := by
  have h : w1.heap[w.heap.size]? = some (.cells #[.int .u8 0, .string ⟨#[]⟩, .int .i64 0, .slice none 0 0] 25 (0, 0)) := by
    rw [hb.block _ (lt_of_heap (heap_alloc_new w _))]
    exact heap_alloc_new w _
  exact ⟨(cell_of_heap h 0).trans rfl, (cell_of_heap h 1).trans rfl, (cell_of_heap h 2).trans rfl, (cell_of_heap h 3).trans rfl, fun j => frozen_of_heap h j⟩
theorem zero_heap {w w1 : World} (hb : Below (w.alloc (.cells #[.int .u8 0, .string ⟨#[]⟩, .int .i64 0, .slice none 0 0] 25)).heap.size (w.alloc (.cells #[.int .u8 0, .string ⟨#[]⟩, .int .i64 0, .slice none 0 0] 25)) w1) (v0 v1 v2 v3 : Value) : (setL w1 w.heap.size 0 v0 v1 v2 v3).heap[w.heap.size]? = some (.cells #[v0, v1, v2, v3] 25 (0, 0)) := by
  have h : w1.heap[w.heap.size]? = some (.cells #[.int .u8 0, .string ⟨#[]⟩, .int .i64 0, .slice none 0 0] 25 (0, 0)) := by
    rw [hb.block _ (lt_of_heap (heap_alloc_new w _))]
    exact heap_alloc_new w _
  exact setL_same h 0 v0 v1 v2 v3
theorem results_cell {P : Program} {fn : Func} {tmps : Array Value} {k : Nat} {t : TypeId} {a : Addr} {v : Value} {w : World} (hr : fn.results = #[.cell k t]) (hk : tmps.getD k undef = .pointer (some a)) (hl : (loadVar t a).run P w = .ok v w) :
    (results fn tmps).run P w = .ok v w := by
  have hk' : tmps[k]?.getD undef = .pointer (some a) := by simpa using hk
  unfold results
  rw [hr]
  simp [hk', asAddr, hl]
theorem Tryz.size25 : (Tryz.prog.info? 25).map (·.size) = some 4 := by kernel_rfl
theorem ret_lock {fn : Func} {tmps : Array Value} {k g : Nat} {v0 v1 v2 v3 : Value} {w : World} (hr : fn.results = #[.cell k 25]) (hk : tmps.getD k undef = .pointer (some ⟨g, 0, none⟩)) (h : w.heap[g]? = some (.cells #[v0, v1, v2, v3] 25 (0, 0))) : (results fn tmps).run Tryz.prog w = .ok (.agg #[v0, v1, v2, v3]) w :=
  results_cell hr hk (run_loadVar_row _ _ 25 25 _ (0, 0) _ h Tryz.underlying25 rfl Tryz.size25)
theorem below_two {w w1 : World} {o : Obj} (hb : Below (w.alloc o).heap.size (w.alloc o) w1) : Below w.heap.size w w1 := (below_al w o).trans (hb.mono (below_al w o).size)
theorem mk_sig (t : Bs) (w : World) (h : t.length ≤ 20000) : Calls Tryz.prog 24 #[St t] w fun e w' => e = .returned (.agg (lcs (.mk 1 t 0 []) (.slice none 0 0))) ∧ Below w.heap.size w w' := by
  have HC : Hid (∀ W, Calls Tryz.prog 43 #[St t] W fun e w' => e = .returned (St t) ∧ Below W.heap.size W w') := hid (fun W => freshT_any t W h)
  have HL : Hid (lcs (.mk 1 t 0 []) (.slice none 0 0) = #[.int .u8 1, St t, .int .i64 0, .slice none 0 0]) := hid rfl
  rw [HL.out]
  clear h
  go_enter Tryz.func24, Tryz.ntmps24
  go_wp2_with fail
  refine (HC.out _).mono ?_
  rintro e w1 ⟨rfl, hb⟩
  obtain ⟨q0, q1, q2, q3, qf⟩ := zero_cells hb
  have HB := hid (below_two hb)
  have HZ := hid (zero_heap hb)
  clear hb
  go_wp2_with fail
  refine bodyPost_ret (v := .agg #[.int .u8 1, St t, .int .i64 0, .slice none 0 0]) (ret_lock Tryz.results24 rfl (HZ.out _ _ _ _)) rfl ⟨rfl, setL_below HB.out (Nat.le_refl _) 0 _ _ _ _⟩
theorem mk_pre (t : Bs) (w : World) (h : t.length ≤ 20000) : Calls Tryz.prog 25 #[St t] w fun e w' => e = .returned (.agg (lcs (.mk 2 t 0 []) (.slice none 0 0))) ∧ Below w.heap.size w w' := by
  have HC : Hid (∀ W, Calls Tryz.prog 43 #[St t] W fun e w' => e = .returned (St t) ∧ Below W.heap.size W w') := hid (fun W => freshT_any t W h)
  have HL : Hid (lcs (.mk 2 t 0 []) (.slice none 0 0) = #[.int .u8 2, St t, .int .i64 0, .slice none 0 0]) := hid rfl
  rw [HL.out]
  clear h
  go_enter Tryz.func25, Tryz.ntmps25
  go_wp2_with fail
  refine (HC.out _).mono ?_
  rintro e w1 ⟨rfl, hb⟩
  obtain ⟨q0, q1, q2, q3, qf⟩ := zero_cells hb
  have HB := hid (below_two hb)
  have HZ := hid (zero_heap hb)
  clear hb
  go_wp2_with fail
  refine bodyPost_ret (v := .agg #[.int .u8 2, St t, .int .i64 0, .slice none 0 0]) (ret_lock Tryz.results25 rfl (HZ.out _ _ _ _)) rfl ⟨rfl, setL_below HB.out (Nat.le_refl _) 0 _ _ _ _⟩
theorem mk_after (n : Int) (w : World) : Calls Tryz.prog 22 #[.int .i64 n] w fun e w' => e = .returned (.agg (lcs (.mk 3 [] n []) (.slice none 0 0))) ∧ Below w.heap.size w w' := by
  have HL : Hid (lcs (.mk 3 [] n []) (.slice none 0 0) = #[.int .u8 3, St [], .int .i64 n, .slice none 0 0]) := hid rfl
  rw [HL.out]
  go_enter Tryz.func22, Tryz.ntmps22
  go_wp2_with fail
  refine bodyPost_ret (v := .agg #[.int .u8 3, St [], .int .i64 n, .slice none 0 0]) (ret_lock Tryz.results22 rfl (heap_alloc_new w _)) rfl ⟨rfl, below_al _ _⟩
theorem mk_older (n : Int) (w : World) : Calls Tryz.prog 26 #[.int .i64 n] w fun e w' => e = .returned (.agg (lcs (.mk 4 [] n []) (.slice none 0 0))) ∧ Below w.heap.size w w' := by
  have HL : Hid (lcs (.mk 4 [] n []) (.slice none 0 0) = #[.int .u8 4, St [], .int .i64 n, .slice none 0 0]) := hid rfl
  rw [HL.out]
  go_enter Tryz.func26, Tryz.ntmps26
  go_wp2_with fail
  refine bodyPost_ret (v := .agg #[.int .u8 4, St [], .int .i64 n, .slice none 0 0]) (ret_lock Tryz.results26 rfl (heap_alloc_new w _)) rfl ⟨rfl, below_al _ _⟩
theorem heap_alloc_size (w : World) (o : Obj) : (w.alloc o).heap.size = w.heap.size + 1 := by simp
theorem mk_all {b : Nat → Prop} (d : Nat) (v : Value) (ks : List Lt) (w : World) (hk : Kd b w d v ks) (hs : Lk.smalls ks = true) (hl : ks.length ≤ 1000000) : Calls Tryz.prog 23 #[v] w fun e w' => ∃ v', e = .returned (.agg (lcs (.mk 5 [] 0 ks) v')) ∧ Kd (fun g => w.heap.size + 1 ≤ g) w' d v' ks ∧ Below w.heap.size w w' := by
  have HC : Hid (∀ W, Below w.heap.size w W → Calls Tryz.prog 49 #[v] W fun e w' => ∃ a c, e = .returned (.slice a ks.length c) ∧ Kd (fun g => W.heap.size ≤ g) w' d (.slice a ks.length c) ks ∧ Below W.heap.size W w') := hid (fun W hW => (fkids_any d v ks W (hk.low hW) hs hl).mono (fun e w' ⟨v', h1, h2, h3⟩ => by
    obtain ⟨_, a, c, rfl⟩ := h2.shape
    exact ⟨a, c, h1, h2, h3⟩))
  have HL : Hid (∀ v', lcs (.mk 5 [] 0 ks) v' = #[.int .u8 5, St [], .int .i64 0, v']) := hid (fun _ => rfl)
  clear hk hs hl
  go_enter Tryz.func23, Tryz.ntmps23
  go_wp2_with fail
  refine (HC.out _ (below_al _ _)).mono ?_
  rintro e w1 ⟨a, c, rfl, hkd, hb⟩
  obtain ⟨q0, q1, q2, q3, qf⟩ := zero_cells hb
  have HB := hid (below_two hb)
  have HK := hid hkd
  have HZ := hid (zero_heap hb)
  have HSZ := hid (heap_alloc_size w (.cells #[.int .u8 0, .string ⟨#[]⟩, .int .i64 0, .slice none 0 0] 25))
  clear hb hkd
  go_wp2_with fail
  refine bodyPost_ret (v := .agg #[.int .u8 5, St [], .int .i64 0, .slice a ks.length c]) (ret_lock Tryz.results23 rfl (HZ.out _ _ _ _)) rfl ⟨.slice a ks.length c, by rw [HL.out], ?_, setL_below HB.out (Nat.le_refl _) 0 _ _ _ _⟩
  have hk := HK.out
  rw [HSZ.out] at hk
  exact hk.same (fun g (hg : w.heap.size + 1 ≤ g) _ => setL_other w1 w.heap.size 0 _ _ _ _ (by omega))
theorem mk_any {b : Nat → Prop} (d : Nat) (v : Value) (ks : List Lt) (w : World) (hk : Kd b w d v ks) (hs : Lk.smalls ks = true) (hl : ks.length ≤ 1000000) : Calls Tryz.prog 27 #[v] w fun e w' => ∃ v', e = .returned (.agg (lcs (.mk 6 [] 0 ks) v')) ∧ Kd (fun g => w.heap.size + 1 ≤ g) w' d v' ks ∧ Below w.heap.size w w' := by
  have HC : Hid (∀ W, Below w.heap.size w W → Calls Tryz.prog 49 #[v] W fun e w' => ∃ a c, e = .returned (.slice a ks.length c) ∧ Kd (fun g => W.heap.size ≤ g) w' d (.slice a ks.length c) ks ∧ Below W.heap.size W w') := hid (fun W hW => (fkids_any d v ks W (hk.low hW) hs hl).mono (fun e w' ⟨v', h1, h2, h3⟩ => by
    obtain ⟨_, a, c, rfl⟩ := h2.shape
    exact ⟨a, c, h1, h2, h3⟩))
  have HL : Hid (∀ v', lcs (.mk 6 [] 0 ks) v' = #[.int .u8 6, St [], .int .i64 0, v']) := hid (fun _ => rfl)
  clear hk hs hl
  go_enter Tryz.func27, Tryz.ntmps27
  go_wp2_with fail
  refine (HC.out _ (below_al _ _)).mono ?_
  rintro e w1 ⟨a, c, rfl, hkd, hb⟩
  obtain ⟨q0, q1, q2, q3, qf⟩ := zero_cells hb
  have HB := hid (below_two hb)
  have HK := hid hkd
  have HZ := hid (zero_heap hb)
  have HSZ := hid (heap_alloc_size w (.cells #[.int .u8 0, .string ⟨#[]⟩, .int .i64 0, .slice none 0 0] 25))
  clear hb hkd
  go_wp2_with fail
  refine bodyPost_ret (v := .agg #[.int .u8 6, St [], .int .i64 0, .slice a ks.length c]) (ret_lock Tryz.results27 rfl (HZ.out _ _ _ _)) rfl ⟨.slice a ks.length c, by rw [HL.out], ?_, setL_below HB.out (Nat.le_refl _) 0 _ _ _ _⟩
  have hk := HK.out
  rw [HSZ.out] at hk
  exact hk.same (fun g (hg : w.heap.size + 1 ≤ g) _ => setL_other w1 w.heap.size 0 _ _ _ _ (by omega))
end Go.Proofs.YtdllpklecdmghaaGreatDoor
/- What append does to a row of one's own. -/
namespace Go.Proofs.YtdllpklecdmghaaGreatDoor
open Go.RowKit
open Lk (Lt)
theorem wpList_append_run {P : Program} {w : World} {ops : Array Oper} {rest : List Oper} {o : Oper} {a : Act} {Q : Exit → Act → World → Prop} (hgd : o.guard = none) (s x : Operand) (t u : TypeId)
    (ho : o.op = .call { callee := .builtin .append, args := #[s, x], argTypes := #[t, u] }) (v xv v' : Value) (w' : World) (hs : a.eval s = v) (hx : a.eval x = xv)
    (hrun : ∀ ty, (Builtin.append_ #[t, u] ty #[v, xv]).run P w = .ok v' w') (h : wpList P ops Q rest (a.put o.dst v') w') : wpList P ops Q (o :: rest) a w := by
  refine wpList_plain hgd fun K hK => ?_
  unfold Oper.wp
  simp [execOp, ho, resolve, invoke, builtin, hs, hx, hrun, Result.andThen]
  exact hK _ _ h
theorem row_shape {w : World} {base : Nat} {e : TypeId} {sz : Nat} {v : Value} {n : Nat} {xs : List Value} (h : w.ownsRow base e sz v n xs) : ∃ ao cap, v = .slice ao n cap := by
  rcases h.2 with ⟨h1, h2⟩ | ⟨g, cap, _, h1, _⟩
  · rw [h2]; exact ⟨_, _, h1⟩
  · exact ⟨_, _, h1⟩
theorem below_own {b : Nat} {w0 w w' : World} {e : TypeId} {size : Nat} {v : Value} {n : Nat} {xs : List Value} (hb : Below b w0 w) (hbs : b ≤ w.heap.size) (ho : w.ownsRow b e size v n xs) (hg : w.grownBy w' v.ownBlock) : Below b w0 w' := by
  refine ⟨hg.os.trans hb.os, hg.tape.trans hb.tape, hg.output.trans hb.output, Nat.le_trans hb.size hg.size, fun k hk => ?_⟩
  rw [hg.block k (by omega) (fun e => by have := (ho.lt k e.symm).1; omega)]
  exact hb.block k hk
theorem add_plain (g o i : Nat) : (⟨g, o, none⟩ : Addr).add i = ⟨g, o + i, none⟩ := by
  unfold Addr.add
  split
  · rename_i h; subst h; rfl
  · rfl
theorem app_run {t e : TypeId} {sz bt : Nat} {i0 : TypeInfo} {z : Value} (ht : Tryz.prog.underlying t = some (.slice e)) (hi : Tryz.prog.info? e = some i0) (hz0 : i0.zero = some z) (hz1 : i0.size = sz) (hz2 : i0.bytes = bt) (hzs : z.cells.size = sz) (hsz : 0 < sz)
    {W : World} {base : Nat} {v : Value} {n : Nat} {xs : List Value} (hown : W.ownsRow base e sz v n xs) (news : List Value) (hl : news.length = sz) (h1 : ∀ u ∈ news, u.oneCell' = true) (hn : (n + 1) * bt ≤ 140737488355328) (hn2 : n + 1 ≤ 140737488355328) (hbase : base ≤ W.heap.size) :
    ∃ ao cap w', (∀ ty, (Builtin.append_ #[t, t] ty #[v, .slice (some ⟨W.heap.size, 0, none⟩) 1 1]).run Tryz.prog (W.alloc (.cells news.toArray e)) = .ok (.slice ao (n + 1) cap) w') ∧ w'.ownsRow base e sz (.slice ao (n + 1) cap) (n + 1) (xs ++ news) ∧ W.grownBy w' v.ownBlock := by
  obtain ⟨v', w', h4, h5, h6, _⟩ := run_append_own (P := Tryz.prog) (W.alloc (.cells news.toArray e)) base t t e i0 z sz bt ht hi hz0 hz1 hz2 hzs hsz v n xs (hown.alloc _) ⟨W.heap.size, 0, none⟩ 1 1 news (by omega)
    (fun j u hj => by
      have : (W.alloc (.cells news.toArray e)).cell? ⟨W.heap.size, j, none⟩ = some u := by
        rw [cell_of_heap (heap_alloc_new W _)]
        simpa using hj
      rw [add_plain, Nat.zero_add]
      exact this) h1 (by unfold maxLen; omega) hn (by simp; omega)
  obtain ⟨ao, cap, rfl⟩ := row_shape h5
  refine ⟨ao, cap, w', fun ty => h4, h5, ⟨h6.os, h6.tape, h6.output, ?_, fun k hk hne => ?_⟩⟩
  · have := h6.size; simp at this; omega
  · rw [h6.block k (by simp; omega) hne]; exact Below.heap_alloc W _ k hk
theorem app_byte {W : World} {base : Nat} {v : Value} {l : Bs} (hown : W.ownsRow base 5 1 v l.length (bcs l)) (c : UInt8) (z : Int) (hz : z = (c.toNat : Int)) (hn : l.length + 1 ≤ 140737488355328) (hbase : base ≤ W.heap.size) :
    ∃ ao cap w', (∀ ty, (Builtin.append_ #[51, 51] ty #[v, .slice (some ⟨W.heap.size, 0, none⟩) 1 1]).run Tryz.prog (W.alloc (.cells #[.int .u8 z] 5)) = .ok (.slice ao (l.length + 1) cap) w') ∧ w'.ownsRow base 5 1 (.slice ao (l.length + 1) cap) (l ++ [c]).length (bcs (l ++ [c])) ∧ W.grownBy w' v.ownBlock := by
  obtain ⟨i0, hi, hz0, hz1, hz2⟩ := info_parts Tryz.info5
  subst hz
  obtain ⟨ao, cap, w', h1, h2, h3⟩ := app_run (t := 51) Tryz.underlying51 hi hz0 hz1 hz2 rfl (by decide) hown [.int .u8 (c.toNat : Int)] rfl (fun u hu => by simp at hu; rw [hu]; rfl) (by omega) hn hbase
  refine ⟨ao, cap, w', h1, ?_, h3⟩
  have e : bcs l ++ [.int .u8 (c.toNat : Int)] = bcs (l ++ [c]) := by rw [← bcs_app]; rfl
  rw [e] at h2
  rw [List.length_append]
  exact h2
theorem app_str {W : World} {base : Nat} {v : Value} {l : Bs} (hown : W.ownsRow base 5 1 v l.length (bcs l)) (t : Bs) (hn : l.length + t.length ≤ 140737488355328) (hbase : base ≤ W.heap.size) :
    ∃ ao cap w', (∀ ty, (Builtin.append_ #[51, 22] ty #[v, St t]).run Tryz.prog W = .ok (.slice ao (l ++ t).length cap) w') ∧ w'.ownsRow base 5 1 (.slice ao (l ++ t).length cap) (l ++ t).length (bcs (l ++ t)) ∧ W.grownBy w' v.ownBlock := by
  obtain ⟨i0, hi, hz0, hz1, hz2⟩ := info_parts Tryz.info5
  obtain ⟨v', w', h4, h5, h6, _⟩ := Lib.run_append_own_string (P := Tryz.prog) W base 51 22 51 5 i0 Tryz.underlying51 Tryz.underlying22 hi hz0 hz1 hz2 v l.length (bcs l) hown ⟨t.toArray⟩ (by unfold maxLen; rw [st_size]; omega) (by rw [st_size]; omega) hbase
  rw [strCells_bcs, st_size, bcs_app, ← List.length_append] at h5
  obtain ⟨ao, cap, rfl⟩ := row_shape h5
  exact ⟨ao, cap, w', fun ty => h4, h5, h6⟩
theorem app_term {W : World} {base : Nat} {v : Value} {l : List Bs} (hown : W.ownsRow base 22 1 v l.length (l.map fun b => St b)) (t : Bs) (hn : l.length + 1 ≤ 1000000) (hbase : base ≤ W.heap.size) :
    ∃ ao cap w', (∀ ty, (Builtin.append_ #[32, 32] ty #[v, .slice (some ⟨W.heap.size, 0, none⟩) 1 1]).run Tryz.prog (W.alloc (.cells #[St t] 22)) = .ok (.slice ao (l.length + 1) cap) w') ∧ w'.ownsRow base 22 1 (.slice ao (l.length + 1) cap) (l ++ [t]).length ((l ++ [t]).map fun b => St b) ∧ W.grownBy w' v.ownBlock := by
  obtain ⟨i0, hi, hz0, hz1, hz2⟩ := info_parts Tryz.info22
  obtain ⟨ao, cap, w', h1, h2, h3⟩ := app_run (t := 32) Tryz.underlying32 hi hz0 hz1 hz2 rfl (by decide) hown [St t] rfl (fun u hu => by simp at hu; rw [hu]; rfl) (by omega) (by omega) hbase
  exact ⟨ao, cap, w', h1, by simpa using h2, h3⟩
end Go.Proofs.YtdllpklecdmghaaGreatDoor
/- Scanning: a letter, a number, bytes. -/
namespace Go.Proofs.YtdllpklecdmghaaGreatDoor
open Go.RowKit
theorem ex_text (x : Bs) (i j : Nat) : (⟨x.toArray⟩ : ByteArray).extract i j = ⟨((x.drop i).take (j - i)).toArray⟩ := by
  rw [extract_eq]
theorem ex_drop (x : Bs) (i : Nat) : (⟨x.toArray⟩ : ByteArray).extract i x.length = ⟨(x.drop i).toArray⟩ := by
  rw [ex_text, List.take_of_length_le (by rw [List.length_drop]; omega)]
theorem ex_take (x : Bs) (j : Nat) : (⟨x.toArray⟩ : ByteArray).extract 0 j = ⟨(x.take j).toArray⟩ := by
  rw [ex_text, List.drop_zero, Nat.sub_zero]
theorem letter_nil (tb : Nat) (w : World) (h : w.cell? ⟨tb, 0, none⟩ = some (St [])) : Calls Tryz.prog 42 #[.pointer (some ⟨tb, 0, none⟩)] w fun e w' => e = .returned (.int .u8 0) ∧ w' = w := by
  go_enter Tryz.func42, Tryz.ntmps42
  go_wp2_with fail
  go_ret
  exact ⟨rfl, rfl⟩
set_option maxHeartbeats 4000000 in
theorem letter_cons (tb : Nat) (c : UInt8) (r : Bs) (w : World) (h : w.cell? ⟨tb, 0, none⟩ = some (St (c :: r))) (hf : w.frozen? ⟨tb, 0, none⟩ = false) : Calls Tryz.prog 42 #[.pointer (some ⟨tb, 0, none⟩)] w fun e w' => e = .returned (.int .u8 (c.toNat : Int)) ∧ w' = w.setCell ⟨tb, 0, none⟩ (St r) := by
  obtain ⟨l, hl⟩ : ∃ l, l = c :: r := ⟨_, rfl⟩
  rw [← hl] at h
  have hsz : 0 < (⟨l.toArray⟩ : ByteArray).size := by rw [st_size, hl]; simp
  have hix := st_idx hl hsz
  have hne : (l == []) = false := by rw [hl]; rfl
  have hem : List.isEmpty l = false := by rw [hl]; rfl
  have htl : (⟨l.toArray⟩ : ByteArray).extract 1 l.length = ⟨r.toArray⟩ := by rw [ex_drop, hl]; rfl
  have HL := hid hl
  clear hl
  go_enter Tryz.func42, Tryz.ntmps42
  go_wp2_with fail
  go_ret
  exact ⟨rfl, rfl⟩
theorem st_at {s : Bs} {i : Nat} (hi : i < s.length) (h2 : i < (⟨s.toArray⟩ : ByteArray).size) : (⟨s.toArray⟩ : ByteArray)[i] = s[i]'hi := by
  show s.toArray[i]'h2 = s[i]
  simp
def NmE (w : World) (tb : Nat) (r : Option (Nat × Bs)) (e : Ending) (w' : World) : Prop := match r with
  | none => e = .returned (.int .i64 (-1)) ∧ w' = w
  | some (n, x) => e = .returned (.int .i64 (n : Int)) ∧ w' = w.setCell ⟨tb, 0, none⟩ (St x)
theorem NmE.no {w : World} {tb : Nat} {r : Option (Nat × Bs)} (h : r = none) : NmE w tb r (.returned (.int .i64 (-1))) w := by subst h; exact ⟨rfl, rfl⟩
theorem NmE.yes {w : World} {tb n : Nat} {x : Bs} {r : Option (Nat × Bs)} (h : r = some (n, x)) : NmE w tb r (.returned (.int .i64 (n : Int))) (w.setCell ⟨tb, 0, none⟩ (St x)) := by subst h; exact ⟨rfl, rfl⟩
theorem wrap_small {x : Int} (h0 : -9223372036854775808 ≤ x) (h1 : x ≤ 9223372036854775807) : wrap64 x = x := by unfold wrap64; omega
theorem wrap_nat {x : Int} {k : Nat} (h : x = (k : Int)) (h1 : k ≤ 9223372036854775807) : wrap64 x = (k : Int) := by rw [h]; exact wrap_small (by omega) (by omega)
theorem nmA {most n dd : Nat} (hm : most ≤ 9223372036854775807) (h1 : ¬ most / 10 < n) (hd : dd ≤ 9) : wrap64 (10 * (n : Int)) = 10 * (n : Int) ∧ wrap64 (dd : Int) = (dd : Int) ∧ wrap64 ((most : Int) - 10 * (n : Int)) = ((most - 10 * n : Nat) : Int) :=
  ⟨wrap_small (by omega) (by omega), wrap_small (by omega) (by omega), wrap_nat (by omega) (by omega)⟩
theorem nmB {most n dd : Nat} (hm : most ≤ 9223372036854775807) (h2 : ¬ most < 10 * n + dd) : wrap64 (10 * (n : Int) + (dd : Int)) = ((10 * n + dd : Nat) : Int) := wrap_nat (by omega) (by omega)
theorem nmC {i L : Nat} (h : i < L) (hL : L ≤ 140737488355328) : wrap64 ((i : Int) + 1) = ((i + 1 : Nat) : Int) := wrap_nat (by omega) (by omega)
theorem nmD {c : UInt8} {dd : Nat} (h : dd = c.toNat - 48) (h1 : ¬ c.toNat < 48) (h2 : ¬ 57 < c.toNat) : IntKind.u8.wrap ((c.toNat : Int) - 48) = (dd : Int) ∧ dd ≤ 9 := by
  rw [IntKind.wrap_u8]
  omega
theorem nmE {most n : Nat} : (most / 10 < n → ((most / 10 : Nat) : Int) < (n : Int)) ∧ (¬ most / 10 < n → ¬ ((most / 10 : Nat) : Int) < (n : Int)) := ⟨fun h => by omega, fun h => by omega⟩
theorem nmF {most n dd : Nat} (h1 : ¬ most / 10 < n) : (most < 10 * n + dd → ((most - 10 * n : Nat) : Int) < (dd : Int)) ∧ (¬ most < 10 * n + dd → ¬ ((most - 10 * n : Nat) : Int) < (dd : Int)) := ⟨fun h => by omega, fun h => by omega⟩
theorem nmG {most n dd : Nat} (h : most / 10 < n) : most < 10 * n + dd := by omega
theorem nmH (n dd : Nat) : 10 * (n : Int) + (dd : Int) = ((10 * n + dd : Nat) : Int) := by simp
def NmR (r : Option (Nat × Bs)) (e : UInt8) (most n i : Nat) (s : Bs) : Prop := r = Sc.nmGo e most n i (s.drop i)
set_option maxHeartbeats 8000000 in
theorem scnum_any (tb : Nat) (e : UInt8) (he : 57 < e.toNat) (most : Nat) (hm : most ≤ 9223372036854775807) (s : Bs) (hs : s.length ≤ 140737488355328) (w : World) (h : w.cell? ⟨tb, 0, none⟩ = some (St s)) (hf : w.frozen? ⟨tb, 0, none⟩ = false) : Calls Tryz.prog 45 #[.pointer (some ⟨tb, 0, none⟩), .int .u8 (e.toNat : Int), .int .i64 (most : Int)] w (NmE w tb (Sc.nm e most s)) := by
  have hsz : (⟨s.toArray⟩ : ByteArray).size = s.length := st_size s
  obtain ⟨L, hL⟩ : ∃ L, L = s.length := ⟨_, rfl⟩
  have HRES : Hid (Sc.nm e most s = Sc.nmGo e most 0 0 (s.drop 0)) := hid rfl
  have HL := hid hL
  have HS := hid hs
  have HM := hid hm
  have HE57 := hid he
  have HIW : Hid (∀ i, i < s.length → IntKind.i64.wrap ((i : Int) + 1) = ((i + 1 : Nat) : Int)) := hid (fun i hi => by rw [IntKind.wrap_i64]; omega)
  have hmq : wrap64 ((most : Int) / 10) = ((most / 10 : Nat) : Int) := by unfold wrap64; omega
  clear hs hm he
  generalize Sc.nm e most s = RES at *
  go_enter Tryz.func45, Tryz.ntmps45
  go_wp2_with fail
  go_loopg [7, 16] s.length (fun gg v7 v16 wr => ∃ i n : Nat, gg = s.length - i ∧ i ≤ s.length ∧ v7 = .int .i64 (n : Int) ∧ v16 = .int .i64 (i : Int) ∧ n ≤ most ∧ NmR RES e most n i s ∧ wr = w)
  case atStart => exact ⟨0, 0, rfl, Nat.zero_le _, rfl, rfl, Nat.zero_le _, HRES.out, rfl⟩
  case round =>
    obtain ⟨i, n, rfl, hi, rfl, rfl, hn, hres0, hw⟩ := hrel
    have hres : RES = Sc.nmGo e most n i (s.drop i) := hres0
    clear hres0
    have hw := hw.symm
    subst hw
    by_cases him : i < s.length
    · have hi0 : (0 : Int) ≤ (i : Int) := Int.natCast_nonneg _
      have hi1 : (i : Int) < (s.length : Int) := by omega
      obtain ⟨c, hc⟩ : ∃ c, c = s[i] := ⟨_, rfl⟩
      have hat : ∀ h2 : i < (⟨s.toArray⟩ : ByteArray).size, (⟨s.toArray⟩ : ByteArray)[i] = c := fun h2 => by rw [hc]; exact st_at him h2
      have hlt2 : i < (⟨s.toArray⟩ : ByteArray).size := by rw [hsz]; exact him
      rw [List.drop_eq_getElem_cons him, ← hc, Sc.nmGo] at hres
      clear hc
      by_cases hA : c = e ∧ 0 < i
      · rw [if_pos hA] at hres
        obtain ⟨rfl, hip⟩ := hA
        have hip' : (0 : Int) < (i : Int) := by omega
        have hiw : IntKind.i64.wrap ((i : Int) + 1) = ((i + 1 : Nat) : Int) := by rw [IntKind.wrap_i64]; have := HS.out; omega
        have hex : (⟨s.toArray⟩ : ByteArray).extract (i + 1) s.length = ⟨(s.drop (i + 1)).toArray⟩ := ex_drop s (i + 1)
        have hb1 : ((i + 1 : Nat) : Int) ≤ (s.length : Int) := by omega
        have HRS := hid hres
        clear hres hi him hn hip HRES hL HL
        go_wp2_with fail
        go_ret
        exact NmE.yes HRS.out
      · rw [if_neg hA] at hres
        by_cases hip : 0 < i
        · have hce : ¬ c = e := fun h => hA ⟨h, hip⟩
          have bce : ¬ (c.toNat : Int) = (e.toNat : Int) := fun h => hce (UInt8.toNat_inj.1 (by omega))
          have bip : (0 : Int) < (i : Int) := by omega
          clear hce
          by_cases h48 : c.toNat < 48
          · rw [if_pos (.inl h48)] at hres
            have b48 : (c.toNat : Int) < 48 := by omega
            have HE : Hid (RES = none) := hid hres
            clear hres hi him hn HRES hL HL hA
            go_wp2_with fail
            go_ret
            exact NmE.no HE.out
          · have b48 : ¬ (c.toNat : Int) < 48 := by omega
            by_cases h57 : 57 < c.toNat
            · rw [if_pos (.inr (.inl h57))] at hres
              have b57 : (57 : Int) < (c.toNat : Int) := by omega
              have HE : Hid (RES = none) := hid hres
              clear hres hi him hn HRES hL HL hA
              go_wp2_with fail
              go_ret
              exact NmE.no HE.out
            · have b57 : ¬ (57 : Int) < (c.toNat : Int) := by omega
              by_cases hn0 : n = 0
              · rw [if_pos (.inr (.inr ⟨by omega, hn0⟩))] at hres
                subst hn0
                have HE : Hid (RES = none) := hid hres
                clear hres hi him hn HRES hL HL hA
                go_wp2_with fail
                go_ret
                exact NmE.no HE.out
              · have bn0 : ¬ (n : Int) = 0 := by omega
                rw [if_neg (by omega)] at hres
                obtain ⟨dd, hdd⟩ : ∃ dd, dd = c.toNat - 48 := ⟨_, rfl⟩
                rw [← hdd] at hres
                obtain ⟨hs1, hd9⟩ := nmD hdd h48 h57
                clear hdd h48 h57
                by_cases hC1 : most / 10 < n
                · rw [if_pos (nmG hC1)] at hres
                  have bC1 := nmE.1 hC1
                  clear hd9 hC1
                  have HE : Hid (RES = none) := hid hres
                  clear hres hi him hn HRES hL HL hA
                  go_wp2_with fail
                  go_ret
                  exact NmE.no HE.out
                · have bC1 := nmE.2 hC1
                  obtain ⟨hmu, hdw, hsu⟩ := nmA HM.out hC1 hd9
                  by_cases hC2 : most < 10 * n + dd
                  · rw [if_pos hC2] at hres
                    have bC2 := (nmF hC1).1 hC2
                    clear hd9 hC1 hC2
                    have HE : Hid (RES = none) := hid hres
                    clear hres hi him hn HRES hL HL hA
                    go_wp2_with fail
                    go_ret
                    exact NmE.no HE.out
                  · rw [if_neg hC2] at hres
                    have bC2 := (nmF hC1).2 hC2
                    have had := nmB HM.out hC2
                    have hiv := nmC him HS.out
                    have hiw : IntKind.i64.wrap ((i : Int) + 1) = ((i + 1 : Nat) : Int) := HIW.out i him
                    have HRS : Hid (NmR RES e most (10 * n + dd) (i + 1) s) := hid hres
                    have HI := hid him
                    have HNM : Hid (10 * n + dd ≤ most) := hid (Nat.le_of_not_lt hC2)
                    clear hres hi him hn HRES hL HL hA hd9 hC1 hC2
                    go_wp2_with fail
                    go_roundg (s.length - (i + 1))
                    case measure => exact Nat.sub_lt_sub_left HI.out (Nat.lt_succ_self i)
                    case rel => exact ⟨i + 1, 10 * n + dd, rfl, HI.out, congrArg (Value.int .i64) (nmH n dd), rfl, HNM.out, HRS.out, rfl⟩
        · have bip : ¬ (0 : Int) < (i : Int) := by omega
          by_cases hce : c = e
          · have bce : (c.toNat : Int) = (e.toNat : Int) := by rw [hce]
            have h57 : 57 < c.toNat := by rw [hce]; exact HE57.out
            rw [if_pos (.inr (.inl h57))] at hres
            have b48 : ¬ (e.toNat : Int) < 48 := by have := HE57.out; omega
            have b57 : (57 : Int) < (e.toNat : Int) := by have := HE57.out; omega
            clear hce h57
            have HE : Hid (RES = none) := hid hres
            clear hres hi him hn HRES hL HL hA
            go_wp2_with fail
            go_ret
            exact NmE.no HE.out
          · have bce : ¬ (c.toNat : Int) = (e.toNat : Int) := fun h => hce (UInt8.toNat_inj.1 (by omega))
            clear hce
            by_cases h48 : c.toNat < 48
            · rw [if_pos (.inl h48)] at hres
              have b48 : (c.toNat : Int) < 48 := by omega
              have HE : Hid (RES = none) := hid hres
              clear hres hi him hn HRES hL HL hA
              go_wp2_with fail
              go_ret
              exact NmE.no HE.out
            · have b48 : ¬ (c.toNat : Int) < 48 := by omega
              by_cases h57 : 57 < c.toNat
              · rw [if_pos (.inr (.inl h57))] at hres
                have b57 : (57 : Int) < (c.toNat : Int) := by omega
                have HE : Hid (RES = none) := hid hres
                clear hres hi him hn HRES hL HL hA
                go_wp2_with fail
                go_ret
                exact NmE.no HE.out
              · have b57 : ¬ (57 : Int) < (c.toNat : Int) := by omega
                rw [if_neg (by omega)] at hres
                obtain ⟨dd, hdd⟩ : ∃ dd, dd = c.toNat - 48 := ⟨_, rfl⟩
                rw [← hdd] at hres
                obtain ⟨hs1, hd9⟩ := nmD hdd h48 h57
                clear hdd h48 h57
                by_cases hC1 : most / 10 < n
                · rw [if_pos (nmG hC1)] at hres
                  have bC1 := nmE.1 hC1
                  clear hd9 hC1
                  have HE : Hid (RES = none) := hid hres
                  clear hres hi him hn HRES hL HL hA
                  go_wp2_with fail
                  go_ret
                  exact NmE.no HE.out
                · have bC1 := nmE.2 hC1
                  obtain ⟨hmu, hdw, hsu⟩ := nmA HM.out hC1 hd9
                  by_cases hC2 : most < 10 * n + dd
                  · rw [if_pos hC2] at hres
                    have bC2 := (nmF hC1).1 hC2
                    clear hd9 hC1 hC2
                    have HE : Hid (RES = none) := hid hres
                    clear hres hi him hn HRES hL HL hA
                    go_wp2_with fail
                    go_ret
                    exact NmE.no HE.out
                  · rw [if_neg hC2] at hres
                    have bC2 := (nmF hC1).2 hC2
                    have had := nmB HM.out hC2
                    have hiv := nmC him HS.out
                    have hiw : IntKind.i64.wrap ((i : Int) + 1) = ((i + 1 : Nat) : Int) := HIW.out i him
                    have HRS : Hid (NmR RES e most (10 * n + dd) (i + 1) s) := hid hres
                    have HI := hid him
                    have HNM : Hid (10 * n + dd ≤ most) := hid (Nat.le_of_not_lt hC2)
                    clear hres hi him hn HRES hL HL hA hd9 hC1 hC2
                    go_wp2_with fail
                    go_roundg (s.length - (i + 1))
                    case measure => exact Nat.sub_lt_sub_left HI.out (Nat.lt_succ_self i)
                    case rel => exact ⟨i + 1, 10 * n + dd, rfl, HI.out, congrArg (Value.int .i64) (nmH n dd), rfl, HNM.out, HRS.out, rfl⟩
    · have hie : i = s.length := by omega
      subst hie
      have hin : ¬ (s.length : Int) < (s.length : Int) := by omega
      have HE : Hid (RES = none) := hid (by rw [hres, List.drop_length, Sc.nmGo])
      clear hres hn hi him HRES
      go_wp2_with fail
      go_ret
      exact NmE.no HE.out
end Go.Proofs.YtdllpklecdmghaaGreatDoor
