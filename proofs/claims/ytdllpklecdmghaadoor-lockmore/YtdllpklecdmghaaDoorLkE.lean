/- Locks are put together. -/
import Derived.Test.YtdllpklecdmghaaDoorFrAll
namespace Go.Proofs.YtdllpklecdmghaaDoor
open Go.RowKit
open Lk (Lt)

theorem zero_cells {w w1 : World} (hb : Below (w.alloc (.cells #[.int .u8 0, .string ⟨#[]⟩, .int .i64 0, .slice none 0 0] 26)).heap.size (w.alloc (.cells #[.int .u8 0, .string ⟨#[]⟩, .int .i64 0, .slice none 0 0] 26)) w1) : w1.cell? ⟨w.heap.size, 0, none⟩ = some (.int .u8 0) ∧ w1.cell? ⟨w.heap.size, 1, none⟩ = some (.string ⟨#[]⟩) ∧ w1.cell? ⟨w.heap.size, 2, none⟩ = some (.int .i64 0) ∧ w1.cell? ⟨w.heap.size, 3, none⟩ = some (.slice none 0 0) ∧ ∀ j, w1.frozen? ⟨w.heap.size, j, none⟩ = false := by
  have h : w1.heap[w.heap.size]? = some (.cells #[.int .u8 0, .string ⟨#[]⟩, .int .i64 0, .slice none 0 0] 26 (0, 0)) := by
    rw [hb.block _ (lt_of_heap (heap_alloc_new w _))]
    exact heap_alloc_new w _
  exact ⟨(cell_of_heap h 0).trans rfl, (cell_of_heap h 1).trans rfl, (cell_of_heap h 2).trans rfl, (cell_of_heap h 3).trans rfl, fun j => frozen_of_heap h j⟩
theorem zero_heap {w w1 : World} (hb : Below (w.alloc (.cells #[.int .u8 0, .string ⟨#[]⟩, .int .i64 0, .slice none 0 0] 26)).heap.size (w.alloc (.cells #[.int .u8 0, .string ⟨#[]⟩, .int .i64 0, .slice none 0 0] 26)) w1) (v0 v1 v2 v3 : Value) : (setL w1 w.heap.size 0 v0 v1 v2 v3).heap[w.heap.size]? = some (.cells #[v0, v1, v2, v3] 26 (0, 0)) := by
  have h : w1.heap[w.heap.size]? = some (.cells #[.int .u8 0, .string ⟨#[]⟩, .int .i64 0, .slice none 0 0] 26 (0, 0)) := by
    rw [hb.block _ (lt_of_heap (heap_alloc_new w _))]
    exact heap_alloc_new w _
  exact setL_same h 0 v0 v1 v2 v3
/-- a result that lives in a variable -/
theorem results_cell {P : Program} {fn : Func} {tmps : Array Value} {k : Nat} {t : TypeId} {a : Addr} {v : Value} {w : World} (hr : fn.results = #[.cell k t]) (hk : tmps.getD k undef = .pointer (some a)) (hl : (loadVar t a).run P w = .ok v w) :
    (results fn tmps).run P w = .ok v w := by
  have hk' : tmps[k]?.getD undef = .pointer (some a) := by simpa using hk
  unfold results
  rw [hr]
  simp [hk', asAddr, hl]
theorem Tryd.size26 : (Tryd.prog.info? 26).map (·.size) = some 4 := by kernel_rfl
theorem ret_lock {fn : Func} {tmps : Array Value} {k g : Nat} {v0 v1 v2 v3 : Value} {w : World} (hr : fn.results = #[.cell k 26]) (hk : tmps.getD k undef = .pointer (some ⟨g, 0, none⟩)) (h : w.heap[g]? = some (.cells #[v0, v1, v2, v3] 26 (0, 0))) : (results fn tmps).run Tryd.prog w = .ok (.agg #[v0, v1, v2, v3]) w :=
  results_cell hr hk (run_loadVar_row _ _ 26 26 _ (0, 0) _ h Tryd.underlying26 rfl Tryd.size26)
theorem below_two {w w1 : World} {o : Obj} (hb : Below (w.alloc o).heap.size (w.alloc o) w1) : Below w.heap.size w w1 := (below_al w o).trans (hb.mono (below_al w o).size)
theorem mk_sig (t : Bs) (w : World) (h : t.length ≤ 20000) : Calls Tryd.prog 11 #[St t] w fun e w' => e = .returned (.agg (lcs (.mk 1 t 0 []) (.slice none 0 0))) ∧ Below w.heap.size w w' := by
  have HC : Hid (∀ W, Calls Tryd.prog 29 #[St t] W fun e w' => e = .returned (St t) ∧ Below W.heap.size W w') := hid (fun W => freshT_any t W h)
  have HL : Hid (lcs (.mk 1 t 0 []) (.slice none 0 0) = #[.int .u8 1, St t, .int .i64 0, .slice none 0 0]) := hid rfl
  rw [HL.out]
  clear h
  go_enter Tryd.func11, Tryd.ntmps11
  go_wp2_with fail
  refine (HC.out _).mono ?_
  rintro e w1 ⟨rfl, hb⟩
  obtain ⟨q0, q1, q2, q3, qf⟩ := zero_cells hb
  have HB := hid (below_two hb)
  have HZ := hid (zero_heap hb)
  clear hb
  go_wp2_with fail
  refine bodyPost_ret (v := .agg #[.int .u8 1, St t, .int .i64 0, .slice none 0 0]) (ret_lock Tryd.results11 rfl (HZ.out _ _ _ _)) rfl ⟨rfl, setL_below HB.out (Nat.le_refl _) 0 _ _ _ _⟩
theorem mk_pre (t : Bs) (w : World) (h : t.length ≤ 20000) : Calls Tryd.prog 13 #[St t] w fun e w' => e = .returned (.agg (lcs (.mk 2 t 0 []) (.slice none 0 0))) ∧ Below w.heap.size w w' := by
  have HC : Hid (∀ W, Calls Tryd.prog 29 #[St t] W fun e w' => e = .returned (St t) ∧ Below W.heap.size W w') := hid (fun W => freshT_any t W h)
  have HL : Hid (lcs (.mk 2 t 0 []) (.slice none 0 0) = #[.int .u8 2, St t, .int .i64 0, .slice none 0 0]) := hid rfl
  rw [HL.out]
  clear h
  go_enter Tryd.func13, Tryd.ntmps13
  go_wp2_with fail
  refine (HC.out _).mono ?_
  rintro e w1 ⟨rfl, hb⟩
  obtain ⟨q0, q1, q2, q3, qf⟩ := zero_cells hb
  have HB := hid (below_two hb)
  have HZ := hid (zero_heap hb)
  clear hb
  go_wp2_with fail
  refine bodyPost_ret (v := .agg #[.int .u8 2, St t, .int .i64 0, .slice none 0 0]) (ret_lock Tryd.results13 rfl (HZ.out _ _ _ _)) rfl ⟨rfl, setL_below HB.out (Nat.le_refl _) 0 _ _ _ _⟩
theorem mk_after (n : Int) (w : World) : Calls Tryd.prog 15 #[.int .i64 n] w fun e w' => e = .returned (.agg (lcs (.mk 3 [] n []) (.slice none 0 0))) ∧ Below w.heap.size w w' := by
  have HL : Hid (lcs (.mk 3 [] n []) (.slice none 0 0) = #[.int .u8 3, St [], .int .i64 n, .slice none 0 0]) := hid rfl
  rw [HL.out]
  go_enter Tryd.func15, Tryd.ntmps15
  go_wp2_with fail
  refine bodyPost_ret (v := .agg #[.int .u8 3, St [], .int .i64 n, .slice none 0 0]) (ret_lock Tryd.results15 rfl (heap_alloc_new w _)) rfl ⟨rfl, below_al _ _⟩
theorem mk_older (n : Int) (w : World) : Calls Tryd.prog 17 #[.int .i64 n] w fun e w' => e = .returned (.agg (lcs (.mk 4 [] n []) (.slice none 0 0))) ∧ Below w.heap.size w w' := by
  have HL : Hid (lcs (.mk 4 [] n []) (.slice none 0 0) = #[.int .u8 4, St [], .int .i64 n, .slice none 0 0]) := hid rfl
  rw [HL.out]
  go_enter Tryd.func17, Tryd.ntmps17
  go_wp2_with fail
  refine bodyPost_ret (v := .agg #[.int .u8 4, St [], .int .i64 n, .slice none 0 0]) (ret_lock Tryd.results17 rfl (heap_alloc_new w _)) rfl ⟨rfl, below_al _ _⟩
theorem heap_alloc_size (w : World) (o : Obj) : (w.alloc o).heap.size = w.heap.size + 1 := by simp
theorem mk_all {b : Nat → Prop} (d : Nat) (v : Value) (ks : List Lt) (w : World) (hk : Kd b w d v ks) (hs : Lk.smalls ks = true) (hl : ks.length ≤ 1000000) : Calls Tryd.prog 8 #[v] w fun e w' => ∃ v', e = .returned (.agg (lcs (.mk 5 [] 0 ks) v')) ∧ Kd (fun g => w.heap.size + 1 ≤ g) w' d v' ks ∧ Below w.heap.size w w' := by
  have HC : Hid (∀ W, Below w.heap.size w W → Calls Tryd.prog 28 #[v] W fun e w' => ∃ a c, e = .returned (.slice a ks.length c) ∧ Kd (fun g => W.heap.size ≤ g) w' d (.slice a ks.length c) ks ∧ Below W.heap.size W w') := hid (fun W hW => (fkids_any d v ks W (hk.low hW) hs hl).mono (fun e w' ⟨v', h1, h2, h3⟩ => by
    obtain ⟨_, a, c, rfl⟩ := h2.shape
    exact ⟨a, c, h1, h2, h3⟩))
  have HL : Hid (∀ v', lcs (.mk 5 [] 0 ks) v' = #[.int .u8 5, St [], .int .i64 0, v']) := hid (fun _ => rfl)
  clear hk hs hl
  go_enter Tryd.func8, Tryd.ntmps8
  go_wp2_with fail
  refine (HC.out _ (below_al _ _)).mono ?_
  rintro e w1 ⟨a, c, rfl, hkd, hb⟩
  obtain ⟨q0, q1, q2, q3, qf⟩ := zero_cells hb
  have HB := hid (below_two hb)
  have HK := hid hkd
  have HZ := hid (zero_heap hb)
  have HSZ := hid (heap_alloc_size w (.cells #[.int .u8 0, .string ⟨#[]⟩, .int .i64 0, .slice none 0 0] 26))
  clear hb hkd
  go_wp2_with fail
  refine bodyPost_ret (v := .agg #[.int .u8 5, St [], .int .i64 0, .slice a ks.length c]) (ret_lock Tryd.results8 rfl (HZ.out _ _ _ _)) rfl ⟨.slice a ks.length c, by rw [HL.out], ?_, setL_below HB.out (Nat.le_refl _) 0 _ _ _ _⟩
  have hk := HK.out
  rw [HSZ.out] at hk
  exact hk.same (fun g (hg : w.heap.size + 1 ≤ g) _ => setL_other w1 w.heap.size 0 _ _ _ _ (by omega))
theorem mk_any {b : Nat → Prop} (d : Nat) (v : Value) (ks : List Lt) (w : World) (hk : Kd b w d v ks) (hs : Lk.smalls ks = true) (hl : ks.length ≤ 1000000) : Calls Tryd.prog 9 #[v] w fun e w' => ∃ v', e = .returned (.agg (lcs (.mk 6 [] 0 ks) v')) ∧ Kd (fun g => w.heap.size + 1 ≤ g) w' d v' ks ∧ Below w.heap.size w w' := by
  have HC : Hid (∀ W, Below w.heap.size w W → Calls Tryd.prog 28 #[v] W fun e w' => ∃ a c, e = .returned (.slice a ks.length c) ∧ Kd (fun g => W.heap.size ≤ g) w' d (.slice a ks.length c) ks ∧ Below W.heap.size W w') := hid (fun W hW => (fkids_any d v ks W (hk.low hW) hs hl).mono (fun e w' ⟨v', h1, h2, h3⟩ => by
    obtain ⟨_, a, c, rfl⟩ := h2.shape
    exact ⟨a, c, h1, h2, h3⟩))
  have HL : Hid (∀ v', lcs (.mk 6 [] 0 ks) v' = #[.int .u8 6, St [], .int .i64 0, v']) := hid (fun _ => rfl)
  clear hk hs hl
  go_enter Tryd.func9, Tryd.ntmps9
  go_wp2_with fail
  refine (HC.out _ (below_al _ _)).mono ?_
  rintro e w1 ⟨a, c, rfl, hkd, hb⟩
  obtain ⟨q0, q1, q2, q3, qf⟩ := zero_cells hb
  have HB := hid (below_two hb)
  have HK := hid hkd
  have HZ := hid (zero_heap hb)
  have HSZ := hid (heap_alloc_size w (.cells #[.int .u8 0, .string ⟨#[]⟩, .int .i64 0, .slice none 0 0] 26))
  clear hb hkd
  go_wp2_with fail
  refine bodyPost_ret (v := .agg #[.int .u8 6, St [], .int .i64 0, .slice a ks.length c]) (ret_lock Tryd.results9 rfl (HZ.out _ _ _ _)) rfl ⟨.slice a ks.length c, by rw [HL.out], ?_, setL_below HB.out (Nat.le_refl _) 0 _ _ _ _⟩
  have hk := HK.out
  rw [HSZ.out] at hk
  exact hk.same (fun g (hg : w.heap.size + 1 ≤ g) _ => setL_other w1 w.heap.size 0 _ _ _ _ (by omega))
end Go.Proofs.YtdllpklecdmghaaDoor
