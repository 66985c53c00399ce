/- The document's makers of locks. -/
import Derived.Test.YtdllpklecdmghaaDoorLkE
namespace Go.Proofs.YtdllpklecdmghaaDoor
open Go.RowKit
open Lk (Lt)

theorem rsig_any (t : Bs) (w : World) : Calls Tryd.prog 12 #[St t] w fun e w' => e = .returned (.agg #[.int .u8 1, St t, .int .i64 0, .slice none 0 0]) ∧ Below w.heap.size w w' := by
  go_enter Tryd.func12, Tryd.ntmps12
  go_wp2_with fail
  refine bodyPost_ret (v := .agg #[.int .u8 1, St t, .int .i64 0, .slice none 0 0]) (ret_lock Tryd.results12 rfl (heap_alloc_new w _)) rfl ⟨rfl, below_al _ _⟩
theorem rpre_any (t : Bs) (w : World) : Calls Tryd.prog 14 #[St t] w fun e w' => e = .returned (.agg #[.int .u8 2, St t, .int .i64 0, .slice none 0 0]) ∧ Below w.heap.size w w' := by
  go_enter Tryd.func14, Tryd.ntmps14
  go_wp2_with fail
  refine bodyPost_ret (v := .agg #[.int .u8 2, St t, .int .i64 0, .slice none 0 0]) (ret_lock Tryd.results14 rfl (heap_alloc_new w _)) rfl ⟨rfl, below_al _ _⟩
theorem rafter_any (n : Int) (w : World) : Calls Tryd.prog 16 #[.int .i64 n] w fun e w' => e = .returned (.agg #[.int .u8 3, St [], .int .i64 n, .slice none 0 0]) ∧ Below w.heap.size w w' := by
  go_enter Tryd.func16, Tryd.ntmps16
  go_wp2_with fail
  refine bodyPost_ret (v := .agg #[.int .u8 3, St [], .int .i64 n, .slice none 0 0]) (ret_lock Tryd.results16 rfl (heap_alloc_new w _)) rfl ⟨rfl, below_al _ _⟩
theorem rolder_any (n : Int) (w : World) : Calls Tryd.prog 18 #[.int .i64 n] w fun e w' => e = .returned (.agg #[.int .u8 4, St [], .int .i64 n, .slice none 0 0]) ∧ Below w.heap.size w w' := by
  go_enter Tryd.func18, Tryd.ntmps18
  go_wp2_with fail
  refine bodyPost_ret (v := .agg #[.int .u8 4, St [], .int .i64 n, .slice none 0 0]) (ret_lock Tryd.results18 rfl (heap_alloc_new w _)) rfl ⟨rfl, below_al _ _⟩
theorem rall_any (a : Option Addr) (n c : Nat) (w : World) : Calls Tryd.prog 19 #[.slice a n c] w fun e w' => e = .returned (.agg #[.int .u8 5, St [], .int .i64 0, .slice a n c]) ∧ Below w.heap.size w w' := by
  go_enter Tryd.func19, Tryd.ntmps19
  go_wp2_with fail
  refine bodyPost_ret (v := .agg #[.int .u8 5, St [], .int .i64 0, .slice a n c]) (ret_lock Tryd.results19 rfl (heap_alloc_new w _)) rfl ⟨rfl, below_al _ _⟩
theorem rany_any (a : Option Addr) (n c : Nat) (w : World) : Calls Tryd.prog 20 #[.slice a n c] w fun e w' => e = .returned (.agg #[.int .u8 6, St [], .int .i64 0, .slice a n c]) ∧ Below w.heap.size w w' := by
  go_enter Tryd.func20, Tryd.ntmps20
  go_wp2_with fail
  refine bodyPost_ret (v := .agg #[.int .u8 6, St [], .int .i64 0, .slice a n c]) (ret_lock Tryd.results20 rfl (heap_alloc_new w _)) rfl ⟨rfl, below_al _ _⟩
end Go.Proofs.YtdllpklecdmghaaDoor
