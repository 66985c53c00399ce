/- The program's Sum. -/
import Derived.Test.YtkeppcpplkdkaaaDoorSWrite
namespace Go.Proofs.YtkeppcpplkdkaaaDoor
open Go.RowKit

/-- a slice that holds bytes -/
structure Sz (w : World) (a : Option Addr) (cap : Nat) (c : Bs) : Prop where
  cap : c.length ≤ cap
  som : 0 < c.length → ∃ cb co, a = some ⟨cb, co, none⟩ ∧ At w cb co c
theorem Sz.below {w w' : World} {a : Option Addr} {cap : Nat} {c : Bs} (h : Sz w a cap c) (hb : Below w.heap.size w w') : Sz w' a cap c := by
  refine ⟨h.cap, fun h0 => ?_⟩
  obtain ⟨cb, co, e, hat⟩ := h.som h0
  exact ⟨cb, co, e, hat.below hb⟩
theorem Sz.off {w w' : World} {p : Nat} {a : Option Addr} {cap : Nat} {c : Bs} (h : Sz w a cap c) (hb : Below w.heap.size w w') (hp : w.heap.size ≤ p) : Sl w' p a cap c := by
  refine ⟨h.cap, fun h0 => ?_⟩
  obtain ⟨cb, co, e, hat⟩ := h.som h0
  exact ⟨cb, co, e, hat.below hb, by have := hat.1; omega⟩
theorem Oth.to_below {w w1 w2 : World} {p : Nat} (h : Oth w1 p w2) (hb : Below w.heap.size w w1) (hp : w.heap.size ≤ p) : Below w.heap.size w w2 :=
  ⟨h.os.trans hb.os, h.tape.trans hb.tape, h.output.trans hb.output, Nat.le_trans hb.size h.size, fun k hk => (h.block k (Nat.lt_of_lt_of_le hk hb.size) (by omega)).trans (hb.block k hk)⟩

set_option maxHeartbeats 4000000 in
set_option maxRecDepth 100000 in
theorem sum_any (w : World) (a : Option Addr) (cap : Nat) (c : Bs) (hs : Sz w a cap c) (hl : c.length < 1000000) (hkc : KC w) : Calls Tryd.prog 7 #[.slice a c.length cap] w fun en w' => en = .returned (vsum (sumS c)) ∧ Below w.heap.size w w' := by
  have HS := hid hs
  have HKC := hid hkc
  have HL := hid hl
  clear hs hkc hl
  have hz1 := zero39_run
  have hz2 := zero23_run
  obtain ⟨Z39, hZ39⟩ : ∃ Z, Z = stc s0s (noughts 64) 0 := ⟨_, rfl⟩
  obtain ⟨Z23, hZ23⟩ : ∃ Z, Z = bys (noughts 32) := ⟨_, rfl⟩
  rw [← hZ39] at hz1
  rw [← hZ23] at hz2
  have HZ39 := hid hZ39
  have HZ23 := hid hZ23
  clear hZ39 hZ23
  obtain ⟨n, hn⟩ : ∃ n, n = c.length := ⟨_, rfl⟩
  rw [← hn]
  have HN := hid hn
  clear hn
  go_enter Tryd.func7, Tryd.ntmps7
  go_wp2_with fail
  have HB0 : Hid (Below w.heap.size w ((w.alloc (Obj.cells Z23.toArray 23)).alloc (Obj.cells Z39.toArray 39))) := hid ((below_alloc_self' w _).alloc (by simp) _)
  have HR0 : Hid (((w.alloc (Obj.cells Z23.toArray 23)).alloc (Obj.cells Z39.toArray 39)).heap[w.heap.size]? = some (.cells Z23.toArray 23 (0, 0))) := by apply hid; rw [Below.heap_alloc _ _ _ (by simp)]; exact heap_alloc_new w _
  have HS0 : Hid (Stt ((w.alloc (Obj.cells Z23.toArray 23)).alloc (Obj.cells Z39.toArray 39)) (w.heap.size + 1) [] s0s (noughts 64)) := by
    apply hid; have := stt_new (w.alloc (.cells Z23.toArray 23)); rw [← HZ39.out, show (w.alloc (.cells Z23.toArray 23)).heap.size = w.heap.size + 1 by simp] at this; exact this
  generalize (w.alloc (Obj.cells Z23.toArray 23)).alloc (Obj.cells Z39.toArray 39) = w0 at HB0 HR0 HS0 ⊢
  have HW : Hid (Calls Tryd.prog 14 #[.pointer (some ⟨w.heap.size + 1, 0, none⟩), .slice a n cap] w0 fun en w' => en = .returned (.tuple #[]) ∧ (∃ s' t', Stt w' (w.heap.size + 1) c s' t') ∧ Below w.heap.size w w' ∧ w'.heap[w.heap.size]? = some (.cells Z23.toArray 23 (0, 0))) := by
    apply hid
    rw [HN.out]
    refine (write_any w0 (w.heap.size + 1) [] s0s (noughts 64) a cap c HS0.out (HS.out.off HB0.out (by omega)) (by have := HL.out; simp; omega) (HKC.out.below HB0.out) (by omega)).mono ?_
    rintro e w1 ⟨rfl, ⟨s', t', h1⟩, h2⟩
    exact ⟨rfl, ⟨s', t', h1⟩, h2.to_below HB0.out (by omega), (h2.block _ (lt_of_block HR0.out) (by omega)).trans HR0.out⟩
  refine HW.out.mono ?_
  rintro e w1 ⟨rfl, ⟨s', t', h1⟩, h2, h3⟩
  have HS1 := hid h1
  have HB1 := hid h2
  have HR1 := hid h3
  clear h1 h2 h3 HW HS0 HR0 HB0
  go_wp2_with fail
  refine (ssum_any w1 _ c s' t' HS1.out HL.out (HKC.out.below HB1.out)).mono ?_
  rintro e w2 ⟨rfl, hb⟩
  have HB2 := hid (HB1.out.trans (hb.mono HB1.out.size))
  have HR2 : Hid (w2.heap[w.heap.size]? = some (.cells Z23.toArray 23 (0, 0))) := hid ((hb.block _ (lt_of_block HR1.out)).trans HR1.out)
  clear hb
  have HZS : Hid (Z23.toArray.size = 32) := by apply hid; rw [HZ23.out]; rfl
  have HO : Hid ((u8s (outs (sumS c))).toArray.size = 32) := hid rfl
  have HO1 : Hid ((u8s (outs (sumS c))).toArray.all (·.oneCell') = true) := hid (u8s_one _)
  unfold vsum
  obtain ⟨OO, hOO⟩ : ∃ OO, OO = (u8s (outs (sumS c))).toArray := ⟨_, rfl⟩
  have HOO : Hid (Ending.returned (.agg OO) = Ending.returned (vsum (sumS c))) := by apply hid; rw [hOO]
  rw [← hOO] at HO HO1 ⊢
  clear hOO
  have HZ : Hid ((Tryd.prog.info? 23).map (·.size) = some OO.size) := by apply hid; rw [HO.out]; exact Tryd.size23
  go_wp2_with (refine wpList_store_arr _ rfl (.tmp 2) (.tmp 6) 23 rfl rfl _ 23 Z23.toArray OO rfl rfl HR2.out HZ.out (by rw [HZS.out, HO.out]) HO1.out ?_)
  refine bodyPost_ret (v := .agg OO) (results_cell Tryd.results7 rfl ?_) rfl ⟨HOO.out, below_setRow HB2.out (Nat.le_refl _)⟩
  exact run_loadVar_row _ _ 23 23 _ (0, 0) _ (setRow_same HR2.out) Tryd.underlying23 rfl HZ.out
end Go.Proofs.YtkeppcpplkdkaaaDoor
