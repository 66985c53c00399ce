/- Decode. -/
import Derived.Test.YtelfogdcijmenaaDoorFltC
namespace Go.Proofs.YtelfogdcijmenaaDoor
open Go.RowKit

theorem Dc.below {w : World} {B bH : Nat} {s : Bs} {i : Nat} {W W' : World} (h : Dc w B bH s i W) (hb : Below W.heap.size W W') : Dc w B bH s i W' := by
  have hl := lt_of_block h.fC
  have hlt := h.lt
  refine ⟨h.lB, h.lt, (hb.block _ (by omega)).trans h.sC, (hb.block _ (by omega)).trans h.hC, (hb.block _ (by omega)).trans h.tC, fun h5 => (hb.block _ (by omega)).trans (h.wN h5), fun h6 => ?_, (hb.block _ (by omega)).trans h.fC, h.pass, h.bel.trans (hb.mono h.bel.size), h.mix.below hb⟩
  obtain ⟨a, c, k1, k2⟩ := h.wC h6
  exact ⟨a, c, (hb.block _ (by omega)).trans k1, ownsRow_same k2 (fun g hg => hb.block g (k2.lt g hg).2)⟩
theorem eg_fault (i : Nat) : ∀ args w, (callFunc (fnOf i) args).run Tryd.prog w = .ok (.enter (fnOf i) args) w := by
  have e0 : ∀ args w, (callFunc 30 args).run Tryd.prog w = .ok (.enter 30 args) w := enters_of Tryd.func30 (by kernel_rfl) rfl
  have e1 : ∀ args w, (callFunc 31 args).run Tryd.prog w = .ok (.enter 31 args) w := enters_of Tryd.func31 (by kernel_rfl) rfl
  have e2 : ∀ args w, (callFunc 32 args).run Tryd.prog w = .ok (.enter 32 args) w := enters_of Tryd.func32 (by kernel_rfl) rfl
  have e3 : ∀ args w, (callFunc 34 args).run Tryd.prog w = .ok (.enter 34 args) w := enters_of Tryd.func34 (by kernel_rfl) rfl
  have e4 : ∀ args w, (callFunc 35 args).run Tryd.prog w = .ok (.enter 35 args) w := enters_of Tryd.func35 (by kernel_rfl) rfl
  have e5 : ∀ args w, (callFunc 36 args).run Tryd.prog w = .ok (.enter 36 args) w := enters_of Tryd.func36 (by kernel_rfl) rfl
  have e6 : ∀ args w, (callFunc 39 args).run Tryd.prog w = .ok (.enter 39 args) w := enters_of Tryd.func39 (by kernel_rfl) rfl
  unfold fnOf
  split <;> assumption
theorem fault_any {w : World} {B bH : Nat} {s : Bs} {W : World} {i : Nat} (hi : i < 7) (h : Dc w B bH s i W) (hm : s.length ≤ 140737488355328) : FaultOk w B bH s i W := by
  have h7 : i = 0 ∨ i = 1 ∨ i = 2 ∨ i = 3 ∨ i = 4 ∨ i = 5 ∨ i = 6 := by omega
  rcases h7 with rfl | rfl | rfl | rfl | rfl | rfl | rfl
  · exact fault0 h
  · exact fault1 h hm
  · exact fault2 h hm
  · exact fault3 h
  · exact fault4 h
  · exact fault5 h
  · exact fault6 h
theorem Dc.cells {w : World} {B bH : Nat} {s : Bs} {W : World} {i : Nat} (hi : i < 7) (h : Dc w B bH s i W) : W.cell? ⟨bH + 3, i * 2, none⟩ = some (.int .i64 (errOf i : Int)) ∧ W.cell? ⟨bH + 3, i * 2 + 1, none⟩ = some (.func (.func (fnOf i)) #[] (capsOf B bH i)) := by
  have h7 : i = 0 ∨ i = 1 ∨ i = 2 ∨ i = 3 ∨ i = 4 ∨ i = 5 ∨ i = 6 := by omega
  rw [cell_of_heap h.fC, cell_of_heap h.fC]
  rcases h7 with rfl | rfl | rfl | rfl | rfl | rfl | rfl <;> exact ⟨rfl, rfl⟩
/-- the world in which faults are looked for first -/
theorem dc_first {w w1 : World} {s : Bs} (hb : Below w.heap.size w w1) (hn : w1.heap[w.heap.size]? = some (.cells #[St s] 9 (0, 0))) (hx : Mx w) :
    Dc w w.heap.size w1.heap.size s 0 ((((w1.alloc (.cells #[St (headB s)] 9)).alloc (.cells #[St (tailB s)] 9)).alloc (.cells #[.slice none 0 0] 22)).alloc (.cells (faults w.heap.size w1.heap.size) 51)) := by
  obtain ⟨A, hA⟩ : ∃ A, A = w1.alloc (.cells #[St (headB s)] 9) := ⟨_, rfl⟩
  obtain ⟨A2, hA2⟩ : ∃ A2, A2 = A.alloc (.cells #[St (tailB s)] 9) := ⟨_, rfl⟩
  obtain ⟨A3, hA3⟩ : ∃ A3, A3 = A2.alloc (.cells #[.slice none 0 0] 22) := ⟨_, rfl⟩
  rw [← hA, ← hA2, ← hA3]
  have s1 : A.heap.size = w1.heap.size + 1 := by rw [hA]; simp
  have s2 : A2.heap.size = w1.heap.size + 2 := by rw [hA2]; simp [s1]
  have s3 : A3.heap.size = w1.heap.size + 3 := by rw [hA3]; simp [s2]
  have n1 : A.heap[w1.heap.size]? = some (.cells #[St (headB s)] 9 (0, 0)) := by rw [hA]; exact heap_alloc_new w1 _
  have n2 : A2.heap[w1.heap.size + 1]? = some (.cells #[St (tailB s)] 9 (0, 0)) := by rw [hA2, ← s1]; exact heap_alloc_new A _
  have n3 : A3.heap[w1.heap.size + 2]? = some (.cells #[.slice none 0 0] 22 (0, 0)) := by rw [hA3, ← s2]; exact heap_alloc_new A2 _
  have b1 : Below w1.heap.size w1 A := by rw [hA]; exact (Below.refl _ _).alloc (Nat.le_refl _) _
  have b2 : Below A.heap.size A A2 := by rw [hA2]; exact (Below.refl _ _).alloc (Nat.le_refl _) _
  have b3 : Below A2.heap.size A2 A3 := by rw [hA3]; exact (Below.refl _ _).alloc (Nat.le_refl _) _
  have b4 := (Below.refl A3.heap.size A3).alloc (Nat.le_refl _) (.cells (faults w.heap.size w1.heap.size) 51)
  have n4 := heap_alloc_new A3 (.cells (faults w.heap.size w1.heap.size) 51)
  rw [s3] at n4
  have b34 := two_below b3 b4
  have b24 := two_below b2 b34
  have b14 := two_below b1 b24
  refine ⟨Nat.le_refl _, lt_of_block hn, (b14.block _ (lt_of_block hn)).trans hn, ?_, (b34.block _ (lt_of_block n2)).trans n2, fun _ => (b4.block _ (lt_of_block n3)).trans n3, fun h => by omega, n4, fun j hj => by omega, two_below hb b14, (hx.below hb).below b14⟩
  rw [if_pos (by omega)]
  exact (b24.block _ (lt_of_block n1)).trans n1
theorem store_fn (W : World) (x : Value) (g : Nat) (lb : Array Value) : (store ⟨W.heap.size, 1, none⟩ (.func (.func g) #[] lb)).run Tryd.prog (W.alloc (.cells #[x, .nilFunc] 51)) = .ok () (W.alloc (.cells #[x, .func (.func g) #[] lb] 51)) := by
  have hn := heap_alloc_new W (.cells #[x, .nilFunc] 51)
  have hc : (W.alloc (.cells #[x, .nilFunc] 51)).cell? ⟨W.heap.size, 1, none⟩ = some .nilFunc := by rw [cell_of_heap hn]; rfl
  have hf := frozen_of_heap hn 1
  rw [run_store Tryd.prog _ _ _ _ rfl, hc]
  simp [hf]
  rw [setCell_eq_setRow _ _ _ _ _ _ _ hn, World.setRow_alloc_new]
  rfl
theorem Tryd.size5 : (Tryd.prog.info? 5).map (·.size) = some 1 := by kernel_rfl
theorem slice_three (a : Option Addr) (n cap k : Nat) (h : k ≤ cap) (W : World) : (Instr.sliceAt 22 (.slice a n cap) none (some (.int .i64 (k : Int))) (some (.int .i64 (k : Int)))).run Tryd.prog W = .ok (.slice a k k) W := by
  obtain ⟨i, hi, hz⟩ := Option.map_eq_some_iff.1 Tryd.size5
  have h1 : (k : Int) ≤ (cap : Int) := by omega
  have h0 : ∀ x : Addr, x.add 0 = x := fun x => by unfold Addr.add; split <;> simp_all
  simp [Instr.sliceAt, Instr.slice, Instr.sliceBounds, Instr.sliceBound, asIntOf, run_underlying Tryd.underlying22, sizeOf, typeInfo, hi, go_sem, h0, h]
/-- what Decode answers -/
abbrev decoded (v : Value) (r : Bs × Bs × Nat) : Ending := .returned (.tuple #[St r.1, v, .int .i64 (r.2.2 : Int)])
set_option maxRecDepth 100000 in
set_option maxHeartbeats 4000000 in
theorem dec_any (s : Bs) (w : World) (hm : s.length ≤ 140737488355328) (hx : Mx w) : Calls Tryd.prog 12 #[St s] w fun e w' => ∃ v, e = decoded v (decB s) ∧ Sl w' v (decB s).2.1 ∧ Below w.heap.size w w' := by
  have HX := hid hx
  have hb0 := (Below.refl w.heap.size w).alloc (Nat.le_refl _) (.cells #[St s] 9)
  have hn0 := heap_alloc_new w (.cells #[St s] 9)
  have HP := hid (parted_any s (w.alloc (.cells #[St s] 9)) hm)
  have hmf : ∀ (fn : Fn) (first cap : Array Value) (w : World), (Instr.makeFunc fn first cap).run Tryd.prog w = .ok (.func fn first cap) w := fun _ _ _ _ => rfl
  have HB0 := hid hb0
  have HN0 := hid hn0
  clear hx hb0 hn0
  go_enter Tryd.func12, Tryd.ntmps12
  go_wp2_with fail
  refine HP.out.mono ?_
  rintro e w1 ⟨rfl, hb1⟩
  have HB1 := hid (two_below HB0.out hb1)
  have HN1 := hid ((hb1.block _ (lt_of_block HN0.out)).trans HN0.out)
  clear hb1 HP
  go_wp2_with fail
  have HD0 := hid (dc_first HB1.out HN1.out HX.out)
  clear HN1 HN0 HB0 hmf
  go_loopg [10, 34] 7 (fun gg v10 v34 wr => ∃ i : Nat, i ≤ 7 ∧ gg = 7 - i ∧ v34 = .int .i64 (i : Int) ∧ Dc w w.heap.size w1.heap.size s i wr)
  case atStart => exact ⟨0, by omega, by omega, rfl, HD0.out⟩
  case round =>
    obtain ⟨i, hi, rfl, rfl, hd⟩ := hrel
    clear HD0
    have HD := hid hd
    by_cases hi7 : i < 7
    · have hi1 : (i : Int) < 7 := by omega
      obtain ⟨hc0, hc1⟩ := hd.cells hi7
      have HFA := hid (fault_any hi7 (hd.below ((Below.refl _ _).alloc (Nat.le_refl _) (.cells #[.int .i64 (errOf i : Int), .func (.func (fnOf i)) #[] (capsOf w.heap.size w1.heap.size i)] 51))) hm)
      unfold FaultOk at HFA
      have heg := eg_fault i
      have hsf := store_fn wr (.int .i64 (errOf i : Int)) (fnOf i) (capsOf w.heap.size w1.heap.size i)
      have HDF := hid (fun ht => dec_fail (s := s) hi7 hd.pass ht)
      have HNW := hid (heap_alloc_new wr (.cells #[.int .i64 (errOf i : Int), .func (.func (fnOf i)) #[] (capsOf w.heap.size w1.heap.size i)] 51))
      have HLW : Hid (w1.heap.size + 3 < wr.heap.size) := hid (lt_of_block hd.fC)
      generalize fnOf i = g at *
      generalize capsOf w.heap.size w1.heap.size i = lb at *
      generalize errOf i = er at *
      clear hd
      go_wp2_with fail
      refine HFA.out.mono ?_
      rintro e w4 ⟨rfl, hfr, hbw, hnx⟩
      have hw4 : w4.heap[wr.heap.size]? = some (.cells #[.int .i64 (er : Int), .func (.func g) #[] lb] 51 (0, 0)) := (hfr.2 _ (lt_of_block HNW.out) (by have := HLW.out; omega) (by have := HLW.out; omega)).trans HNW.out
      have hc4 : w4.cell? ⟨wr.heap.size, 0, none⟩ = some (.int .i64 (er : Int)) := by rw [cell_of_heap hw4]; rfl
      have HBW := hid hbw
      have HNX := hid hnx
      clear hfr hbw hnx hw4 hc0 hc1
      generalize hb : test s i = b at *
      clear hb
      cases b with
      | true =>
        have HZ := hid (HDF.out rfl)
        go_wp2_with fail
        go_quiet (fail)
        go_wp2_with fail
        go_ret3
        refine ⟨.slice none 0 0, ?_⟩
        rw [HZ.out]
        exact ⟨rfl, Sl.nil _, below_drewN HBW.out _⟩
      | false =>
        have HD2 := hid (HNX.out rfl)
        go_wp2_with fail
        go_roundg (7 - (i + 1))
        case measure => omega
        case rel => exact ⟨i + 1, by omega, rfl, by go_num, HD2.out⟩
    · have hi1 : ¬ (i : Int) < 7 := by omega
      have hie : i = 7 := by omega
      subst hie
      have HZ := hid (dec_ok hd.pass)
      have hb := hd.bel
      obtain ⟨aw, cw, k1, k2⟩ := hd.wC (by omega)
      have k3 := hd.hC
      rw [if_neg (by omega)] at k3
      have h4 := hd.pass 4 (by omega)
      have h6 : 6 ≤ (tailB s).length := by simpa [test] using h4
      have h0 := hd.pass 0 (by omega)
      have hsl : s.length ≤ 32768 := by simpa [test] using h0
      have htl := tail_len s
      have hwl := words_len s
      have hsw := Sl.own k2 rfl
      have hcap : (wordsB s).length ≤ cw := by
        obtain ⟨g, o, _, _, _, hc, _⟩ := hsw.at (fun e => by rw [e] at hwl; simp at hwl; omega)
        exact hc
      have hst := hsw.take ((tailB s).length - 6) (by omega) ((tailB s).length - 6) (fun e => by
        obtain ⟨g, o, e2, _⟩ := hsw.at (fun e => by rw [e] at hwl; simp at hwl; omega)
        rw [e2] at e
        cases e) (Nat.le_refl _)
      have HST := hid hst
      rw [hwl] at k1 hcap
      have hc2 : wr.cell? ⟨w1.heap.size + 2, 0, none⟩ = some (.slice aw (tailB s).length cw) := by rw [cell_of_heap k1]; rfl
      have hc0 : wr.cell? ⟨w1.heap.size, 0, none⟩ = some (St (low (headB s))) := by rw [cell_of_heap k3]; rfl
      have hs3 := slice_three aw (tailB s).length cw ((tailB s).length - 6) (by omega)
      obtain ⟨n, hn⟩ : ∃ n, n = (tailB s).length - 6 := ⟨_, rfl⟩
      have hn6 : (tailB s).length = n + 6 := by omega
      rw [← hn] at hs3 HST HZ
      rw [hn6] at hs3 hc2
      have hn9 : n ≤ 32768 := by omega
      have HBE := hid hb
      clear hb k1 k2 k3 h4 h6 h0 hsl htl hwl hsw hcap hst hn hn6 hd hi7 hi
      have hwr : IntKind.i64.wrap (((n + 6 : Nat) : Int) - 6) = (n : Int) := by rw [IntKind.wrap_i64]; omega
      go_wp2_with fail
      go_quiet (fail)
      go_wp2_with fail
      go_ret3
      refine ⟨.slice aw n n, ?_⟩
      rw [HZ.out]
      exact ⟨rfl, HST.out.below (below_drewN (Below.refl _ _) _), below_drewN HBE.out _⟩
end Go.Proofs.YtelfogdcijmenaaDoor
