import Derived.Test.YtdllpklecdmghaaGreatDoorLkD
import Derived.Shelf.Abstract
/- Rows of locks made anew by a function that makes one anew. -/
namespace Go.Proofs.YtdllpklecdmghaaGreatDoor
open Go.RowKit
open Lk (Lt)
structure Fk (w : World) (d : Nat) (ks : List Lt) (i : Nat) (wr : World) : Prop where
  bel : Below w.heap.size w wr
  row : ∃ cs : Array Value, wr.heap[w.heap.size]? = some (.cells cs 25 (0, 0)) ∧ cs.size = ks.length * 4 ∧ ∀ k (hk : k < ks.length), k < i → ∃ kv, (∀ j u, (lcs ks[k] kv)[j]? = some u → cs[k * 4 + j]? = some u) ∧ Lr ks[k] ∧ Kd (fun g => w.heap.size + 1 ≤ g) wr d kv ks[k].kids
def Anew (b : Nat → Prop) (fn d : Nat) (x : Lt) : Prop := ∀ d' kv W, d' < d → Kd b W d' kv x.kids → Calls Tryz.prog fn #[.agg (lcs x kv)] W fun e w' => ∃ kv', e = .returned (.agg (lcs x kv')) ∧ Kd (fun g => W.heap.size ≤ g) w' d' kv' x.kids ∧ Below W.heap.size W w'
set_option maxHeartbeats 4000000 in
theorem list_any {b : Nat → Prop} (fn : Nat) (eg : ∀ args w, (callFunc fn args).run Tryz.prog w = .ok (.enter fn args) w) (d : Nat) (v : Value) (ks : List Lt) (w : World) (hk : Kd b w d v ks) (hlen : ks.length ≤ 1000000) (hg : ∀ x ∈ ks, Anew b fn d x) : Calls Tryz.prog 76 #[v, .func (.func fn) #[] #[]] w fun e w' => ∃ v', e = .returned v' ∧ Kd (fun g => w.heap.size ≤ g) w' d v' ks ∧ Below w.heap.size w w' := by
  obtain ⟨_, ao, cap, rfl, hks⟩ := hk.parts
  clear hk
  obtain ⟨m, hm⟩ : ∃ m, m = ks.length := ⟨_, rfl⟩
  rw [← hm]
  by_cases hm0 : m = 0
  · subst hm0
    have hnil : ks = [] := List.eq_nil_of_length_eq_zero hm.symm
    subst hnil
    clear hm hks hlen hg
    go_enter Tryz.func76, Tryz.ntmps76
    go_wp2_with fail
    go_ret
    exact ⟨_, rfl, Kd.nil _ _ _, Below.refl _ _⟩
  · obtain ⟨d1, rfl⟩ : ∃ d1, d = d1 + 1 := by
      obtain ⟨g, o, _, _, hc⟩ := hks (by omega)
      obtain ⟨_, _, _, d', hd', _⟩ := hc 0 (by omega)
      exact ⟨d - 1, by omega⟩
    have hmi : ¬ (m : Int) = 0 := by omega
    obtain ⟨i0, hi, hz0, hz1, hz2⟩ := info_parts info25
    obtain ⟨M, hM⟩ : ∃ M, M = madeCells (Value.agg #[.int .u8 0, .string ⟨#[]⟩, .int .i64 0, .slice none 0 0]).cells (((m : Nat) : Int).toNat * i0.size) := ⟨_, rfl⟩
    have hMs : M.size = m * 4 := by rw [hM, size_madeCells, hz1]; simp
    have hmk : ∀ W : World, (Instr.makeSlice 23 (.int .i64 (m : Int)) (.int .i64 (m : Int))).run Tryz.prog W = .ok (.slice (some ⟨W.heap.size, 0, none⟩) m m) (W.alloc (.cells M 25)) := fun W => by
      have h := run_make (P := Tryz.prog) W 23 25 i0 (.agg #[.int .u8 0, .string ⟨#[]⟩, .int .i64 0, .slice none 0 0]) Tryz.underlying23 hi hz0 .i64 .i64 (m : Int) (m : Int) (by omega) (by omega) (by rw [hz2]; omega) (by omega)
      rw [← hM] at h
      simpa using h
    have HS0 : Hid (Fk w d1 ks 0 (w.alloc (.cells M 25))) := hid ⟨below_al _ _, M, heap_alloc_new w _, by rw [hMs, hm], fun k _ hk => absurd hk (by omega)⟩
    have HM := hid hm
    have HKS := hid hks
    have HG := hid hg
    have HLEN : Hid (m ≤ 1000000) := hid (by omega)
    clear hks hm hg hlen hM hMs hi hz0 hz1 hz2
    go_enter Tryz.func76, Tryz.ntmps76
    go_wp2_with fail
    have hmb : ((m : Int) == 0) = false := by simpa using hmi
    simp only [hmb]
    go_loopg [16] m (fun gg v16 wr => ∃ i : Nat, gg = m - i ∧ i ≤ m ∧ v16 = .int .i64 (i : Int) ∧ Fk w d1 ks i wr)
    case atStart => exact ⟨0, rfl, Nat.zero_le _, rfl, HS0.out⟩
    case round =>
      obtain ⟨i, rfl, hi, rfl, hfk⟩ := hrel
      by_cases him : i < m
      · have hik : i < ks.length := by have := HM.out; omega
        obtain ⟨g, o, hg, _, hc⟩ := (HKS.out.low hfk.bel) (by omega)
        subst hg
        obtain ⟨kv, hcs, hlr, d', hd', hkd⟩ := hc i hik
        obtain ⟨x, hx⟩ : ∃ x, x = ks[i] := ⟨_, rfl⟩
        rw [← hx] at hcs hlr hkd
        obtain ⟨_, a2, c2, rfl⟩ := hkd.shape
        have e0 : wr.cell? ⟨g, o + i * 4, none⟩ = some (.int .u8 (x.kind : Int)) := hcs 0 _ rfl
        have e1 : wr.cell? ⟨g, o + i * 4 + 1, none⟩ = some (St x.term) := hcs 1 _ rfl
        have e2 : wr.cell? ⟨g, o + i * 4 + 2, none⟩ = some (.int .i64 x.n) := hcs 2 _ rfl
        have e3 : wr.cell? ⟨g, o + i * 4 + 3, none⟩ = some (.slice a2 x.kids.length c2) := hcs 3 _ rfl
        have hiw : IntKind.i64.wrap ((i : Int) + 1) = ((i + 1 : Nat) : Int) := by rw [IntKind.wrap_i64]; have := HLEN.out; omega
        have hi0 : (0 : Int) ≤ (i : Int) := Int.natCast_nonneg _
        have hi1 : (i : Int) < (m : Int) := by omega
        obtain ⟨w0, hw0⟩ : ∃ w0, w0 = wr.alloc (.cells #[.int .u8 (x.kind : Int), St x.term, .int .i64 x.n, .slice a2 x.kids.length c2] 25) := ⟨_, rfl⟩
        have hB0 : Below wr.heap.size wr w0 := by rw [hw0]; exact below_al _ _
        have HFK : Hid (Calls Tryz.prog fn #[.agg #[.int .u8 (x.kind : Int), St x.term, .int .i64 x.n, .slice a2 x.kids.length c2]] w0 fun e w' => ∃ a3 c3, e = .returned (.agg #[.int .u8 (x.kind : Int), St x.term, .int .i64 x.n, .slice a3 x.kids.length c3]) ∧ (Kd (fun g => w0.heap.size ≤ g) w' d1 (.slice a3 x.kids.length c3) x.kids ∧ Below w0.heap.size w0 w')) := hid ((HG.out x (by rw [hx]; exact List.getElem_mem hik) d' _ w0 hd' (hkd.low hB0)).mono (fun e w' ⟨v', h1, h2, h3⟩ => by
          obtain ⟨_, a3, c3, rfl⟩ := h2.shape
          exact ⟨a3, c3, h1, h2.more (by omega), h3⟩))
        have HRW : Hid (∀ W, Below w0.heap.size w0 W → (∃ u, W.cell? ⟨w.heap.size, i * 4, none⟩ = some u) ∧ (∃ u, W.cell? ⟨w.heap.size, i * 4 + 1, none⟩ = some u) ∧ (∃ u, W.cell? ⟨w.heap.size, i * 4 + 2, none⟩ = some u) ∧ (∃ u, W.cell? ⟨w.heap.size, i * 4 + 3, none⟩ = some u) ∧ ∀ j, W.frozen? ⟨w.heap.size, j, none⟩ = false) := hid (fun W hW => by
          obtain ⟨cs, r1, r2, _⟩ := hfk.row
          have r1' : W.heap[w.heap.size]? = some (.cells cs 25 (0, 0)) := by
            have hlt := lt_of_heap r1
            rw [hW.block _ (Nat.lt_of_lt_of_le hlt hB0.size), hB0.block _ hlt]
            exact r1
          have hj : ∀ j, j < 4 → ∃ u, W.cell? ⟨w.heap.size, i * 4 + j, none⟩ = some u := fun j hj => ⟨cs[i * 4 + j]'(by omega), by rw [cell_of_heap r1']; exact Array.getElem?_eq_getElem (by omega)⟩
          exact ⟨hj 0 (by omega), hj 1 (by omega), hj 2 (by omega), hj 3 (by omega), fun j => frozen_of_heap r1' j⟩)
        have HNX : Hid (∀ W v, Kd (fun g => w0.heap.size ≤ g) W d1 v x.kids → Below w0.heap.size w0 W → Fk w d1 ks (i + 1) (setL W w.heap.size (i * 4) (.int .u8 (x.kind : Int)) (St x.term) (.int .i64 x.n) v)) := hid (fun W v hKd hW => by
          obtain ⟨cs, r1, r2, r3⟩ := hfk.row
          have hlt := lt_of_heap r1
          have r1' : W.heap[w.heap.size]? = some (.cells cs 25 (0, 0)) := by
            rw [hW.block _ (Nat.lt_of_lt_of_le hlt hB0.size), hB0.block _ hlt]
            exact r1
          refine ⟨setL_below ((hfk.bel.trans (hB0.mono hfk.bel.size)).trans (hW.mono (Nat.le_trans hfk.bel.size hB0.size))) (Nat.le_refl _) _ _ _ _ _, _, setL_same r1' _ _ _ _ _, by simp [r2], fun k hk hki => ?_⟩
          by_cases hke : k = i
          · subst hke
            rw [← hx]
            refine ⟨v, fun j u hu => set4_new cs (k * 4) _ _ _ _ (by omega) hu, hlr, (hKd.base (fun g (hg : w0.heap.size ≤ g) => by have := hB0.size; show w.heap.size + 1 ≤ g; omega)).same (fun g (hg : w.heap.size + 1 ≤ g) hgl => setL_other _ _ _ _ _ _ _ (by omega))⟩
          · obtain ⟨kv, s1, s2, s3⟩ := r3 k hk (by omega)
            refine ⟨kv, fun j u hu => ?_, s2, s3.same (fun g (hg : w.heap.size + 1 ≤ g) hgl => ?_)⟩
            · have hj : j < 4 := by
                apply Classical.byContradiction
                intro hn
                rw [Array.getElem?_eq_none (by show 4 ≤ j; omega)] at hu
                cases hu
              rw [set4_other _ _ _ _ _ _ (by omega)]
              exact s1 j u hu
            · rw [setL_other _ _ _ _ _ _ _ (by omega), hW.block g (Nat.lt_of_lt_of_le hgl hB0.size), hB0.block g hgl])
        have HI := hid him
        clear hkd hcs hlr hx hfk hik him hi hc hB0
        go_wp2_with fail
        rw [show Value.string { data := List.toArray x.term } = St x.term from rfl, ← hw0]
        clear hw0 e0 e1 e2 e3
        refine HFK.out.mono ?_
        rintro e wb ⟨a3, c3, rfl, hv⟩
        have HV := hid hv
        obtain ⟨⟨u0, q0⟩, ⟨u1, q1⟩, ⟨u2, q2⟩, ⟨u3, q3⟩, qf⟩ := HRW.out wb hv.2
        have HN1 := hid (HNX.out wb _ hv.1 hv.2)
        clear hv HFK HNX HRW
        go_wp2_with fail
        go_roundg (m - (i + 1))
        case measure => have := HI.out; omega
        case rel => exact ⟨i + 1, rfl, HI.out, rfl, HN1.out⟩
      · have hie : i = m := by omega
        subst hie
        have hin : ¬ (i : Int) < (i : Int) := by omega
        have HFI := hid hfk
        clear hfk him hi
        go_wp2_with fail
        go_ret
        refine ⟨_, rfl, ?_, HFI.out.bel⟩
        obtain ⟨cs, r1, r2, r3⟩ := HFI.out.row
        have hmi := HM.out
        refine ⟨by have := HLEN.out; omega, _, _, by rw [← hmi]; rfl, fun _ => ⟨w.heap.size, 0, rfl, Nat.le_refl _, fun k hk => ?_⟩⟩
        obtain ⟨kv, s1, s2, s3⟩ := r3 k hk (by omega)
        exact ⟨kv, fun j u hu => by rw [cell_of_heap r1, Nat.zero_add]; exact s1 j u hu, s2, s3.base (fun g (hg : w.heap.size + 1 ≤ g) => by show w.heap.size ≤ g; omega)⟩
end Go.Proofs.YtdllpklecdmghaaGreatDoor
/- A lock that ends is made anew. -/
namespace Go.Proofs.YtdllpklecdmghaaGreatDoor
open Go.RowKit Go.Shelf
open Lk (Lt)
theorem eg96 : ∀ args w, (callFunc 96 args).run Tryz.prog w = .ok (.enter 96 args) w := enters_of Tryz.func96 (by kernel_rfl) rfl
theorem eg77 : ∀ args w, (callFunc 77 args).run Tryz.prog w = .ok (.enter 77 args) w := enters_of Tryz.func77 (by kernel_rfl) rfl
theorem zsize25 : (Tryz.prog.info? 25).map (·.size) = some 4 := by kernel_rfl
theorem cell_ret {fn : Func} {tmps : Array Value} {k g : Nat} {v0 v1 v2 v3 : Value} {w : World} (hr : fn.results = #[.cell k 25]) (hk : tmps.getD k undef = .pointer (some ⟨g, 0, none⟩)) (h : w.heap[g]? = some (.cells #[v0, v1, v2, v3] 25 (0, 0))) : (results fn tmps).run Tryz.prog w = .ok (.agg #[v0, v1, v2, v3]) w := by
  have hl : (loadVar 25 ⟨g, 0, none⟩).run Tryz.prog w = .ok (.agg #[v0, v1, v2, v3]) w := run_loadVar_row _ _ 25 25 _ (0, 0) _ h Tryz.underlying25 rfl zsize25
  have hk' : tmps[k]?.getD undef = .pointer (some ⟨g, 0, none⟩) := by simpa using hk
  unfold results
  rw [hr]
  simp [hk', asAddr, hl]
set_option maxHeartbeats 4000000 in
theorem ending_any {b : Nat → Prop} (d : Nat) : ∀ (l : Lt) (kv : Value) (w : World), Kd b w d kv l.kids → Lk.small l = true → Calls Tryz.prog 96 #[.agg (lcs l kv)] w fun e w' => ∃ kv', e = .returned (.agg (lcs l kv')) ∧ Kd (fun g => w.heap.size ≤ g) w' d kv' l.kids ∧ Below w.heap.size w w' := by
  induction d using Nat.strongRecOn with
  | ind d ih =>
    intro x kv w hkd hsm
    obtain ⟨_, a2, c2, rfl⟩ := hkd.shape
    obtain ⟨htl, hkl, _, hks⟩ := Lk.small_parts hsm
    show Calls Tryz.prog 96 #[.agg #[.int .u8 (x.kind : Int), St x.term, .int .i64 x.n, .slice a2 x.kids.length c2]] w fun e w' => ∃ kv', e = .returned (.agg #[.int .u8 (x.kind : Int), St x.term, .int .i64 x.n, kv']) ∧ Kd (fun g => w.heap.size ≤ g) w' d kv' x.kids ∧ Below w.heap.size w w'
    obtain ⟨wB, hwB⟩ : ∃ wB, wB = w.alloc (.cells #[.int .u8 (x.kind : Int), St x.term, .int .i64 x.n, .slice a2 x.kids.length c2] 25) := ⟨_, rfl⟩
    obtain ⟨w0, hw0⟩ : ∃ w0, w0 = wB.alloc (.cells #[.int .u8 0, .string ⟨#[]⟩, .int .i64 0, .slice none 0 0] 25) := ⟨_, rfl⟩
    obtain ⟨bx, hbx⟩ : ∃ bx, bx = w.heap.size := ⟨_, rfl⟩
    have hszB : wB.heap.size = bx + 1 := by rw [hwB, hbx]; simp
    have hsz0 : w0.heap.size = bx + 2 := by rw [hw0]; simp [hszB]
    have hBB : Below w.heap.size w wB := by rw [hwB]; exact below_al _ _
    have hB0 : Below wB.heap.size wB w0 := by rw [hw0]; exact below_al _ _
    have hBW : Below w.heap.size w w0 := hBB.trans (hB0.mono hBB.size)
    have hbk : w0.heap[bx]? = some (.cells #[.int .u8 (x.kind : Int), St x.term, .int .i64 x.n, .slice a2 x.kids.length c2] 25 (0, 0)) := by
      rw [hB0.block bx (by omega), hwB, hbx]
      exact heap_alloc_new w _
    have hzk : w0.heap[bx + 1]? = some (.cells #[.int .u8 0, .string ⟨#[]⟩, .int .i64 0, .slice none 0 0] 25 (0, 0)) := by
      rw [hw0, ← hszB]
      exact heap_alloc_new wB _
    have HBK : Hid (∀ W, Below w0.heap.size w0 W → W.heap[bx]? = some (.cells #[.int .u8 (x.kind : Int), St x.term, .int .i64 x.n, .slice a2 x.kids.length c2] 25 (0, 0))) := hid (fun W hW => (hW.block _ (by omega)).trans hbk)
    have HZK : Hid (∀ W, Below w0.heap.size w0 W → W.heap[bx + 1]? = some (.cells #[.int .u8 0, .string ⟨#[]⟩, .int .i64 0, .slice none 0 0] 25 (0, 0))) := hid (fun W hW => (hW.block _ (by omega)).trans hzk)
    have HC0 : Hid (∀ W, Below w0.heap.size w0 W → W.cell? ⟨bx, 0, none⟩ = some (.int .u8 (x.kind : Int)) ∧ W.cell? ⟨bx, 1, none⟩ = some (St x.term) ∧ W.cell? ⟨bx, 2, none⟩ = some (.int .i64 x.n) ∧ W.cell? ⟨bx, 3, none⟩ = some (.slice a2 x.kids.length c2)) := hid (fun W hW => by
      have h := HBK.out W hW
      exact ⟨(cell_of_heap h 0).trans rfl, (cell_of_heap h 1).trans rfl, (cell_of_heap h 2).trans rfl, (cell_of_heap h 3).trans rfl⟩)
    have HC1 : Hid (∀ W, Below w0.heap.size w0 W → ∀ v0 v1 v2 v3, (setL W (bx + 1) 0 v0 v1 v2 v3).cell? ⟨bx, 0, none⟩ = some (.int .u8 (x.kind : Int)) ∧ (setL W (bx + 1) 0 v0 v1 v2 v3).cell? ⟨bx, 1, none⟩ = some (St x.term) ∧ (setL W (bx + 1) 0 v0 v1 v2 v3).cell? ⟨bx, 2, none⟩ = some (.int .i64 x.n) ∧ (setL W (bx + 1) 0 v0 v1 v2 v3).cell? ⟨bx, 3, none⟩ = some (.slice a2 x.kids.length c2)) := hid (fun W hW v0 v1 v2 v3 => by
      have h := (setL_other W (bx + 1) 0 v0 v1 v2 v3 (k := bx) (by omega)).trans (HBK.out W hW)
      exact ⟨(cell_of_heap h 0).trans rfl, (cell_of_heap h 1).trans rfl, (cell_of_heap h 2).trans rfl, (cell_of_heap h 3).trans rfl⟩)
    have HT : Hid (∀ W, Below w0.heap.size w0 W → Calls Tryz.prog 43 #[St x.term] W fun e w' => e = .returned (St x.term) ∧ Below w0.heap.size w0 w') := hid (fun W hW => (freshT_any x.term W htl).mono (fun e w' ⟨h1, h2⟩ => ⟨h1, hW.trans (h2.mono hW.size)⟩))
    have HFK : Hid (∀ W, Below w0.heap.size w0 W → Calls Tryz.prog 76 #[.slice a2 x.kids.length c2, .func (.func 96) #[] #[]] W fun e w' => ∃ a3 c3, e = .returned (.slice a3 x.kids.length c3) ∧ (Kd (fun g => w0.heap.size ≤ g) w' d (.slice a3 x.kids.length c3) x.kids ∧ Below w0.heap.size w0 w')) := hid (fun W hW => (list_any 96 eg96 d _ x.kids W ((hkd.low hBW).low hW) hkl (fun y hy d' kv' W' hd' hk' => ih d' hd' y kv' W' hk' (Lk.smalls_get hks y hy))).mono (fun e w' ⟨v', h1, h2, h3⟩ => by
      obtain ⟨_, a3, c3, rfl⟩ := h2.shape
      exact ⟨a3, c3, h1, h2.base (fun g hg => Nat.le_trans hW.size hg), hW.trans (h3.mono hW.size)⟩))
    have HBW := hid hBW
    have HSZ := hid hsz0
    have HBX := hid hbx
    have HSB := hid hszB
    clear hkd hks hkl htl hsm ih hbk hzk hBB hB0 hBW hsz0
    go_enter Tryz.func96, Tryz.ntmps96
    go_wp2_with fail
    rw [← hwB, ← hw0, ← hbx]
    clear hbx
    clear hwB hw0 hszB
    have hs0 := HC0.out w0 (Below.refl _ _)
    go_region_held3 (fun wx => wx.cell? ⟨bx, 0, none⟩ = some (.int .u8 (x.kind : Int)) ∧ wx.cell? ⟨bx, 1, none⟩ = some (St x.term) ∧ wx.cell? ⟨bx, 2, none⟩ = some (.int .i64 x.n) ∧ wx.cell? ⟨bx, 3, none⟩ = some (.slice a2 x.kids.length c2)) (first | exact hs0 | exact HC0.out _ HBa.out | exact HC0.out _ HBb.out | exact HC0.out _ (below_dr _) | exact HC1.out _ HBb.out _ _ _ _) (first | (go_at_call 43; refine (HT.out _ (below_dr _)).mono ?_; rintro e wa ⟨rfl, hba⟩; have HBa := hid hba; clear hba) | (go_at_call 76; refine (HFK.out _ HBa.out).mono ?_; rintro e wb ⟨a3, c3, rfl, hvb⟩; have HVb := hid hvb; have HBb := hid hvb.2; have qh := HZK.out wb hvb.2; have q0 : wb.cell? ⟨bx + 1, 0, none⟩ = some (.int .u8 0) := (cell_of_heap qh 0).trans rfl; have q1 : wb.cell? ⟨bx + 1, 1, none⟩ = some (.string ⟨#[]⟩) := (cell_of_heap qh 1).trans rfl; have q2 : wb.cell? ⟨bx + 1, 2, none⟩ = some (.int .i64 0) := (cell_of_heap qh 2).trans rfl; have q3 : wb.cell? ⟨bx + 1, 3, none⟩ = some (.slice none 0 0) := (cell_of_heap qh 3).trans rfl; have qf : ∀ j, wb.frozen? ⟨bx + 1, j, none⟩ = false := (fun j => frozen_of_heap qh j); clear hvb qh))
    clear hs0 q0 q1 q2 q3 qf
    have HFN : Hid ((setL wb (bx + 1) 0 (.int .u8 (x.kind : Int)) (St x.term) (.int .i64 x.n) (.slice a3 x.kids.length c3)).heap[bx + 1]? = some (.cells #[.int .u8 (x.kind : Int), St x.term, .int .i64 x.n, .slice a3 x.kids.length c3] 25 (0, 0))) := hid (setL_same (HZK.out wb HBb.out) 0 _ _ _ _)
    have HFB : Hid (Below w.heap.size w (setL wb (bx + 1) 0 (.int .u8 (x.kind : Int)) (St x.term) (.int .i64 x.n) (.slice a3 x.kids.length c3))) := hid (setL_below (HBW.out.trans (HBb.out.mono HBW.out.size)) (by have := HBX.out; omega) 0 _ _ _ _)
    have HFD : Hid (Kd (fun g => w.heap.size ≤ g) (setL wb (bx + 1) 0 (.int .u8 (x.kind : Int)) (St x.term) (.int .i64 x.n) (.slice a3 x.kids.length c3)) d (.slice a3 x.kids.length c3) x.kids) := hid ((HVb.out.1.same (fun g (hg : w0.heap.size ≤ g) _ => setL_other _ _ _ _ _ _ _ (by have := HSZ.out; omega))).base (fun g (hg : w0.heap.size ≤ g) => by have := HSZ.out; have := HBX.out; show w.heap.size ≤ g; omega))
    go_wp2_with fail
    exact bodyPost_ret (cell_ret Tryz.results96 rfl HFN.out) rfl ⟨_, rfl, HFD.out, HFB.out⟩
end Go.Proofs.YtdllpklecdmghaaGreatDoor
/- fresh.Lock, fresh.Locks: locks are copied. -/
namespace Go.Proofs.YtdllpklecdmghaaGreatDoor
open Go.RowKit Go.Shelf
open Lk (Lt)
theorem Kd.lts {b : Nat → Prop} {w : World} : ∀ {d : Nat} {v : Value} {ks : List Lt}, Kd b w d v ks → Kd (fun k => k < w.heap.size) w d v ks
  | 0, _, _, h => h
  | d + 1, v, ks, h => by
    obtain ⟨hl, ao, cap, hv, h⟩ := h
    refine ⟨hl, ao, cap, hv, fun h0 => ?_⟩
    obtain ⟨g, o, hg, _, hc⟩ := h h0
    refine ⟨g, o, hg, ?_, fun i hi => ?_⟩
    · obtain ⟨kv, h1, _, _⟩ := hc 0 h0
      exact World.block_lt_of_cell? w ⟨g, o + 0 * 4 + 0, none⟩ (h1 0 _ rfl)
    · obtain ⟨kv, h1, h2, h3⟩ := hc i hi
      exact ⟨kv, h1, h2, h3.lts⟩
set_option maxHeartbeats 4000000 in
theorem flock_any {b : Nat → Prop} (d : Nat) (x : Lt) (kv : Value) (w : World) (hkd : Kd b w d kv x.kids) (hsm : Lk.small x = true) : Calls Tryz.prog 77 #[.agg (lcs x kv)] w fun e w' => ∃ kv', e = .returned (.agg (lcs x kv')) ∧ Kd (fun g => w.heap.size ≤ g) w' d kv' x.kids ∧ Below w.heap.size w w' := by
  obtain ⟨_, a2, c2, rfl⟩ := hkd.shape
  obtain ⟨htl, hkl, hsz, hks⟩ := Lk.small_parts hsm
  have hdp : Lk.deps x.kids < 65536 ∧ Lk.size x ≤ 67108864 := by
    have h1 := Lk.dep_size x
    obtain ⟨k1, t1, n1, ks1⟩ := x
    rw [Lk.dep, Lk.size] at h1
    have h2 : Lk.sizes ks1 ≤ 60000 := hsz
    refine ⟨?_, by rw [Lk.size]; omega⟩
    show Lk.deps ks1 < 65536
    omega
  show Calls Tryz.prog 77 #[.agg #[.int .u8 (x.kind : Int), St x.term, .int .i64 x.n, .slice a2 x.kids.length c2]] w fun e w' => ∃ kv', e = .returned (.agg #[.int .u8 (x.kind : Int), St x.term, .int .i64 x.n, kv']) ∧ Kd (fun g => w.heap.size ≤ g) w' d kv' x.kids ∧ Below w.heap.size w w'
  obtain ⟨wB, hwB⟩ : ∃ wB, wB = w.alloc (.cells #[.int .u8 (x.kind : Int), St x.term, .int .i64 x.n, .slice a2 x.kids.length c2] 25) := ⟨_, rfl⟩
  obtain ⟨wC, hwC⟩ : ∃ wC, wC = wB.alloc (.cells #[.int .u8 0, .string ⟨#[]⟩, .int .i64 0, .slice none 0 0] 25) := ⟨_, rfl⟩
  obtain ⟨w0, hw0⟩ : ∃ w0, w0 = wC.alloc (.cells #[.int .i64 67108864] 3) := ⟨_, rfl⟩
  obtain ⟨bx, hbx⟩ : ∃ bx, bx = w.heap.size := ⟨_, rfl⟩
  have hszB : wB.heap.size = bx + 1 := by rw [hwB, hbx]; simp
  have hszC : wC.heap.size = bx + 2 := by rw [hwC]; simp [hszB]
  have hsz0 : w0.heap.size = bx + 3 := by rw [hw0]; simp [hszC]
  have hBB : Below w.heap.size w wB := by rw [hwB]; exact below_al _ _
  have hBC : Below wB.heap.size wB wC := by rw [hwC]; exact below_al _ _
  have hB0 : Below wC.heap.size wC w0 := by rw [hw0]; exact below_al _ _
  have hBC0 : Below wB.heap.size wB w0 := hBC.trans (hB0.mono hBC.size)
  have hBW : Below w.heap.size w w0 := hBB.trans (hBC0.mono hBB.size)
  have hbk : w0.heap[bx]? = some (.cells #[.int .u8 (x.kind : Int), St x.term, .int .i64 x.n, .slice a2 x.kids.length c2] 25 (0, 0)) := by
    rw [hBC0.block bx (by omega), hwB, hbx]
    exact heap_alloc_new w _
  have hzk : w0.heap[bx + 1]? = some (.cells #[.int .u8 0, .string ⟨#[]⟩, .int .i64 0, .slice none 0 0] 25 (0, 0)) := by
    rw [hB0.block (bx + 1) (by omega), hwC, ← hszB]
    exact heap_alloc_new wB _
  have hcn : Cn w0 (bx + 2) ((67108864 : Nat) : Int) := by
    unfold Cn
    rw [hw0, ← hszC]
    exact heap_alloc_new wC _
  have hkw : Kd (fun k => k < w.heap.size) w0 (Lk.deps x.kids) (.slice a2 x.kids.length c2) x.kids := (hkd.exact.lts).low hBW
  have HE : Hid (Calls Tryz.prog 95 #[.agg #[.int .u8 (x.kind : Int), St x.term, .int .i64 x.n, .slice a2 x.kids.length c2], .int .i64 65536, .pointer (some ⟨bx + 2, 0, none⟩)] w0 fun e w' => e = .returned (.bool true) ∧ Frx w0.heap.size (bx + 2) w0 w') := hid ((ends_any (bx + 2) (fun k (hk : k < w.heap.size) => by omega) _ x _ w0 65536 67108864 hkw hcn hdp.1 (Nat.le_refl _) hdp.2 (Nat.le_refl _)).mono (fun e w' ⟨h1, _, h3⟩ => ⟨h1, h3⟩))
  have HBK : Hid (∀ W, Frx w0.heap.size (bx + 2) w0 W → W.heap[bx]? = some (.cells #[.int .u8 (x.kind : Int), St x.term, .int .i64 x.n, .slice a2 x.kids.length c2] 25 (0, 0))) := hid (fun W hW => (hW.block _ (by omega) (by omega)).trans hbk)
  have HZK : Hid (∀ W, Frx w0.heap.size (bx + 2) w0 W → W.heap[bx + 1]? = some (.cells #[.int .u8 0, .string ⟨#[]⟩, .int .i64 0, .slice none 0 0] 25 (0, 0))) := hid (fun W hW => (hW.block _ (by omega) (by omega)).trans hzk)
  have HFB : Hid (∀ W, Frx w0.heap.size (bx + 2) w0 W → Below w.heap.size w W) := hid (fun W hW => hBW.trans ((hW.low (Nat.le_of_eq rfl)).low (B := w.heap.size) (by omega) |>.below (by omega)))
  have HEN : Hid (∀ W, Frx w0.heap.size (bx + 2) w0 W → Calls Tryz.prog 96 #[.agg #[.int .u8 (x.kind : Int), St x.term, .int .i64 x.n, .slice a2 x.kids.length c2]] W fun e w' => ∃ a3 c3, e = .returned (.agg #[.int .u8 (x.kind : Int), St x.term, .int .i64 x.n, .slice a3 x.kids.length c3]) ∧ (Kd (fun g => w0.heap.size ≤ g) w' d (.slice a3 x.kids.length c3) x.kids ∧ Below W.heap.size W w')) := hid (fun W hW => (ending_any d x _ W (hkd.low (HFB.out W hW)) hsm).mono (fun e w' ⟨v', h1, h2, h3⟩ => by
    obtain ⟨_, a3, c3, rfl⟩ := h2.shape
    exact ⟨a3, c3, h1, h2.base (fun g hg => Nat.le_trans hW.size hg), h3⟩))
  have HSZ := hid hsz0
  have HBX := hid hbx
  obtain ⟨q0, q1, q2, q3⟩ : w0.cell? ⟨bx, 0, none⟩ = some (.int .u8 (x.kind : Int)) ∧ w0.cell? ⟨bx, 1, none⟩ = some (St x.term) ∧ w0.cell? ⟨bx, 2, none⟩ = some (.int .i64 x.n) ∧ w0.cell? ⟨bx, 3, none⟩ = some (.slice a2 x.kids.length c2) := ⟨(cell_of_heap hbk 0).trans rfl, (cell_of_heap hbk 1).trans rfl, (cell_of_heap hbk 2).trans rfl, (cell_of_heap hbk 3).trans rfl⟩
  clear hkd hks hkl htl hsm hdp hsz hbk hzk hcn hkw hBB hBC hB0 hBC0 hBW hsz0 hszB hszC
  rw [hw0, hwC, hwB, hbx] at q0 q1 q2 q3
  go_enter Tryz.func77, Tryz.ntmps77
  go_wp2_with fail
  rw [← hwB, ← hwC, ← hw0, ← hbx]
  clear q0 q1 q2 q3 hwB hwC hw0 hbx
  refine HE.out.mono ?_
  rintro e w1 ⟨rfl, hf⟩
  have HF1 := hid hf
  have hb1 := HBK.out w1 hf
  have q0 : w1.cell? ⟨bx, 0, none⟩ = some (.int .u8 (x.kind : Int)) := (cell_of_heap hb1 0).trans rfl
  have q1 : w1.cell? ⟨bx, 1, none⟩ = some (St x.term) := (cell_of_heap hb1 1).trans rfl
  have q2 : w1.cell? ⟨bx, 2, none⟩ = some (.int .i64 x.n) := (cell_of_heap hb1 2).trans rfl
  have q3 : w1.cell? ⟨bx, 3, none⟩ = some (.slice a2 x.kids.length c2) := (cell_of_heap hb1 3).trans rfl
  clear hf hb1 HE
  go_wp2_with fail
  refine (HEN.out w1 HF1.out).mono ?_
  rintro e wb ⟨a3, c3, rfl, hv⟩
  have HV := hid hv
  clear q0 q1 q2 q3 hv
  have hzb : wb.heap[bx + 1]? = some (.cells #[.int .u8 0, .string ⟨#[]⟩, .int .i64 0, .slice none 0 0] 25 (0, 0)) := by
    have h1 := HZK.out w1 HF1.out
    rw [HV.out.2.block _ (lt_of_heap h1)]
    exact h1
  have q0 : wb.cell? ⟨bx + 1, 0, none⟩ = some (.int .u8 0) := (cell_of_heap hzb 0).trans rfl
  have q1 : wb.cell? ⟨bx + 1, 1, none⟩ = some (.string ⟨#[]⟩) := (cell_of_heap hzb 1).trans rfl
  have q2 : wb.cell? ⟨bx + 1, 2, none⟩ = some (.int .i64 0) := (cell_of_heap hzb 2).trans rfl
  have q3 : wb.cell? ⟨bx + 1, 3, none⟩ = some (.slice none 0 0) := (cell_of_heap hzb 3).trans rfl
  have qf : ∀ j, wb.frozen? ⟨bx + 1, j, none⟩ = false := fun j => frozen_of_heap hzb j
  have HFN : Hid ((setL wb (bx + 1) 0 (.int .u8 (x.kind : Int)) (St x.term) (.int .i64 x.n) (.slice a3 x.kids.length c3)).heap[bx + 1]? = some (.cells #[.int .u8 (x.kind : Int), St x.term, .int .i64 x.n, .slice a3 x.kids.length c3] 25 (0, 0))) := hid (setL_same hzb 0 _ _ _ _)
  have HZB : Hid (Below w.heap.size w (setL wb (bx + 1) 0 (.int .u8 (x.kind : Int)) (St x.term) (.int .i64 x.n) (.slice a3 x.kids.length c3))) := hid (setL_below ((HFB.out w1 HF1.out).trans (HV.out.2.mono (HFB.out w1 HF1.out).size)) (by have := HBX.out; omega) 0 _ _ _ _)
  have HFD : Hid (Kd (fun g => w.heap.size ≤ g) (setL wb (bx + 1) 0 (.int .u8 (x.kind : Int)) (St x.term) (.int .i64 x.n) (.slice a3 x.kids.length c3)) d (.slice a3 x.kids.length c3) x.kids) := hid ((HV.out.1.same (fun g (hg : w0.heap.size ≤ g) _ => setL_other _ _ _ _ _ _ _ (by have := HSZ.out; omega))).base (fun g (hg : w0.heap.size ≤ g) => by have := HSZ.out; have := HBX.out; show w.heap.size ≤ g; omega))
  clear hzb
  go_wp2_with fail
  exact bodyPost_ret (cell_ret Tryz.results77 rfl HFN.out) rfl ⟨_, rfl, HFD.out, HZB.out⟩
theorem fkids_any {b : Nat → Prop} (d : Nat) (v : Value) (ks : List Lt) (w : World) (hk : Kd b w d v ks) (hs : Lk.smalls ks = true) (hl : ks.length ≤ 1000000) : Calls Tryz.prog 49 #[v] w fun e w' => ∃ v', e = .returned v' ∧ Kd (fun g => w.heap.size ≤ g) w' d v' ks ∧ Below w.heap.size w w' := by
  have HC := hid ((list_any 77 eg77 d v ks w hk hl (fun x hx d' kv W _ hk' => flock_any d' x kv W hk' (Lk.smalls_get hs x hx))).mono (fun e w' ⟨v', h1, h2, h3⟩ => by
    obtain ⟨_, a, c, rfl⟩ := h2.shape
    exact (⟨a, c, h1, h2, h3⟩ : ∃ a c, e = .returned (.slice a ks.length c) ∧ Kd (fun g => w.heap.size ≤ g) w' d (.slice a ks.length c) ks ∧ Below w.heap.size w w')))
  obtain ⟨_, ao, cap, rfl⟩ := hk.shape
  clear hk hs hl
  go_enter Tryz.func49, Tryz.ntmps49
  go_wp2_with fail
  refine HC.out.mono ?_
  rintro e w1 ⟨a, c, rfl, hv⟩
  have HV := hid hv
  clear hv HC
  go_wp2_with fail
  go_ret
  exact ⟨_, rfl, HV.out⟩
end Go.Proofs.YtdllpklecdmghaaGreatDoor
