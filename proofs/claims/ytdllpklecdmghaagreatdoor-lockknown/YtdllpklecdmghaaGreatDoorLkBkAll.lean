import Derived.Test.YtdllpklecdmghaaGreatDoorLkWkAll
import Derived.Test.YtdllpklecdmghaaGreatDoorLkHAll
import Derived.Test.YtdllpklecdmghaaGreatDoorLkOAll
import Derived.Test.YtdllpklecdmghaaGreatDoorScnAll
import Derived.Test.YtdllpklecdmghaaGreatDoorLkD
/- LockBack: the law. -/
namespace Go.Proofs.YtdllpklecdmghaaGreatDoor
open Go.RowKit
open Lk (Lt Sp)
theorem box_two (w wB : World) (x0 x1 x2 x3 y0 y1 y2 y3 : Value) (hW : wB = (w.alloc (.cells #[x0, x1, x2, x3] 25)).alloc (.cells #[y0, y1, y2, y3] 25)) : Below w.heap.size w wB ∧ ∀ W, Below wB.heap.size wB W → (W.cell? ⟨w.heap.size, 0, none⟩ = some x0 ∧ W.cell? ⟨w.heap.size, 1, none⟩ = some x1 ∧ W.cell? ⟨w.heap.size, 2, none⟩ = some x2 ∧ W.cell? ⟨w.heap.size, 3, none⟩ = some x3) ∧ W.cell? ⟨w.heap.size + 1, 0, none⟩ = some y0 ∧ W.cell? ⟨w.heap.size + 1, 1, none⟩ = some y1 ∧ W.cell? ⟨w.heap.size + 1, 2, none⟩ = some y2 ∧ W.cell? ⟨w.heap.size + 1, 3, none⟩ = some y3 := by
  have e1 : (w.alloc (.cells #[x0, x1, x2, x3] 25)).heap.size = w.heap.size + 1 := by simp
  have h1 := heap_alloc_new w (.cells #[x0, x1, x2, x3] 25)
  have b1 := below_al w (.cells #[x0, x1, x2, x3] 25)
  generalize w.alloc (.cells #[x0, x1, x2, x3] 25) = w1 at *
  have h2 := heap_alloc_new w1 (.cells #[y0, y1, y2, y3] 25)
  have b2 := below_al w1 (.cells #[y0, y1, y2, y3] 25)
  rw [← hW] at h2 b2
  refine ⟨b1.trans (b2.mono (by omega)), fun W hB => ?_⟩
  have k1 := (hB.block _ (lt_of_heap ((b2.block _ (by omega)).trans h1))).trans ((b2.block _ (by omega)).trans h1)
  have k2 := (hB.block _ (lt_of_heap h2)).trans h2
  rw [e1] at k2
  exact ⟨⟨(cell_of_heap k1 0).trans rfl, (cell_of_heap k1 1).trans rfl, (cell_of_heap k1 2).trans rfl, (cell_of_heap k1 3).trans rfl⟩, (cell_of_heap k2 0).trans rfl, (cell_of_heap k2 1).trans rfl, (cell_of_heap k2 2).trans rfl, (cell_of_heap k2 3).trans rfl⟩
theorem rd_wr {l : Lt} (h : Lk.right l = true) : rdL (Lk.wr l) = l ∧ rdE (Lk.wr l) = 0 := by
  have h1 := (Lk.rdRes_iff (Lk.wr l) l).2 ⟨h, rfl⟩
  unfold rdL rdE
  rw [h1]
  exact ⟨rfl, rfl⟩
theorem rd_some {s : Bs} (h : rdE s = 0) : Lk.right (rdL s) = true ∧ s = Lk.wr (rdL s) := by
  unfold rdE at h
  unfold rdL
  cases hr : Lk.rdRes s with
  | none => rw [hr] at h; simp at h
  | some l => exact (Lk.rdRes_iff s l).1 hr
theorem rdE_two (s : Bs) : rdE s = 0 ∨ rdE s = 110 := by
  unfold rdE
  split
  · exact .inl rfl
  · exact .inr rfl
def Bx (W : World) (m : Nat) (l : Lt) (a : Option Addr) (c : Nat) (d : Nat) : Prop := W.heap[m]? = some (.cells #[.int .u8 (l.kind : Int), St l.term, .int .i64 l.n, .slice a l.kids.length c] 25 (0, 0)) ∧ Kd (fun _ => True) W d (.slice a l.kids.length c) l.kids
theorem Bx.low {W W' : World} {m : Nat} {l : Lt} {a : Option Addr} {c d : Nat} (h : Bx W m l a c d) (hB : Below W.heap.size W W') : Bx W' m l a c d := ⟨(hB.block _ (lt_of_heap h.1)).trans h.1, h.2.low hB⟩
theorem Bx.cells {W : World} {m : Nat} {l : Lt} {a : Option Addr} {c d : Nat} (h : Bx W m l a c d) : W.cell? ⟨m, 0, none⟩ = some (.int .u8 (l.kind : Int)) ∧ W.cell? ⟨m, 1, none⟩ = some (St l.term) ∧ W.cell? ⟨m, 2, none⟩ = some (.int .i64 l.n) ∧ W.cell? ⟨m, 3, none⟩ = some (.slice a l.kids.length c) :=
  ⟨(cell_of_heap h.1 0).trans rfl, (cell_of_heap h.1 1).trans rfl, (cell_of_heap h.1 2).trans rfl, (cell_of_heap h.1 3).trans rfl⟩
theorem read_box (s : Bs) (w : World) (hs : s.length ≤ 140737488355328) : Calls Tryz.prog 16 #[St s] w fun e w' => (∃ a c, e = .returned (.tuple #[.agg #[.int .u8 ((rdL s).kind : Int), St (rdL s).term, .int .i64 (rdL s).n, .slice a (rdL s).kids.length c], .int .i64 (rdE s)]) ∧ Bx (w'.alloc (.cells #[.int .u8 ((rdL s).kind : Int), St (rdL s).term, .int .i64 (rdL s).n, .slice a (rdL s).kids.length c] 25)) w'.heap.size (rdL s) a c 65) ∧ Below w.heap.size w w' :=
  (read_all s w hs).mono (fun e w' ⟨⟨kv, h1, h2⟩, h3⟩ => by
    obtain ⟨_, a, c, rfl⟩ := h2.shape
    exact ⟨⟨a, c, h1, heap_alloc_new w' _, (h2.base (fun _ _ => trivial)).low (below_al w' _)⟩, h3⟩)
set_option maxRecDepth 100000 in
set_option maxHeartbeats 16000000 in
theorem back_any {b1 b2 : Nat → Prop} (la lb : Lt) (aa ba : Option Addr) (ac bc da db : Nat) (s : Bs) (w : World) (hp : Pw w) (ka : Kd b1 w da (.slice aa la.kids.length ac) la.kids) (kb : Kd b2 w db (.slice ba lb.kids.length bc) lb.kids) (ra : Lr la) (rb : Lr lb) (hs : s.length ≤ 140737488355328) :
    Calls Tryz.prog 30 #[.agg #[.int .u8 (la.kind : Int), St la.term, .int .i64 la.n, .slice aa la.kids.length ac], .agg #[.int .u8 (lb.kind : Int), St lb.term, .int .i64 lb.n, .slice ba lb.kids.length bc], St s] w fun e w' => e = .returned (.bool true) ∧ Below w.heap.size w w' := by
  obtain ⟨wB, hwB⟩ : ∃ wB, wB = (w.alloc (.cells #[.int .u8 (la.kind : Int), St la.term, .int .i64 la.n, .slice aa la.kids.length ac] 25)).alloc (.cells #[.int .u8 (lb.kind : Int), St lb.term, .int .i64 lb.n, .slice ba lb.kids.length bc] 25) := ⟨_, rfl⟩
  obtain ⟨hbB, hcl⟩ := box_two w wB _ _ _ _ _ _ _ _ hwB
  have HCL := hid hcl
  have HBB := hid hbB
  have KA := hid (ka.low hbB)
  have KB := hid (kb.low hbB)
  have H1 : Hid (∀ W, Below wB.heap.size wB W → Calls Tryz.prog 7 #[.agg #[.int .u8 (la.kind : Int), St la.term, .int .i64 la.n, .slice aa la.kids.length ac], .int .i64 300] W fun e w' => e = .returned (.int .i64 (Lk.great 300 la : Int)) ∧ Below wB.heap.size wB w') := hid (fun W hW => (lsize_any 300 (by decide) da la _ W ra (KA.out.low hW)).mono (fun e w' ⟨h1, h2⟩ => ⟨h1, hW.trans (h2.mono hW.size)⟩))
  have H2 : Hid (∀ W, Below wB.heap.size wB W → Calls Tryz.prog 7 #[.agg #[.int .u8 (lb.kind : Int), St lb.term, .int .i64 lb.n, .slice ba lb.kids.length bc], .int .i64 300] W fun e w' => e = .returned (.int .i64 (Lk.great 300 lb : Int)) ∧ Below wB.heap.size wB w') := hid (fun W hW => (lsize_any 300 (by decide) db lb _ W rb (KB.out.low hW)).mono (fun e w' ⟨h1, h2⟩ => ⟨h1, hW.trans (h2.mono hW.size)⟩))
  have H3 : Hid (∀ W, Below wB.heap.size wB W → Calls Tryz.prog 8 #[.agg #[.int .u8 (la.kind : Int), St la.term, .int .i64 la.n, .slice aa la.kids.length ac]] W fun e w' => e = .returned (.tuple #[St (wrRes la).1, .int .i64 ((wrRes la).2 : Int)]) ∧ Below wB.heap.size wB w') := hid (fun W hW => (write_any da la _ W (KA.out.low hW) ((hp.below hbB).below hW)).mono (fun e w' ⟨h1, h2⟩ => ⟨h1, hW.trans (h2.mono hW.size)⟩))
  have H4 : Hid (∀ W, Below wB.heap.size wB W → Calls Tryz.prog 8 #[.agg #[.int .u8 (lb.kind : Int), St lb.term, .int .i64 lb.n, .slice ba lb.kids.length bc]] W fun e w' => e = .returned (.tuple #[St (wrRes lb).1, .int .i64 ((wrRes lb).2 : Int)]) ∧ Below wB.heap.size wB w') := hid (fun W hW => (write_any db lb _ W (KB.out.low hW) ((hp.below hbB).below hW)).mono (fun e w' ⟨h1, h2⟩ => ⟨h1, hW.trans (h2.mono hW.size)⟩))
  have H5 : Hid (∀ W, Below wB.heap.size wB W → Calls Tryz.prog 18 #[.agg #[.int .u8 (la.kind : Int), St la.term, .int .i64 la.n, .slice aa la.kids.length ac], .agg #[.int .u8 (lb.kind : Int), St lb.term, .int .i64 lb.n, .slice ba lb.kids.length bc]] W fun e w' => e = .returned (.bool (Lk.same la lb)) ∧ Below wB.heap.size wB w') := hid (fun W hW => (slock_any da la lb _ _ db W (KA.out.low hW) (KB.out.low hW)).mono (fun e w' ⟨h1, h2⟩ => ⟨h1, hW.trans (h2.mono hW.size)⟩))
  have H6 : Hid (∀ W m a c d, Below wB.heap.size wB W → Bx W m la a c d → Calls Tryz.prog 18 #[.agg #[.int .u8 (la.kind : Int), St la.term, .int .i64 la.n, .slice aa la.kids.length ac], .agg #[.int .u8 (la.kind : Int), St la.term, .int .i64 la.n, .slice a la.kids.length c]] W fun e w' => e = .returned (.bool true) ∧ Below W.heap.size W w') := hid (fun W m a c d hW hx => by
    have h := slock_any da la la _ _ d W (KA.out.low hW) hx.2
    rw [(Lk.same_iff la la).2 rfl] at h
    exact h)
  have HP : Hid (∀ W, Below wB.heap.size wB W → Pw W) := hid (fun W hW => (hp.below hbB).below hW)
  have HWK : Hid (∀ W, Below wB.heap.size wB W → Calls Tryz.prog 15 #[] W fun e w' => e = .returned (.bool true) ∧ Below w.heap.size w w') := hid (fun W hW => (works_any W ((hp.below hbB).below hW)).mono (fun e w' ⟨h1, h2⟩ => ⟨h1, (hbB.trans (hW.mono hbB.size)).trans (h2.mono (Nat.le_trans hbB.size hW.size))⟩))
  have HRA : Hid (Lk.right la = true → wrRes la = (Lk.wr la, 0) ∧ rdL (Lk.wr la) = la ∧ rdE (Lk.wr la) = 0 ∧ (Lk.wr la).length ≤ 140737488355328) := hid (fun h => ⟨by unfold wrRes; rw [if_pos h], (rd_wr h).1, (rd_wr h).2, by have := wr_right h; omega⟩)
  have HRN : Hid (Lk.right la = false → wrRes la = ([], 110)) := hid (fun h => by unfold wrRes; rw [if_neg (by rw [h]; decide)])
  have HRB : Hid (Lk.right lb = true → wrRes lb = (Lk.wr lb, 0)) := hid (fun h => by unfold wrRes; rw [if_pos h])
  have HRM : Hid (Lk.right lb = false → wrRes lb = ([], 110)) := hid (fun h => by unfold wrRes; rw [if_neg (by rw [h]; decide)])
  have HEQ : Hid (Lk.right la = true → Lk.right lb = true → (Lk.wr la == Lk.wr lb) = Lk.same la lb) := hid (fun h1 h2 => by
    rw [Bool.eq_iff_iff, Lk.same_iff, beq_iff_eq]
    exact ⟨Lk.wr_inj h1 h2, fun e => by rw [e]⟩)
  have HS := hid hs
  clear hcl hbB ka kb ra rb hp
  obtain ⟨⟨q0, q1, q2, q3⟩, r0, r1, r2, r3⟩ := HCL.out wB (Below.refl _ _)
  go_enter Tryz.func30, Tryz.ntmps30
  rw [hwB] at q0 q1 q2 q3 r0 r1 r2 r3
  go_wp2_with fail
  rw [← hwB]
  clear q0 q1 q2 q3 r0 r1 r2 r3 hwB
  refine (H1.out _ (Below.refl _ _)).mono ?_
  rintro e w1 ⟨rfl, hb1⟩
  have HD1 := hid hb1
  obtain ⟨⟨q0, q1, q2, q3⟩, r0, r1, r2, r3⟩ := HCL.out w1 hb1
  clear hb1
  generalize Lk.great 300 la = ga at *
  generalize Lk.great 300 lb = gb at *
  clear H1
  by_cases hga : (300 : Int) < (ga : Int)
  · have HZ := hid (HBB.out.trans (HD1.out.mono HBB.out.size))
    go_wp2_with fail
    go_ret
    exact ⟨rfl, HZ.out⟩
  · go_wp2_with fail
    refine (H2.out _ HD1.out).mono ?_
    rintro e w2 ⟨rfl, hb2⟩
    have HD2 := hid hb2
    clear q0 q1 q2 q3 r0 r1 r2 r3 hb2 H2 HD1
    obtain ⟨⟨q0, q1, q2, q3⟩, r0, r1, r2, r3⟩ := HCL.out w2 HD2.out
    by_cases hgb : (300 : Int) < (gb : Int)
    · have HZ := hid (HBB.out.trans (HD2.out.mono HBB.out.size))
      go_wp2_with fail
      go_ret
      exact ⟨rfl, HZ.out⟩
    · by_cases hsl : (3000 : Int) < (s.length : Int)
      · have HZ := hid (HBB.out.trans (HD2.out.mono HBB.out.size))
        go_wp2_with fail
        go_ret
        exact ⟨rfl, HZ.out⟩
      · go_wp2_with fail
        refine (H3.out _ HD2.out).mono ?_
        rintro e w3 ⟨rfl, hb⟩
        have Hw3 := hid hb
        clear q0 q1 q2 q3 r0 r1 r2 r3 hb
        obtain ⟨⟨q0, q1, q2, q3⟩, r0, r1, r2, r3⟩ := HCL.out w3 Hw3.out
        go_wp2_with fail
        refine (H4.out _ Hw3.out).mono ?_
        rintro e w4 ⟨rfl, hb⟩
        have Hw4 := hid hb
        clear q0 q1 q2 q3 r0 r1 r2 r3 hb H3 H4
        obtain ⟨⟨q0, q1, q2, q3⟩, r0, r1, r2, r3⟩ := HCL.out w4 Hw4.out
        cases hra : Lk.right la with
        | false =>
          have e1 := HRN.out hra
          rw [e1]
          clear e1 HRA HRN HRB HRM HEQ hra q0 q1 q2 q3 r0 r1 r2 r3
          have HT8 := hid (read_box s w4 HS.out)
          have HST := hid (rd_some (s := s))
          rcases rdE_two s with hE | hE
          · have HRS := hid (HST.out hE)
            rw [hE] at HT8
            go_wp2_with fail
            refine HT8.out.mono ?_
            rintro e wt ⟨⟨ta, tc, rfl, hx⟩, hb⟩
            have HBT := hid (Hw4.out.trans (hb.mono Hw4.out.size))
            obtain ⟨wu, hwu⟩ : ∃ wu, wu = wt.alloc (.cells #[.int .u8 ((rdL s).kind : Int), St (rdL s).term, .int .i64 (rdL s).n, .slice ta (rdL s).kids.length tc] 25) := ⟨_, rfl⟩
            have hbu : Below wt.heap.size wt wu := hwu ▸ below_al wt _
            rw [← hwu] at hx
            have HBU := hid (HBT.out.trans (hbu.mono HBT.out.size))
            have HX := hid hx
            obtain ⟨t0, t1, t2, t3⟩ := hx.cells
            clear hb hx hbu HT8 HST
            have HW8 : Hid (Calls Tryz.prog 8 #[.agg #[.int .u8 ((rdL s).kind : Int), St (rdL s).term, .int .i64 (rdL s).n, .slice ta (rdL s).kids.length tc]] wu fun e w' => e = .returned (.tuple #[St s, .int .i64 0]) ∧ Below wu.heap.size wu w') := hid (by
              have h := write_any 65 (rdL s) (.slice ta (rdL s).kids.length tc) wu HX.out.2 (HP.out wu HBU.out)
              unfold wrRes at h
              rw [if_pos HRS.out.1, ← HRS.out.2] at h
              exact h)
            subst hwu
            go_wp2_with fail
            refine HW8.out.mono ?_
            rintro e wv ⟨rfl, hbv⟩
            have HBV := hid (HBU.out.trans (hbv.mono HBU.out.size))
            have HXV := hid (HX.out.low hbv)
            clear hbv HW8 t0 t1 t2 t3
            obtain ⟨t0, t1, t2, t3⟩ := HXV.out.cells
            have HRT : Hid (Calls Tryz.prog 10 #[.agg #[.int .u8 ((rdL s).kind : Int), St (rdL s).term, .int .i64 (rdL s).n, .slice ta (rdL s).kids.length tc]] wv fun e w' => e = .returned (.bool true) ∧ Below wv.heap.size wv w') := hid (by
              have h := lright_any 65 (rdL s) (.slice ta (rdL s).kids.length tc) wv HXV.out.2
              rw [HRS.out.1] at h
              exact h)
            go_wp2_with fail
            refine HRT.out.mono ?_
            rintro e wx ⟨rfl, hbx⟩
            have HWX := hid (HWK.out wx (HBV.out.trans (hbx.mono HBV.out.size)))
            clear hbx HRT t0 t1 t2 t3
            go_wp2_with fail
            refine HWX.out.mono ?_
            rintro e wz ⟨rfl, hz⟩
            have HZ := hid hz
            clear hz
            go_wp2_with fail
            go_ret
            exact ⟨rfl, HZ.out⟩
          · rw [hE] at HT8
            go_wp2_with fail
            refine HT8.out.mono ?_
            rintro e wt ⟨⟨ta, tc, rfl, hx⟩, hb⟩
            have HBT := hid (Hw4.out.trans (hb.mono Hw4.out.size))
            have HWX := hid (HWK.out _ (HBT.out.trans ((below_al wt (.cells #[.int .u8 ((rdL s).kind : Int), St (rdL s).term, .int .i64 (rdL s).n, .slice ta (rdL s).kids.length tc] 25)).mono HBT.out.size)))
            clear hb hx HT8 HST
            go_wp2_with fail
            refine HWX.out.mono ?_
            rintro e wz ⟨rfl, hz⟩
            have HZ := hid hz
            clear hz
            go_wp2_with fail
            go_ret
            exact ⟨rfl, HZ.out⟩
        | true =>
          obtain ⟨e1, e2, e3, e4⟩ := HRA.out hra
          have HR8 := hid (read_box (Lk.wr la) w4 e4)
          rw [e2, e3] at HR8
          rw [e1]
          have HEQ2 := hid (HEQ.out hra)
          clear e1 e2 e3 e4 HRA HRN HEQ hra
          generalize Lk.wr la = xa at *
          go_wp2_with fail
          refine HR8.out.mono ?_
          rintro e w5 ⟨⟨xa5, xc5, rfl, hx5⟩, hb5⟩
          obtain ⟨w6, hw6⟩ : ∃ w6, w6 = w5.alloc (.cells #[.int .u8 (la.kind : Int), St la.term, .int .i64 la.n, .slice xa5 la.kids.length xc5] 25) := ⟨_, rfl⟩
          have hb6 : Below w5.heap.size w5 w6 := hw6 ▸ below_al w5 _
          rw [← hw6] at hx5
          have hd5 := Hw4.out.trans (hb5.mono Hw4.out.size)
          have HD6 := hid (hd5.trans (hb6.mono hd5.size))
          have HX5 := hid hx5
          obtain ⟨t0, t1, t2, t3⟩ := hx5.cells
          clear hb5 hb6 hx5 hd5 HR8 q0 q1 q2 q3 r0 r1 r2 r3
          obtain ⟨⟨q0, q1, q2, q3⟩, r0, r1, r2, r3⟩ := HCL.out w6 HD6.out
          have H6S := hid (H6.out w6 _ _ _ _ HD6.out HX5.out)
          subst hw6
          go_wp2_with fail
          refine H6S.out.mono ?_
          rintro e w7 ⟨rfl, hb7⟩
          have HD7 := hid (HD6.out.trans (hb7.mono HD6.out.size))
          clear hb7 H6S t0 t1 t2 t3 q0 q1 q2 q3 r0 r1 r2 r3
          obtain ⟨⟨q0, q1, q2, q3⟩, r0, r1, r2, r3⟩ := HCL.out w7 HD7.out
          cases hrb : Lk.right lb with
          | false =>
            have e1 := HRM.out hrb
            rw [e1]
            clear e1 HRB HRM HEQ2 hrb q0 q1 q2 q3 r0 r1 r2 r3
            have HT8 := hid (read_box s w7 HS.out)
            have HST := hid (rd_some (s := s))
            rcases rdE_two s with hE | hE
            · have HRS := hid (HST.out hE)
              rw [hE] at HT8
              go_wp2_with fail
              refine HT8.out.mono ?_
              rintro e wt ⟨⟨ta, tc, rfl, hx⟩, hb⟩
              have HBT := hid (HD7.out.trans (hb.mono HD7.out.size))
              obtain ⟨wu, hwu⟩ : ∃ wu, wu = wt.alloc (.cells #[.int .u8 ((rdL s).kind : Int), St (rdL s).term, .int .i64 (rdL s).n, .slice ta (rdL s).kids.length tc] 25) := ⟨_, rfl⟩
              have hbu : Below wt.heap.size wt wu := hwu ▸ below_al wt _
              rw [← hwu] at hx
              have HBU := hid (HBT.out.trans (hbu.mono HBT.out.size))
              have HX := hid hx
              obtain ⟨t0, t1, t2, t3⟩ := hx.cells
              clear hb hx hbu HT8 HST
              have HW8 : Hid (Calls Tryz.prog 8 #[.agg #[.int .u8 ((rdL s).kind : Int), St (rdL s).term, .int .i64 (rdL s).n, .slice ta (rdL s).kids.length tc]] wu fun e w' => e = .returned (.tuple #[St s, .int .i64 0]) ∧ Below wu.heap.size wu w') := hid (by
                have h := write_any 65 (rdL s) (.slice ta (rdL s).kids.length tc) wu HX.out.2 (HP.out wu HBU.out)
                unfold wrRes at h
                rw [if_pos HRS.out.1, ← HRS.out.2] at h
                exact h)
              subst hwu
              go_wp2_with fail
              refine HW8.out.mono ?_
              rintro e wv ⟨rfl, hbv⟩
              have HBV := hid (HBU.out.trans (hbv.mono HBU.out.size))
              have HXV := hid (HX.out.low hbv)
              clear hbv HW8 t0 t1 t2 t3
              obtain ⟨t0, t1, t2, t3⟩ := HXV.out.cells
              have HRT : Hid (Calls Tryz.prog 10 #[.agg #[.int .u8 ((rdL s).kind : Int), St (rdL s).term, .int .i64 (rdL s).n, .slice ta (rdL s).kids.length tc]] wv fun e w' => e = .returned (.bool true) ∧ Below wv.heap.size wv w') := hid (by
                have h := lright_any 65 (rdL s) (.slice ta (rdL s).kids.length tc) wv HXV.out.2
                rw [HRS.out.1] at h
                exact h)
              go_wp2_with fail
              refine HRT.out.mono ?_
              rintro e wx ⟨rfl, hbx⟩
              have HWX := hid (HWK.out wx (HBV.out.trans (hbx.mono HBV.out.size)))
              clear hbx HRT t0 t1 t2 t3
              go_wp2_with fail
              refine HWX.out.mono ?_
              rintro e wz ⟨rfl, hz⟩
              have HZ := hid hz
              clear hz
              go_wp2_with fail
              go_ret
              exact ⟨rfl, HZ.out⟩
            · rw [hE] at HT8
              go_wp2_with fail
              refine HT8.out.mono ?_
              rintro e wt ⟨⟨ta, tc, rfl, hx⟩, hb⟩
              have HBT := hid (HD7.out.trans (hb.mono HD7.out.size))
              have HWX := hid (HWK.out _ (HBT.out.trans ((below_al wt (.cells #[.int .u8 ((rdL s).kind : Int), St (rdL s).term, .int .i64 (rdL s).n, .slice ta (rdL s).kids.length tc] 25)).mono HBT.out.size)))
              clear hb hx HT8 HST
              go_wp2_with fail
              refine HWX.out.mono ?_
              rintro e wz ⟨rfl, hz⟩
              have HZ := hid hz
              clear hz
              go_wp2_with fail
              go_ret
              exact ⟨rfl, HZ.out⟩
          | true =>
            have e1 := HRB.out hrb
            have HEE := hid (HEQ2.out hrb)
            have H5S := hid (H5.out w7 HD7.out)
            rw [e1]
            clear e1 HRB HRM HEQ2 hrb
            generalize Lk.wr lb = xb at *
            generalize Lk.same la lb = sm at *
            have hee := HEE.out
            go_wp2_with fail
            refine H5S.out.mono ?_
            rintro e w8 ⟨rfl, hb8⟩
            have HD8 := hid hb8
            clear hb8 H5S q0 q1 q2 q3 r0 r1 r2 r3
            have HT8 := hid (read_box s w8 HS.out)
            have HST := hid (rd_some (s := s))
            rcases rdE_two s with hE | hE
            · have HRS := hid (HST.out hE)
              rw [hE] at HT8
              go_wp2_with fail
              refine HT8.out.mono ?_
              rintro e wt ⟨⟨ta, tc, rfl, hx⟩, hb⟩
              have HBT := hid (HD8.out.trans (hb.mono HD8.out.size))
              obtain ⟨wu, hwu⟩ : ∃ wu, wu = wt.alloc (.cells #[.int .u8 ((rdL s).kind : Int), St (rdL s).term, .int .i64 (rdL s).n, .slice ta (rdL s).kids.length tc] 25) := ⟨_, rfl⟩
              have hbu : Below wt.heap.size wt wu := hwu ▸ below_al wt _
              rw [← hwu] at hx
              have HBU := hid (HBT.out.trans (hbu.mono HBT.out.size))
              have HX := hid hx
              obtain ⟨t0, t1, t2, t3⟩ := hx.cells
              clear hb hx hbu HT8 HST
              have HW8 : Hid (Calls Tryz.prog 8 #[.agg #[.int .u8 ((rdL s).kind : Int), St (rdL s).term, .int .i64 (rdL s).n, .slice ta (rdL s).kids.length tc]] wu fun e w' => e = .returned (.tuple #[St s, .int .i64 0]) ∧ Below wu.heap.size wu w') := hid (by
                have h := write_any 65 (rdL s) (.slice ta (rdL s).kids.length tc) wu HX.out.2 (HP.out wu HBU.out)
                unfold wrRes at h
                rw [if_pos HRS.out.1, ← HRS.out.2] at h
                exact h)
              subst hwu
              go_wp2_with fail
              refine HW8.out.mono ?_
              rintro e wv ⟨rfl, hbv⟩
              have HBV := hid (HBU.out.trans (hbv.mono HBU.out.size))
              have HXV := hid (HX.out.low hbv)
              clear hbv HW8 t0 t1 t2 t3
              obtain ⟨t0, t1, t2, t3⟩ := HXV.out.cells
              have HRT : Hid (Calls Tryz.prog 10 #[.agg #[.int .u8 ((rdL s).kind : Int), St (rdL s).term, .int .i64 (rdL s).n, .slice ta (rdL s).kids.length tc]] wv fun e w' => e = .returned (.bool true) ∧ Below wv.heap.size wv w') := hid (by
                have h := lright_any 65 (rdL s) (.slice ta (rdL s).kids.length tc) wv HXV.out.2
                rw [HRS.out.1] at h
                exact h)
              go_wp2_with fail
              refine HRT.out.mono ?_
              rintro e wx ⟨rfl, hbx⟩
              have HWX := hid (HWK.out wx (HBV.out.trans (hbx.mono HBV.out.size)))
              clear hbx HRT t0 t1 t2 t3
              go_wp2_with fail
              refine HWX.out.mono ?_
              rintro e wz ⟨rfl, hz⟩
              have HZ := hid hz
              clear hz
              go_wp2_with fail
              go_ret
              exact ⟨rfl, HZ.out⟩
            · rw [hE] at HT8
              go_wp2_with fail
              refine HT8.out.mono ?_
              rintro e wt ⟨⟨ta, tc, rfl, hx⟩, hb⟩
              have HBT := hid (HD8.out.trans (hb.mono HD8.out.size))
              have HWX := hid (HWK.out _ (HBT.out.trans ((below_al wt (.cells #[.int .u8 ((rdL s).kind : Int), St (rdL s).term, .int .i64 (rdL s).n, .slice ta (rdL s).kids.length tc] 25)).mono HBT.out.size)))
              clear hb hx HT8 HST
              go_wp2_with fail
              refine HWX.out.mono ?_
              rintro e wz ⟨rfl, hz⟩
              have HZ := hid hz
              clear hz
              go_wp2_with fail
              go_ret
              exact ⟨rfl, HZ.out⟩
end Go.Proofs.YtdllpklecdmghaaGreatDoor
/- LockMore: what is asked of locks that open, and of two put together. -/
namespace Go.Proofs.YtdllpklecdmghaaGreatDoor
open Go.RowKit
open Lk (Lt Sp)
namespace Lk
theorem greats_ge (top : Nat) : ∀ (ks : List Lt) (n : Nat), n ≤ greats top n ks
  | [], n => Nat.le_refl n
  | x :: ks, n => by
    rw [greats]
    split
    · exact Nat.le_trans (Nat.le_add_right _ _) (greats_ge top ks _)
    · exact Nat.le_refl n
theorem great_pos (top : Nat) (l : Lt) : 1 ≤ great top l := by
  cases l with
  | mk k t n ks =>
    rw [great]
    have := greats_ge top ks (1 + t.length / 64)
    omega
theorem greats_all (top : Nat) : ∀ (ks : List Lt) (n : Nat), greats top n ks ≤ top → n + ks.length ≤ top ∧ ∀ x ∈ ks, great top x ≤ top
  | [], n, h => ⟨by simpa [greats] using h, fun x hx => by cases hx⟩
  | y :: ks, n, h => by
    rw [greats] at h
    split at h
    · obtain ⟨h1, h2⟩ := greats_all top ks _ h
      have h3 := great_pos top y
      refine ⟨by rw [List.length_cons]; omega, fun x hx => ?_⟩
      rcases List.mem_cons.1 hx with rfl | hx
      · omega
      · exact h2 x hx
    · omega
theorem greats_size (top : Nat) : ∀ (ks : List Lt) (n : Nat), greats top n ks ≤ top → (∀ x ∈ ks, great top x ≤ top → size x ≤ great top x) → n + sizes ks ≤ greats top n ks
  | [], n, h, _ => by simp [greats, sizes]
  | y :: ks, n, h, hs => by
    obtain ⟨_, hm⟩ := greats_all top (y :: ks) n h
    rw [greats] at h ⊢
    split at h
    · rename_i hn
      rw [if_pos hn, sizes]
      have h1 := greats_size top ks _ h (fun x hx => hs x (by simp [hx]))
      have h2 := hs y (by simp) (hm y (by simp))
      omega
    · omega
theorem great_size (top : Nat) : ∀ (l : Lt), great top l ≤ top → size l ≤ great top l := by
  intro l
  induction l using Lt.ind with
  | h k t n ks ih =>
    intro h
    rw [great] at h ⊢
    have h1 := greats_size top ks (1 + t.length / 64) (by omega) ih
    rw [size]
    omega
theorem great_small {top : Nat} (ht : top ≤ 300) : ∀ (l : Lt), great top l ≤ top → small l = true := by
  intro l
  induction l using Lt.ind with
  | h k t n ks ih =>
    intro h
    rw [great] at h
    have h1 : greats top (1 + t.length / 64) ks ≤ top := by omega
    obtain ⟨h2, h3⟩ := greats_all top ks _ h1
    have hs : ∀ ms : List Lt, (∀ x ∈ ms, x ∈ ks) → smalls ms = true := by
      intro ms
      induction ms with
      | nil => intro _; rfl
      | cons x ms ihm =>
        intro hm
        rw [smalls, ih x (hm x (by simp)) (h3 x (hm x (by simp))), ihm (fun y hy => hm y (by simp [hy]))]
        rfl
    have h4 := greats_size top ks _ h1 (fun x _ => great_size top x)
    rw [small, hs ks (fun _ h => h), decide_eq_true (show t.length ≤ 20000 by omega), decide_eq_true (show ks.length ≤ 1000000 by omega), decide_eq_true (show sizes ks ≤ 60000 by omega)]
    rfl
theorem any_sub {P : Bs → Bool} {a b : List Bs} (h : ∀ x ∈ a, x ∈ b) (ha : a.any P = true) : b.any P = true := by
  obtain ⟨x, hx, hp⟩ := List.any_eq_true.1 ha
  exact List.any_eq_true.2 ⟨x, h x hx, hp⟩
theorem opn_more {ver : Bs → Bs → Bs → Bool} {s s' : Sp} (h1 : ∀ x ∈ s.sigs, x ∈ s'.sigs) (h2 : ∀ x ∈ s.pres, x ∈ s'.pres) (h3 : s'.msg = s.msg) (h4 : s.after ≤ s'.after) (h5 : s.age ≤ s'.age) : ∀ (l : Lt), opn ver s l = true → opn ver s' l = true := by
  intro l
  induction l using Lt.ind with
  | h k t n ks ih =>
    intro h
    rw [opn] at h ⊢
    by_cases k1 : k = 1
    · rw [if_pos k1] at h ⊢
      rw [h3]
      exact any_sub h1 h
    · rw [if_neg k1] at h ⊢
      by_cases k2 : k = 2
      · rw [if_pos k2] at h ⊢
        exact any_sub h2 h
      · rw [if_neg k2] at h ⊢
        by_cases k3 : k = 3
        · rw [if_pos k3] at h ⊢
          have := of_decide_eq_true h
          exact decide_eq_true (by omega)
        · rw [if_neg k3] at h ⊢
          by_cases k4 : k = 4
          · rw [if_pos k4] at h ⊢
            have := of_decide_eq_true h
            exact decide_eq_true (by omega)
          · rw [if_neg k4] at h ⊢
            by_cases k5 : k = 5
            · rw [if_pos k5] at h ⊢
              have hs : ∀ ms : List Lt, (∀ x ∈ ms, x ∈ ks) → opnAll ver s ms = true → opnAll ver s' ms = true := by
                intro ms
                induction ms with
                | nil => intro _ _; rfl
                | cons x ms ihm =>
                  intro hm ho
                  rw [opnAll, Bool.and_eq_true] at ho ⊢
                  exact ⟨ih x (hm x (by simp)) ho.1, ihm (fun y hy => hm y (by simp [hy])) ho.2⟩
              exact hs ks (fun _ h => h) h
            · rw [if_neg k5] at h ⊢
              have hs : ∀ ms : List Lt, (∀ x ∈ ms, x ∈ ks) → opnAny ver s ms = true → opnAny ver s' ms = true := by
                intro ms
                induction ms with
                | nil => intro _ ho; exact ho
                | cons x ms ihm =>
                  intro hm ho
                  rw [opnAny, Bool.or_eq_true] at ho ⊢
                  rcases ho with ho | ho
                  · exact .inl (ih x (hm x (by simp)) ho)
                  · exact .inr (ihm (fun y hy => hm y (by simp [hy])) ho)
              exact hs ks (fun _ h => h) h
theorem fit_pair (k : Nat) (hk : k = 5 ∨ k = 6) (a b : Lt) : fit (.mk k [] 0 [a, b]) = true := by
  rcases hk with rfl | rfl <;> rfl
theorem right_pair (a b : Lt) : right (.mk 5 [] 0 [a, b]) = right (.mk 6 [] 0 [a, b]) := by
  rw [Bool.eq_iff_iff, right_is, right_is, ok, ok, fit_pair 5 (.inl rfl), fit_pair 6 (.inr rfl), size, size]
theorem right_of_pair {a b : Lt} (h : right (.mk 5 [] 0 [a, b]) = true) : right a = true ∧ right b = true := by
  rw [right_is, ok, fit_pair 5 (.inl rfl), oks, oks, oks, size, sizes, sizes, sizes] at h
  simp only [Bool.true_and, Bool.and_true, Bool.and_eq_true] at h
  exact ⟨(right_is a).2 ⟨h.1.1, by omega⟩, (right_is b).2 ⟨h.1.2, by omega⟩⟩
end Lk
theorem op_pair {a b : Lt} (s : Sp) (h : Lk.right (.mk 5 [] 0 [a, b]) = true) : opRes (.mk 5 [] 0 [a, b]) s = (opRes a s && opRes b s) ∧ opRes (.mk 6 [] 0 [a, b]) s = (opRes a s || opRes b s) := by
  obtain ⟨h1, h2⟩ := Lk.right_of_pair h
  have h6 := h
  rw [Lk.right_pair] at h6
  unfold opRes
  rw [h, h6, h1, h2, Lk.opn, Lk.opn, if_neg (by decide), if_neg (by decide), if_neg (by decide), if_neg (by decide), if_pos rfl, if_neg (by decide), if_neg (by decide), if_neg (by decide), if_neg (by decide), if_neg (by decide), Lk.opnAll, Lk.opnAll, Lk.opnAll, Lk.opnAny, Lk.opnAny, Lk.opnAny]
  generalize decide (s.sigs.length ≤ 16) = x
  generalize decide (s.pres.length ≤ 16) = y
  generalize Lk.opn verifyRes s a = p
  generalize Lk.opn verifyRes s b = q
  cases x <;> cases y <;> cases p <;> cases q <;> exact ⟨rfl, rfl⟩
theorem op_more {l : Lt} {sg pr : List Bs} {msg m : Bs} {af ag lt : Int} (hl : 0 ≤ lt) (h : opRes l ⟨sg, pr, msg, af, ag⟩ = true) (h1 : sg.length + 1 ≤ 16) (h2 : pr.length + 1 ≤ 16) : opRes l ⟨sg ++ [m], pr ++ [m], msg, af + lt, ag + lt⟩ = true := by
  unfold opRes at h ⊢
  simp only [Bool.and_eq_true, decide_eq_true_iff] at h ⊢
  refine ⟨⟨⟨h.1.1.1, by simpa using h1⟩, by simpa using h2⟩, Lk.opn_more (s := ⟨sg, pr, msg, af, ag⟩) (s' := ⟨sg ++ [m], pr ++ [m], msg, af + lt, ag + lt⟩) (fun x hx => by simp [show x ∈ sg from hx]) (fun x hx => by simp [show x ∈ pr from hx]) rfl (by show af ≤ af + lt; omega) (by show ag ≤ ag + lt; omega) l h.2⟩
end Go.Proofs.YtdllpklecdmghaaGreatDoor
