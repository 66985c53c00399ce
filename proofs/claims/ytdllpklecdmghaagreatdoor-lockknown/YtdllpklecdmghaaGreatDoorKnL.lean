/- LockKnown: the law, from its start. -/
import Derived.Test.YtdllpklecdmghaaGreatDoorKnM
import Derived.Sort.AtCall
namespace Go.Proofs.YtdllpklecdmghaaGreatDoor
open Go.RowKit
open Lk (Lt)
set_option maxRecDepth 100000 in
set_option maxHeartbeats 32000000 in
theorem known_any (w : World) (hp : Pw w) : Calls Tryz.prog 6 #[] w fun e w' => e = .returned (.bool true) ∧ Below w.heap.size w w' := by
  have HA : Hid (Calls Tryz.prog 22 #[.int .i64 7] w fun e w' => e = .returned (.agg #[.int .u8 3, St [], .int .i64 7, .slice none 0 0]) ∧ Below w.heap.size w w') := hid (mk_after 7 w)
  have HP := hid hp
  clear hp
  go_enter Tryz.func6, Tryz.ntmps6
  go_wp2_with fail
  refine HA.out.mono ?_
  rintro e w1 ⟨rfl, hb⟩
  obtain ⟨lb, hlb⟩ : ∃ lb, lb = w1.heap.size := ⟨_, rfl⟩
  obtain ⟨w2, hw2⟩ : ∃ w2, w2 = w1.alloc (.cells #[.int .u8 3, St [], .int .i64 7, .slice none 0 0] 25) := ⟨_, rfl⟩
  have HB2 := hid (show Below w.heap.size w w2 by rw [hw2]; exact hb.trans ((below_al _ _).mono hb.size))
  have HX2 := hid (show w2.heap[lb]? = some (.cells #[.int .u8 3, St [], .int .i64 7, .slice none 0 0] 25 (0, 0)) by rw [hw2, hlb]; exact heap_alloc_new w1 _)
  have HLB0 := hid (show w.heap.size ≤ lb by rw [hlb]; exact hb.size)
  clear hb HA
  go_wp2_with fail
  rw [← hw2, ← hlb]
  clear hw2 hlb
  go_loopg [2, 3] 9 (fun gg v2 v3 wr => ∃ (i : Nat) (xs : List Value), gg = 9 - i ∧ i ≤ 9 ∧ v3 = .int .i64 (i : Int) ∧ xs = rcs (List.replicate i (aft7, .slice none 0 0)) ∧ wr.ownsRow (lb + 1) 25 4 v2 i xs ∧ Below (lb + 1) w2 wr)
  case atStart => exact ⟨0, [], rfl, Nat.zero_le _, rfl, rfl, World.ownsRow_nil _ _ _ _, Below.refl _ _⟩
  case round =>
    obtain ⟨i, xs, rfl, hi, rfl, hxs, hrow, hbw⟩ := hrel
    by_cases him : i < 9
    · have hbx := (hbw.block _ (Nat.lt_succ_self lb)).trans HX2.out
      have b0 := (cell_of_heap hbx 0).trans (rfl : _ = some (Value.int .u8 3))
      have b1 := (cell_of_heap hbx 1).trans (rfl : _ = some (St []))
      have b2 := (cell_of_heap hbx 2).trans (rfl : _ = some (Value.int .i64 7))
      have b3 := (cell_of_heap hbx 3).trans (rfl : _ = some (Value.slice none 0 0))
      obtain ⟨ao, cap, w4, hrun, hr4, hb4⟩ := nine_put hrow (lcs aft7 (.slice none 0 0)) rfl (by intro u hu; simp [lcs, aft7] at hu; rcases hu with rfl | rfl | rfl | rfl <;> rfl) (lt_of_heap hbx) (by omega)
      have HRUN := hid hrun
      have HR4 := hid hr4
      have HB4 := hid (hbw.trans hb4)
      have HXS := hid hxs
      have HI := hid him
      have hii : (i : Int) < 9 := by omega
      clear hrow hbw hbx hrun hr4 hb4 hxs hi
      go_wp2_with (first | (at_builtin; refine wpList_append_run rfl (.tmp 22) (.tmp 24) 23 23 rfl _ _ (.slice ao (i + 1) cap) w4 rfl rfl HRUN.out ?_) | fail)
      go_roundg (9 - (i + 1))
      case measure => have := HI.out; omega
      case rel => exact ⟨i + 1, _, rfl, HI.out, by simp, by rw [HXS.out, List.replicate_succ']; exact (rcs_snoc _ (aft7, .slice none 0 0)).symm, HR4.out, HB4.out⟩
    · have hie : i = 9 := by omega
      subst hie
      subst hxs
      obtain ⟨g9, c9, rfl, hg9, hgs, hc9, hcm, hkd⟩ := nine_kd hrow (by decide)
      have HK := hid hkd
      have HBW := hid hbw
      have HG := hid (And.intro hg9 (And.intro hgs (And.intro hc9 hcm)))
      have HW : Hid (Calls Tryz.prog 23 #[.slice (some ⟨g9, 0, none⟩) 8 c9] wr fun e w' => ∃ a c, e = .returned (.agg #[.int .u8 5, St [], .int .i64 0, .slice a 8 c]) ∧ Kd (fun g => wr.heap.size + 1 ≤ g) w' 1 (.slice a 8 c) (List.replicate 8 aft7) ∧ Below wr.heap.size wr w') := hid ((mk_all 1 _ (List.replicate 8 aft7) wr (hkd 8 (by decide) (by decide) c9) (by decide) (by decide)).mono (fun e w' ⟨v', h1, h2, h3⟩ => by
        obtain ⟨_, a, c, rfl⟩ := h2.shape
        exact ⟨a, c, h1, h2, h3⟩))
      have HL1 : Hid (lb < wr.heap.size) := hid (lt_of_heap ((hbw.block _ (Nat.lt_succ_self lb)).trans HX2.out))
      clear hrow hkd hbw hi
      clear hg9 hgs
      go_wp2_with fail
      refine HW.out.mono ?_
      rintro e w3 ⟨a3, c3, rfl, hk3, hb3⟩
      obtain ⟨wb, hwb⟩ : ∃ wb, wb = w3.heap.size := ⟨_, rfl⟩
      obtain ⟨w4, hw4⟩ : ∃ w4, w4 = w3.alloc (.cells #[.int .u8 5, St [], .int .i64 0, .slice a3 8 c3] 25) := ⟨_, rfl⟩
      have HB4 := hid (show Below wr.heap.size wr w4 by rw [hw4]; exact hb3.trans ((below_al _ _).mono hb3.size))
      have HX4 := hid (show w4.heap[wb]? = some (.cells #[.int .u8 5, St [], .int .i64 0, .slice a3 8 c3] 25 (0, 0)) by rw [hw4, hwb]; exact heap_alloc_new w3 _)
      have HK4 := hid (show Kd (fun g => lb < g) w4 1 (.slice a3 8 c3) (List.replicate 8 aft7) by rw [hw4]; exact (hk3.low (below_al _ _)).base (fun g hg => by have := HL1.out; omega))
      clear HW hb3 hk3
      go_wp2_with fail
      rw [← hw4, ← hwb]
      clear hw4 hwb
      have hx4 : Below (lb + 1) w2 w4 := HBW.out.trans (HB4.out.mono (by have := HL1.out; omega))
      refine reg8 (lb := lb) (wb := wb) (g9 := g9) (c9 := c9) (a3 := a3) (c3 := c3) ⟨rfl, rfl, rfl, (hx4.block _ (Nat.lt_succ_self lb)).trans HX2.out, HX4.out, HK4.out.base (fun _ _ => trivial), fun k hk c => ((HK.out k hk (by omega) c).low HB4.out).base (fun _ _ => trivial), HG.out.2.2.1⟩ (by show (118 : Nat) ≤ 323; decide) ?_
      intro a8 w8 ho8 hb8 hr8
      obtain ⟨s, hs5, ha8⟩ := act_lit a8 (by rw [ho8.size]; rfl)
      rw [show a8.defers = [] from ho8.defers] at ha8
      obtain ⟨KS, hKS, hlen, av, cv, hv5, hcv⟩ : ∃ KS : List Lt, RowV KS (s 5) w8 ∧ KS.length = 37 ∧ ∃ a c, s 5 = .slice a 37 c ∧ 37 ≤ c := by rw [hs5]; exact ⟨_, hr8.1, rfl, hr8.2⟩
      have HB8 : Hid (Below w.heap.size w w8) := hid (by
        have q1 := HB2.out
        have q2 := hx4.mono (Nat.le_succ_of_le HLB0.out)
        have q3 := q1.trans q2
        exact q3.trans (hb8.mono q3.size))
      clear hs5 hr8 ho8
      subst ha8
      obtain ⟨g, o, c, e5, hg, hk37, hlk⟩ := row_locks hKS (by omega)
      rw [hlen] at e5 hk37 hlk
      obtain rfl : cv = c := by rw [e5] at hv5; injection hv5 with _ _ q; exact q.symm
      have HCV := hid hcv
      have HLEN := hid hlen
      rw [e5]
      clear e5 hv5 hcv hlen hKS
      clear HX2 HB2 HK HBW HG HL1 HB4 HX4 HK4 hx4 hb8
      go_wp2_with fail
      generalize hW9 : World.alloc _ (.cells #[.slice (some ⟨w8.heap.size, 0, none⟩) 3 3, .slice (some ⟨w8.heap.size + 1, 0, none⟩) 3 3] 40) = W9
      have hb9 : Below w8.heap.size w8 W9 := by rw [← hW9]; exact (((Below.refl _ w8).alloc (Nat.le_refl _) _).alloc (by simp) _).alloc (by simp; omega) _
      have HB9 : Hid (Below w.heap.size w W9) := hid (HB8.out.trans (hb9.mono HB8.out.size))
      have HPW : Hid (∀ W, Below W9.heap.size W9 W → Pw W) := hid (fun W hW => HP.out.below (HB9.out.trans (hW.mono HB9.out.size)))
      have HLK : Hid (∀ i, i < 37 → ∃ (x : Lt) (a : Option Addr) (c d : Nat), Lr x ∧ ∀ W, Below W9.heap.size W9 W → LkAt W g (o + i * 4) x a x.kids.length c ∧ Kd (fun k => k < w8.heap.size) W d (.slice a x.kids.length c) x.kids) := hid (fun i hi => by
        obtain ⟨x, a, c, d, h1, h2⟩ := hlk i hi
        exact ⟨x, a, c, d, h1, fun W hW => h2 W (hb9.trans (hW.mono hb9.size))⟩)
      have HMK : Hid (∀ (t : Bs) (n : Int) (m : Nat), m ≤ 9 → t.length ≤ 140737488355328 → ∀ W, Below W9.heap.size W9 W → Calls Tryz.prog 29 #[St t, .int .i64 n, .slice (some ⟨g, o, none⟩) m cv] W fun e w' => e = .returned (.bool true) ∧ Below W.heap.size W w') := hid (fun t n m hm ht W hW => by
        obtain ⟨d, hk⟩ := hk37
        have hlt : m ≤ KS.length := by rw [HLEN.out]; omega
        have h1 := (hk.take m hlt cv).low (hb9.trans (hW.mono hb9.size))
        have h2 : (KS.take m).length = m := by rw [List.length_take]; omega
        have := makes_any t n (KS.take m) (some ⟨g, o, none⟩) cv (d + 1) W (HPW.out W hW) (by rw [h2]; exact h1) ht
        rwa [h2] at this)
      have HTW : Hid (∀ W, Below W9.heap.size W9 W → W.cell? ⟨w8.heap.size + 2, 0, none⟩ = some (.slice (some ⟨w8.heap.size, 0, none⟩) 3 3) ∧ W.cell? ⟨w8.heap.size + 2, 1, none⟩ = some (.slice (some ⟨w8.heap.size + 1, 0, none⟩) 3 3) ∧
          Texts W (.slice (some ⟨w8.heap.size, 0, none⟩) 3 3) [[83, 110, 49, 59, 116, 49, 58, 120], [110, 49, 59], [83, 110, 50, 59, 116, 49, 58, 120]] ∧ Texts W (.slice (some ⟨w8.heap.size + 1, 0, none⟩) 3 3) [[110, 50, 59], [110, 49, 59], []]) := hid (fun W hW => by
        have hz : W9.heap.size = w8.heap.size + 3 := by rw [← hW9]; simp
        have b0 : W9.heap[w8.heap.size]? = some (.cells #[St [83, 110, 49, 59, 116, 49, 58, 120], St [110, 49, 59], St [83, 110, 50, 59, 116, 49, 58, 120]] 22 (0, 0)) := by
          rw [← hW9, Below.heap_alloc _ _ _ (by simp; omega), Below.heap_alloc _ _ _ (by simp)]; exact heap_alloc_new w8 _
        have b1 : W9.heap[w8.heap.size + 1]? = some (.cells #[St [110, 50, 59], St [110, 49, 59], St []] 22 (0, 0)) := by
          rw [← hW9, Below.heap_alloc _ _ _ (by simp)]
          have := heap_alloc_new (w8.alloc (.cells #[St [83, 110, 49, 59, 116, 49, 58, 120], St [110, 49, 59], St [83, 110, 50, 59, 116, 49, 58, 120]] 22)) (.cells #[St [110, 50, 59], St [110, 49, 59], St []] 22)
          simpa using this
        have b2 : W9.heap[w8.heap.size + 2]? = some (.cells #[.slice (some ⟨w8.heap.size, 0, none⟩) 3 3, .slice (some ⟨w8.heap.size + 1, 0, none⟩) 3 3] 40 (0, 0)) := by
          rw [← hW9]
          have := heap_alloc_new ((w8.alloc (.cells #[St [83, 110, 49, 59, 116, 49, 58, 120], St [110, 49, 59], St [83, 110, 50, 59, 116, 49, 58, 120]] 22)).alloc (.cells #[St [110, 50, 59], St [110, 49, 59], St []] 22)) (.cells #[.slice (some ⟨w8.heap.size, 0, none⟩) 3 3, .slice (some ⟨w8.heap.size + 1, 0, none⟩) 3 3] 40)
          simpa using this
        have c0 := (hW.block _ (by omega)).trans b0
        have c1 := (hW.block _ (by omega)).trans b1
        have c2 := (hW.block _ (by omega)).trans b2
        refine ⟨(cell_of_heap c2 0).trans rfl, (cell_of_heap c2 1).trans rfl, ⟨_, _, rfl, fun _ => ⟨w8.heap.size, 0, rfl, lt_of_heap c0, fun i hi => ?_⟩⟩, ⟨_, _, rfl, fun _ => ⟨w8.heap.size + 1, 0, rfl, lt_of_heap c1, fun i hi => ?_⟩⟩⟩
        · rw [Nat.zero_add, cell_of_heap c0]
          match i, hi with
          | 0, _ => rfl
          | 1, _ => rfl
          | 2, _ => rfl
        · rw [Nat.zero_add, cell_of_heap c1]
          match i, hi with
          | 0, _ => rfl
          | 1, _ => rfl
          | 2, _ => rfl)
      clear hW9 hb9 hlk hk37 hg HP
      generalize w8.heap.size = z8 at *
      rename_i hk
      have HREST := hid (fun (a : Act) (V : World) (q1 : a.tmps.size = 323) (q2 : a.defers = []) (q3 : Below W9.heap.size W9 V) => hk a V (rest_any a q1 q2 w W9 V HB9 HPW (hid q3)))
      clear hk
      go_loopg [7, 8, 9, 10, 11] 37 (fun gg v7 v8 v9 v10 v11 wr => ∃ i : Nat, gg = 37 - i ∧ i ≤ 37 ∧ v7 = .int .i64 (i : Int) ∧ Below W9.heap.size W9 wr)
      case atStart => exact ⟨0, rfl, by omega, rfl, Below.refl _ _⟩
      case round =>
        obtain ⟨i, rfl, hi, rfl, hbi⟩ := hrel
        by_cases hi37 : i < 37
        · have HI := hid hi37
          obtain ⟨x, ax, cx, dx, hxr, hxl⟩ := HLK.out i hi37
          obtain ⟨j, hj⟩ : ∃ j, j = (i + 3) % 37 := ⟨_, rfl⟩
          have hj37 : j < 37 := by rw [hj]; exact Nat.mod_lt _ (by omega)
          obtain ⟨y, ay, cy, dy, hyr, hyl⟩ := HLK.out j hj37
          obtain ⟨m, hm⟩ : ∃ m, m = min i 9 := ⟨_, rfl⟩
          have hmin : min (i : Int) 9 = (m : Int) := by rw [hm]; omega
          have hmc : (m : Int) ≤ (cv : Int) := by have := HCV.out; omega
          have hm0 : (0 : Int) ≤ (m : Int) := Int.natCast_nonneg _
          have hlt : (i : Int) < 37 := by omega
          have hi0 : (0 : Int) ≤ (i : Int) := Int.natCast_nonneg _
          have hj0 : (0 : Int) ≤ (j : Int) := Int.natCast_nonneg _
          have hjl : (j : Int) < 37 := by omega
          have hw1 : IntKind.i64.wrap ((i : Int) + 3) = (i : Int) + 3 := by rw [IntKind.wrap_i64]; omega
          have htm : ((i : Int) + 3).tmod 37 = (j : Int) := by rw [Int.tmod_eq_emod_of_nonneg (by omega)]; omega
          have hw2 : IntKind.i64.wrap (j : Int) = (j : Int) := by rw [IntKind.wrap_i64]; omega
          have H3 : Hid (∀ W, Below wr.heap.size wr W → Calls Tryz.prog 3 #[.agg #[.int .u8 (x.kind : Int), St x.term, .int .i64 x.n, .slice ax x.kids.length cx]] W fun e w' => e = .returned (.bool true) ∧ Below wr.heap.size wr w') := hid (fun W hW => (writes_any x ax cx dx W (HPW.out W (hbi.trans (hW.mono hbi.size))) (hxl W (hbi.trans (hW.mono hbi.size))).2 hxr).mono (fun e w' ⟨q1, q2⟩ => ⟨q1, hW.trans (q2.mono hW.size)⟩))
          have H29 : Hid (∀ W, Below wr.heap.size wr W → Calls Tryz.prog 29 #[.string ⟨#[80, 110, 49, 59]⟩, .int .i64 (i : Int), .slice (some ⟨g, o, none⟩) m cv] W fun e w' => e = .returned (.bool true) ∧ Below wr.heap.size wr w') := hid (fun W hW => (HMK.out [80, 110, 49, 59] i m (by omega) (by simp) W (hbi.trans (hW.mono hbi.size))).mono (fun e w' ⟨q1, q2⟩ => ⟨q1, hW.trans (q2.mono hW.size)⟩))
          have H30 : Hid (∀ W, Below wr.heap.size wr W → Calls Tryz.prog 30 #[.agg #[.int .u8 (x.kind : Int), St x.term, .int .i64 x.n, .slice ax x.kids.length cx], .agg #[.int .u8 (y.kind : Int), St y.term, .int .i64 y.n, .slice ay y.kids.length cy], .string ⟨#[]⟩] W fun e w' => e = .returned (.bool true) ∧ Below wr.heap.size wr w') := hid (fun W hW => (back_any x y ax ay cx cy dx dy [] W (HPW.out W (hbi.trans (hW.mono hbi.size))) (hxl W (hbi.trans (hW.mono hbi.size))).2 (hyl W (hbi.trans (hW.mono hbi.size))).2 hxr hyr (by simp)).mono (fun e w' ⟨q1, q2⟩ => ⟨q1, hW.trans (q2.mono hW.size)⟩))
          have HCC : Hid (∀ W, Below wr.heap.size wr W → (W.cell? ⟨g, o + i * 4, none⟩ = some (.int .u8 (x.kind : Int)) ∧ W.cell? ⟨g, o + i * 4 + 1, none⟩ = some (St x.term) ∧ W.cell? ⟨g, o + i * 4 + 2, none⟩ = some (.int .i64 x.n) ∧ W.cell? ⟨g, o + i * 4 + 3, none⟩ = some (.slice ax x.kids.length cx)) ∧
              W.cell? ⟨g, o + j * 4, none⟩ = some (.int .u8 (y.kind : Int)) ∧ W.cell? ⟨g, o + j * 4 + 1, none⟩ = some (St y.term) ∧ W.cell? ⟨g, o + j * 4 + 2, none⟩ = some (.int .i64 y.n) ∧ W.cell? ⟨g, o + j * 4 + 3, none⟩ = some (.slice ay y.kids.length cy)) := hid (fun W hW => ⟨(hxl W (hbi.trans (hW.mono hbi.size))).1, (hyl W (hbi.trans (hW.mono hbi.size))).1⟩)
          have hs0 := HCC.out wr (Below.refl _ _)
          have HBI := hid hbi
          have HXL := hid hxl
          have HXR := hid hxr
          clear hbi hi hi37 hj hj37 hm hxl hyl hxr hyr
          go_wp2_with fail
          go_region_held3 (fun W : World => (W.cell? ⟨g, o + i * 4, none⟩ = some (.int .u8 (x.kind : Int)) ∧ W.cell? ⟨g, o + i * 4 + 1, none⟩ = some (St x.term) ∧ W.cell? ⟨g, o + i * 4 + 2, none⟩ = some (.int .i64 x.n) ∧ W.cell? ⟨g, o + i * 4 + 3, none⟩ = some (.slice ax x.kids.length cx)) ∧
              W.cell? ⟨g, o + j * 4, none⟩ = some (.int .u8 (y.kind : Int)) ∧ W.cell? ⟨g, o + j * 4 + 1, none⟩ = some (St y.term) ∧ W.cell? ⟨g, o + j * 4 + 2, none⟩ = some (.int .i64 y.n) ∧ W.cell? ⟨g, o + j * 4 + 3, none⟩ = some (.slice ay y.kids.length cy)) (first | exact hs0 | exact HCC.out _ (below_dr _) | exact HCC.out _ HXa.out) (first | (go_at_call 3; refine (H3.out _ (by first | exact HXa.out | exact below_dr _)).mono ?_; rintro e xa ⟨rfl, hb⟩; have HXa := hid hb; clear hb) | (go_at_call 29; refine (H29.out _ (by first | exact HXa.out | exact below_dr _)).mono ?_; rintro e xa ⟨rfl, hb⟩; have HXa := hid hb; clear hb) | (go_at_call 30; refine (H30.out _ (by first | exact HXa.out | exact below_dr _)).mono ?_; rintro e xa ⟨rfl, hb⟩; have HXa := hid hb; clear hb))
          have HBX : Hid (Below W9.heap.size W9 xa) := hid (HBI.out.trans (HXa.out.mono HBI.out.size))
          clear hs0 H3 H29 H30 HCC HXa htm hw1 hw2 hjl hj0
          clear hmin hmc hm0
          go_wp2_with fail
          go_loopg [8] 5 (fun gg v8 wr => ∃ k : Nat, gg = 5 - k ∧ k ≤ 5 ∧ v8 = .int .i64 (2 * (k : Int)) ∧ Below W9.heap.size W9 wr)
          case atStart => exact ⟨0, rfl, by omega, rfl, HBX.out⟩
          case round =>
            obtain ⟨k, rfl, hk, rfl, hbk⟩ := hrel
            obtain ⟨N, hN⟩ : ∃ N : Int, N = 2 * (k : Int) := ⟨_, rfl⟩
            have HNK := hid hN
            rw [← hN]
            clear hN
            by_cases hk5 : k < 5
            · have HK5 := hid hk5
              have hn9 : N < 9 := by have := HNK.out; omega
              have hn0 : 0 ≤ N := by have := HNK.out; omega
              obtain ⟨j2, hj2⟩ : ∃ j2 : Nat, (j2 : Int) = ((i : Int) + N) % 37 := ⟨(((i : Int) + N) % 37).toNat, by have := HNK.out; omega⟩
              have hj37 : j2 < 37 := by omega
              obtain ⟨y2, ay2, cy2, dy2, hyr, hyl⟩ := HLK.out j2 hj37
              have hj0 : (0 : Int) ≤ (j2 : Int) := Int.natCast_nonneg _
              have hjl : (j2 : Int) < 37 := by omega
              have hw1 : IntKind.i64.wrap ((i : Int) + N) = (i : Int) + N := by rw [IntKind.wrap_i64]; omega
              have htm : ((i : Int) + N).tmod 37 = (j2 : Int) := by rw [Int.tmod_eq_emod_of_nonneg (by omega)]; exact hj2.symm
              have hw2 : IntKind.i64.wrap (j2 : Int) = (j2 : Int) := by rw [IntKind.wrap_i64]; omega
              have hw3 : IntKind.i64.wrap (8 - N) = 8 - N := by rw [IntKind.wrap_i64]; omega
              have hw4 : IntKind.i64.wrap (N + 2) = N + 2 := by rw [IntKind.wrap_i64]; omega
              have HLP := hid (fun W (hW : Below wr.heap.size wr W) => hbk.trans (hW.mono hbk.size))
              have H5w : Hid (∀ W, Below wr.heap.size wr W → Calls Tryz.prog 5 #[.agg #[.int .u8 (x.kind : Int), St x.term, .int .i64 x.n, .slice ax x.kids.length cx], .agg #[.slice (some ⟨z8, 0, none⟩) 3 3, .slice (some ⟨z8 + 1, 0, none⟩) 3 3], .string ⟨#[116, 49, 58, 120]⟩, .int .i64 N, .int .i64 (8 - N)] W fun e w' => e = .returned (.bool true) ∧ Below wr.heap.size wr w') := hid (fun W hW => (opensL_any x ⟨[[83, 110, 49, 59, 116, 49, 58, 120], [110, 49, 59], [83, 110, 50, 59, 116, 49, 58, 120]], [[110, 50, 59], [110, 49, 59], []], [116, 49, 58, 120], N, 8 - N⟩ ax (some ⟨z8, 0, none⟩) (some ⟨z8 + 1, 0, none⟩) cx 3 3 dx W (HPW.out W (HLP.out W hW)) (HXL.out W (HLP.out W hW)).2 HXR.out ⟨(HTW.out W (HLP.out W hW)).2.2.1, (HTW.out W (HLP.out W hW)).2.2.2, (show (3 : Nat) ≤ 140737488355328 by decide), (show (3 : Nat) ≤ 140737488355328 by decide)⟩ (show (4 : Nat) ≤ 140737488355328 by decide) (show ∀ x ∈ ([[83, 110, 49, 59, 116, 49, 58, 120], [110, 49, 59], [83, 110, 50, 59, 116, 49, 58, 120]] : List Bs), x.length ≤ 140737488355328 by decide) (show ∀ x ∈ ([[110, 50, 59], [110, 49, 59], []] : List Bs), x.length ≤ 140737488355328 by decide)).mono (fun e w' ⟨q1, q2⟩ => ⟨q1, hW.trans (q2.mono hW.size)⟩))
              have H5e : Hid (∀ W, Below wr.heap.size wr W → Calls Tryz.prog 5 #[.agg #[.int .u8 (x.kind : Int), St x.term, .int .i64 x.n, .slice ax x.kids.length cx], .agg #[.slice none 0 0, .slice none 0 0], .string ⟨#[116, 49, 58, 120]⟩, .int .i64 N, .int .i64 N] W fun e w' => e = .returned (.bool true) ∧ Below wr.heap.size wr w') := hid (fun W hW => (opensL_any x ⟨[], [], [116, 49, 58, 120], N, N⟩ ax none none cx 0 0 dx W (HPW.out W (HLP.out W hW)) (HXL.out W (HLP.out W hW)).2 HXR.out ⟨texts_nil W, texts_nil W, (show (0 : Nat) ≤ 140737488355328 by decide), (show (0 : Nat) ≤ 140737488355328 by decide)⟩ (show (4 : Nat) ≤ 140737488355328 by decide) (show ∀ x ∈ ([] : List Bs), x.length ≤ 140737488355328 by decide) (show ∀ x ∈ ([] : List Bs), x.length ≤ 140737488355328 by decide)).mono (fun e w' ⟨q1, q2⟩ => ⟨q1, hW.trans (q2.mono hW.size)⟩))
              have H31 : Hid (∀ W, Below wr.heap.size wr W → Calls Tryz.prog 31 #[.agg #[.int .u8 (x.kind : Int), St x.term, .int .i64 x.n, .slice ax x.kids.length cx], .agg #[.int .u8 (y2.kind : Int), St y2.term, .int .i64 y2.n, .slice ay2 y2.kids.length cy2], .agg #[.slice (some ⟨z8, 0, none⟩) 3 3, .slice (some ⟨z8 + 1, 0, none⟩) 3 3], .string ⟨#[116, 49, 58, 120]⟩, .string ⟨#[110, 51, 59]⟩, .int .i64 N, .int .i64 N, .int .i64 3] W fun e w' => e = .returned (.bool true) ∧ Below wr.heap.size wr w') := hid (fun W hW => (more_any x y2 ax ay2 cx cy2 dx dy2 [[83, 110, 49, 59, 116, 49, 58, 120], [110, 49, 59], [83, 110, 50, 59, 116, 49, 58, 120]] [[110, 50, 59], [110, 49, 59], []] (some ⟨z8, 0, none⟩) (some ⟨z8 + 1, 0, none⟩) 3 3 3 3 [116, 49, 58, 120] [110, 51, 59] N N 3 W (HPW.out W (HLP.out W hW)) (HXL.out W (HLP.out W hW)).2 (hyl W (HLP.out W hW)).2 HXR.out hyr rfl rfl (HTW.out W (HLP.out W hW)).2.2.1 (HTW.out W (HLP.out W hW)).2.2.2 (by decide) (by decide) (by decide) (by decide) (by decide) ⟨by omega, by omega⟩ ⟨by omega, by omega⟩).mono (fun e w' ⟨q1, q2⟩ => ⟨q1, hW.trans (q2.mono hW.size)⟩))
              have HCC : Hid (∀ W, Below wr.heap.size wr W → (W.cell? ⟨g, o + i * 4, none⟩ = some (.int .u8 (x.kind : Int)) ∧ W.cell? ⟨g, o + i * 4 + 1, none⟩ = some (St x.term) ∧ W.cell? ⟨g, o + i * 4 + 2, none⟩ = some (.int .i64 x.n) ∧ W.cell? ⟨g, o + i * 4 + 3, none⟩ = some (.slice ax x.kids.length cx)) ∧
                  (W.cell? ⟨g, o + j2 * 4, none⟩ = some (.int .u8 (y2.kind : Int)) ∧ W.cell? ⟨g, o + j2 * 4 + 1, none⟩ = some (St y2.term) ∧ W.cell? ⟨g, o + j2 * 4 + 2, none⟩ = some (.int .i64 y2.n) ∧ W.cell? ⟨g, o + j2 * 4 + 3, none⟩ = some (.slice ay2 y2.kids.length cy2)) ∧
                  W.cell? ⟨z8 + 1 + 1, 0, none⟩ = some (.slice (some ⟨z8, 0, none⟩) 3 3) ∧ W.cell? ⟨z8 + 1 + 1, 1, none⟩ = some (.slice (some ⟨z8 + 1, 0, none⟩) 3 3)) := hid (fun W hW => ⟨(HXL.out W (HLP.out W hW)).1, (hyl W (HLP.out W hW)).1, (HTW.out W (HLP.out W hW)).1, (HTW.out W (HLP.out W hW)).2.1⟩)
              have hs0 := HCC.out wr (Below.refl _ _)
              have HBK := hid hbk
              clear hbk hk hk5 hj2 hj37 hyr hyl
              go_wp2_with fail
              go_region_held3 (fun W : World => (W.cell? ⟨g, o + i * 4, none⟩ = some (.int .u8 (x.kind : Int)) ∧ W.cell? ⟨g, o + i * 4 + 1, none⟩ = some (St x.term) ∧ W.cell? ⟨g, o + i * 4 + 2, none⟩ = some (.int .i64 x.n) ∧ W.cell? ⟨g, o + i * 4 + 3, none⟩ = some (.slice ax x.kids.length cx)) ∧
                  (W.cell? ⟨g, o + j2 * 4, none⟩ = some (.int .u8 (y2.kind : Int)) ∧ W.cell? ⟨g, o + j2 * 4 + 1, none⟩ = some (St y2.term) ∧ W.cell? ⟨g, o + j2 * 4 + 2, none⟩ = some (.int .i64 y2.n) ∧ W.cell? ⟨g, o + j2 * 4 + 3, none⟩ = some (.slice ay2 y2.kids.length cy2)) ∧
                  W.cell? ⟨z8 + 1 + 1, 0, none⟩ = some (.slice (some ⟨z8, 0, none⟩) 3 3) ∧ W.cell? ⟨z8 + 1 + 1, 1, none⟩ = some (.slice (some ⟨z8 + 1, 0, none⟩) 3 3)) (first | exact hs0 | exact HCC.out _ (below_dr _) | exact HCC.out _ HXa.out) (first | (go_at_call_of 5 z8; refine (H5w.out _ (by first | exact HXa.out | exact below_dr _)).mono ?_; rintro e xa ⟨rfl, hb⟩; have HXa := hid hb; clear hb) | (go_at_call 5; refine (H5e.out _ (by first | exact HXa.out | exact below_dr _)).mono ?_; rintro e xa ⟨rfl, hb⟩; have HXa := hid hb; clear hb) | (go_at_call 31; refine (H31.out _ (by first | exact HXa.out | exact below_dr _)).mono ?_; rintro e xa ⟨rfl, hb⟩; have HXa := hid hb; clear hb))
              have HBN : Hid (Below W9.heap.size W9 xa) := hid (HBK.out.trans (HXa.out.mono HBK.out.size))
              clear hs0
              go_wp2_with fail
              go_roundg (5 - (k + 1))
              case measure => have := HK5.out; omega
              case rel => exact ⟨k + 1, rfl, HK5.out, by have := HNK.out; congr 1; omega, HBN.out⟩
            · have hn9 : ¬ N < 9 := by have := HNK.out; omega
              have HBK := hid hbk
              obtain ⟨⟨d0, d1, d2, d3⟩, hkd⟩ := HXL.out wr hbk
              obtain ⟨Bt, hBt⟩ : ∃ Bt : ByteArray, Bt = ⟨(wrRes x).1.toArray⟩ := ⟨_, rfl⟩
              obtain ⟨E, hE⟩ : ∃ E : Nat, E = (wrRes x).2 := ⟨_, rfl⟩
              have H8 : Hid (Calls Tryz.prog 8 #[.agg #[.int .u8 (x.kind : Int), St x.term, .int .i64 x.n, .slice ax x.kids.length cx]] wr fun e w' => e = .returned (.tuple #[.string Bt, .int .i64 (E : Int)]) ∧ Below wr.heap.size wr w') := hid (by rw [hBt, hE]; exact write_any dx x _ wr hkd (HPW.out wr hbk))
              have HBZ : Hid (Bt.size ≤ 1049600) := hid (by
                rw [hBt]
                show (wrRes x).1.toArray.size ≤ 1049600
                rw [List.size_toArray]
                unfold wrRes
                split
                · exact wr_right (by assumption)
                · simp)
              clear hbk hk hk5 hkd hBt hE
              go_wp2_with fail
              refine H8.out.mono ?_
              rintro e wb ⟨rfl, hb⟩
              have HBB := hid (HBK.out.trans (hb.mono HBK.out.size))
              have HRD : Hid (∀ (D : ByteArray), D.size ≤ 140737488355328 → ∀ W, Below W9.heap.size W9 W → Calls Tryz.prog 4 #[.string D] W fun e w' => e = .returned (.bool true) ∧ Below W.heap.size W w') := hid (fun D hD W hW => by
                have h1 := reads_any D.data.toList (by rw [Array.length_toList]; exact hD) W (HPW.out W hW)
                have e : (⟨D.data.toList.toArray⟩ : ByteArray) = D := by cases D; simp
                rw [St, e] at h1
                exact h1)
              clear hb H8 d0 d1 d2 d3 hn9 HBK
              go_wp2_with fail
              go_loopg [11] Bt.size (fun gg v11 wr => ∃ k : Nat, gg = Bt.size - k ∧ k ≤ Bt.size ∧ v11 = .int .i64 (k : Int) ∧ Below W9.heap.size W9 wr)
              case atStart => exact ⟨0, rfl, Nat.zero_le _, rfl, HBB.out⟩
              case round =>
                obtain ⟨k2, rfl, hk2, rfl, hbk2⟩ := hrel
                have HBK := hid hbk2
                have hk0 : (0 : Int) ≤ (k2 : Int) := Int.natCast_nonneg _
                by_cases hgo : k2 < Bt.size ∧ Bt.size < 60
                · have HGO := hid hgo
                  have hg1 : (k2 : Int) < (Bt.size : Int) := by omega
                  have hg2 : (Bt.size : Int) < 60 := by omega
                  have hg3 : (k2 : Int) ≤ (Bt.size : Int) := by omega
                  have hg4 : (k2 : Int) + 1 ≤ (Bt.size : Int) := by omega
                  have hw1 : IntKind.i64.wrap ((k2 : Int) + 1) = (k2 : Int) + 1 := by rw [IntKind.wrap_i64]; omega
                  have HR4 : Hid (∀ (D : ByteArray), D.size ≤ 140737488355328 → ∀ W, Below wr.heap.size wr W → Calls Tryz.prog 4 #[.string D] W fun e w' => e = .returned (.bool true) ∧ Below wr.heap.size wr w') := hid (fun D hD W hW => (HRD.out D hD W (HBK.out.trans (hW.mono HBK.out.size))).mono (fun e w' ⟨q1, q2⟩ => ⟨q1, hW.trans (q2.mono hW.size)⟩))
                  clear hbk2 hgo hk2
                  have e1 : ¬ 9223372036854775807 < min k2 Bt.size + 1 := by omega
                  have e2 : ¬ 9223372036854775807 < min k2 Bt.size + 1 + (Bt.size - k2) := by omega
                  have e3 : ¬ 9223372036854775807 < min k2 Bt.size + 1 + (Bt.size - (k2 + 1)) := by omega
                  have e5 : (⟨#[49]⟩ : ByteArray).size = 1 := rfl
                  have e6 : (⟨#[48]⟩ : ByteArray).size = 1 := rfl
                  have e4 : (0 : Int) ≤ (k2 : Int) + 1 := by omega
                  go_wp2_with fail
                  go_region_held3 (fun _ : World => True) (trivial) (first | (go_at_call 4; refine (HR4.out _ (by have := HGO.out; simp only [ByteArray.size_append, ByteArray.size_extract, e5, e6]; omega) _ (by first | exact HXa.out | exact below_dr _)).mono ?_; rintro e xa ⟨rfl, hb⟩; have HXa := hid hb; clear hb))
                  clear e1 e2 e3 e4 e5 e6
                  have HBN2 : Hid (Below W9.heap.size W9 xa) := hid (HBK.out.trans (HXa.out.mono HBK.out.size))
                  go_wp2_with fail
                  go_roundg (Bt.size - (k2 + 1))
                  case measure => have := HGO.out.1; omega
                  case rel => exact ⟨k2 + 1, rfl, HGO.out.1, by go_num, HBN2.out⟩
                · have hcase : (¬ (k2 : Int) < (Bt.size : Int)) ∨ ((k2 : Int) < (Bt.size : Int) ∧ ¬ (Bt.size : Int) < 60) := by omega
                  have HR1 := hid (HRD.out Bt (by have := HBZ.out; omega) wr hbk2)
                  have HR2 := hid (HRD.out (Bt ++ Bt) (by rw [ByteArray.size_append]; have := HBZ.out; omega))
                  have e1 : ¬ 9223372036854775807 < Bt.size + Bt.size := by have := HBZ.out; omega
                  have hiw : IntKind.i64.wrap ((i : Int) + 1) = (i : Int) + 1 := by have := HI.out; rw [IntKind.wrap_i64]; omega
                  clear hbk2 hgo hk2
                  rcases hcase with hgx | ⟨hgy, hgx⟩
                  · go_wp2_with fail
                    refine HR1.out.mono ?_
                    rintro e wa ⟨rfl, hq⟩
                    have HBA := hid (HBK.out.trans (hq.mono HBK.out.size))
                    clear hq
                    go_wp2_with fail
                    refine (HR2.out _ HBA.out).mono ?_
                    rintro e wc ⟨rfl, hq⟩
                    have HBC := hid (HBA.out.trans (hq.mono HBA.out.size))
                    clear hq
                    go_wp2_with fail
                    go_roundg (37 - (i + 1))
                    case measure => have := HI.out; omega
                    case rel => exact ⟨i + 1, rfl, HI.out, by go_num, HBC.out⟩
                  · go_wp2_with fail
                    refine HR1.out.mono ?_
                    rintro e wa ⟨rfl, hq⟩
                    have HBA := hid (HBK.out.trans (hq.mono HBK.out.size))
                    clear hq
                    go_wp2_with fail
                    refine (HR2.out _ HBA.out).mono ?_
                    rintro e wc ⟨rfl, hq⟩
                    have HBC := hid (HBA.out.trans (hq.mono HBA.out.size))
                    clear hq
                    go_wp2_with fail
                    go_roundg (37 - (i + 1))
                    case measure => have := HI.out; omega
                    case rel => exact ⟨i + 1, rfl, HI.out, by go_num, HBC.out⟩
        · have hie : i = 37 := by omega
          subst hie
          go_wp2_with fail
          exact HREST.out _ _ rfl rfl hbi
end Go.Proofs.YtdllpklecdmghaaGreatDoor
