/- What rows of calls on stores and their copies answer. -/
import Derived.Test.YtmdiggbbgcjcnaaDoorSdU
namespace Go.Proofs.YtmdiggbbgcjcnaaDoor
open Go.RowKit

set_option maxHeartbeats 16000000 in
set_option maxRecDepth 100000 in
theorem playsLaw_any (s : Bs) (L : List Sx) (a0 : Option Addr) (c0 : Nat) (w : World) (hL : Scr w (.slice a0 L.length c0) L) (hp : Pw w) (hz : Tz w) : Calls Tryd.prog 4 #[St s, .slice a0 L.length c0] w fun e w' => e = .returned (.bool true) ∧ Below w.heap.size w w' := by
  have hsz : (⟨s.toArray⟩ : ByteArray).size = s.length := st_size s
  obtain ⟨nL, hnL⟩ : ∃ n, n = L.length := ⟨_, rfl⟩
  have HNL := hid hnL
  rw [← hnL] at hL ⊢
  have HL := hid hL
  clear hL hnL
  by_cases h0 : 80 < nL
  · have h0' : (80 : Int) < (nL : Int) := by omega
    clear hp hz h0
    go_enter Tryd.func4, Tryd.ntmps4
    go_wp2_with fail
    go_ret
    exact ⟨rfl, Below.refl _ _⟩
  have h0' : ¬ (80 : Int) < (nL : Int) := by omega
  by_cases h1 : 300 < s.length
  · have h1' : (300 : Int) < (s.length : Int) := by omega
    clear hp hz h0 h1
    go_enter Tryd.func4, Tryd.ntmps4
    go_wp2_with fail
    go_ret
    exact ⟨rfl, Below.refl _ _⟩
  have h1' : ¬ (300 : Int) < (s.length : Int) := by omega
  have HN80 : Hid (nL ≤ 80) := hid (by omega)
  have HW : Hid (∀ W, Below w.heap.size w W → Calls Tryd.prog 10 #[] W fun e w' => e = .returned (.bool true) ∧ Below w.heap.size w w') := hid (fun W hW => (works_any W (hp.below hW) (hz.below hW)).mono (fun e w' ⟨q1, q2⟩ => ⟨q1, hW.trans (q2.mono hW.size)⟩))
  have HP : Hid (∀ W, Below w.heap.size w W → Pw W) := hid (fun W hW => hp.below hW)
  have HZ : Hid (∀ W, Below w.heap.size w W → Tz W) := hid (fun W hW => hz.below hW)
  clear hp hz h0 h1
  go_enter Tryd.func4, Tryd.ntmps4
  go_wp2_with fail
  refine (newH w).mono ?_
  rintro e w1 ⟨rfl, hs, hb⟩
  have HSTA : Hid (Sta w (w1.alloc (.cells #[.slice none 0 0] 34)) w.heap.size w1.heap.size (.slice none 0 0) [] [] 0 none) := hid
    ⟨hb.alloc hb.size _, hs.below ((Below.refl _ w1).alloc (Nat.le_refl _) _), ⟨heap_alloc_new w1 _, ⟨rfl, Or.inl ⟨rfl, rfl⟩⟩⟩, Nat.le_refl _, hb.size, trivial⟩
  clear hs hb
  go_wp2_with fail
  go_loopg [5, 6, 7, 8, 9, 10, 11, 12, 13, 14, 15, 16] nL (fun gg v5 v6 v7 v8 v9 v10 v11 v12 v13 v14 v15 v16 wr => ∃ (i g h : Nat) (v : Value) (H : List Bs) (o : Option Ot), gg = nL - i ∧ i ≤ nL ∧ v9 = .int .i64 (i : Int) ∧ v5 = .pointer (some ⟨g, 0, none⟩) ∧ v6 = .pointer (some ⟨h, 0, none⟩) ∧ v7 = lp o ∧ v8 = kp' o ∧ H.length ≤ i ∧ Sta w wr g h v H H i o)
  case atStart => exact ⟨0, _, _, _, [], none, rfl, Nat.zero_le _, rfl, rfl, rfl, rfl, rfl, Nat.le_refl _, HSTA.out⟩
  case round =>
    obtain ⟨i, g, h, v, H, o, rfl, hi, rfl, rfl, rfl, rfl, rfl, hHl, hsta⟩ := hrel
    have HSTA := hid hsta
    by_cases hin : i < nL
    · have hik : i < L.length := by have := HNL.out; omega
      have hscr : Scr w (.slice a0 nL c0) L := HL.out
      obtain ⟨a1, c1, e1, hrow⟩ := hscr
      obtain ⟨gs, os, e2, hgs, hcs⟩ := hrow (by omega)
      obtain ⟨rfl, rfl⟩ : a0 = some ⟨gs, os, none⟩ ∧ c0 = c1 := by injection e1 with q1 _ q2; exact ⟨q1.trans e2, q2⟩
      obtain ⟨x, hx⟩ : ∃ x, x = L[i] := ⟨_, rfl⟩
      have hc := hcs i hik
      rw [← hx] at hc
      obtain ⟨K, I, T⟩ := x
      have e0 : wr.cell? ⟨gs, os + i * 3, none⟩ = some (.int .i64 K) := (hsta.bel.cell (p := ⟨gs, os + i * 3, none⟩) hgs).trans (hc 0 _ rfl)
      have e1' : wr.cell? ⟨gs, os + i * 3 + 1, none⟩ = some (.int .i64 I) := (hsta.bel.cell (p := ⟨gs, os + i * 3 + 1, none⟩) hgs).trans (hc 1 _ rfl)
      have e2' : wr.cell? ⟨gs, os + i * 3 + 2, none⟩ = some (St T) := (hsta.bel.cell (p := ⟨gs, os + i * 3 + 2, none⟩) hgs).trans (hc 2 _ rfl)
      have hTz : (⟨T.toArray⟩ : ByteArray).size = T.length := st_size T
      have HIN : Hid (i < nL ∧ H.length ≤ i) := hid ⟨hin, hHl⟩
      have hi0 : (0 : Int) ≤ (i : Int) := Int.natCast_nonneg _
      have hlt : (i : Int) < (nL : Int) := by omega
      have hiw : IntKind.i64.wrap ((i : Int) + 1) = ((i + 1 : Nat) : Int) := by rw [IntKind.wrap_i64]; have := HN80.out; omega
      have HSA : Hid (Sta w (wr.alloc (.cells #[.int .i64 K, .int .i64 I, St T] 36)) g h v H H i o) := hid (hsta.below ((Below.refl _ wr).alloc (Nat.le_refl _) _))
      clear hsta hi hHl hin hik e1 e2 hrow hgs hcs hx hc
      by_cases hT : 300 < T.length
      · have hT' : (300 : Int) < (T.length : Int) := by omega
        clear hT
        go_wp2_with fail
        refine (HW.out _ HSA.out.bel).mono ?_
        rintro e wz ⟨rfl, hb⟩
        have HBZ := hid hb
        clear hb
        go_wp2_with fail
        go_ret
        exact ⟨rfl, HBZ.out⟩
      have hT' : ¬ (300 : Int) < (T.length : Int) := by omega
      clear hT
      go_wp2_with fail
      refine (pick_any K 5 (by omega) (by omega) _).mono ?_
      rintro e X ⟨⟨k, hk, rfl⟩, hX⟩
      obtain ⟨C, hC⟩ : ∃ C, C = wr.heap.size := ⟨_, rfl⟩
      have HMID : Hid (Mid w X g h C i #[.int .i64 K, .int .i64 I, St T] o H H) := hid ⟨by rw [hX, hC]; exact heap_alloc_new wr _, v, by rw [hX]; exact HSA.out⟩
      have HCB : Hid (w.heap.size ≤ C) := hid (by rw [hC]; exact HSTA.out.bel.size)
      rw [← hC]
      clear hX hC e0 e1' e2' hTz hT' HSTA HSA
      have hk5 : k = 0 ∨ k = 1 ∨ k = 2 ∨ k = 3 ∨ k = 4 := by omega
      clear hk
      rcases hk5 with rfl | rfl | rfl | rfl | rfl
      · obtain ⟨mC, v0, mS⟩ := HMID.out
        obtain ⟨a3, c3, rfl⟩ := mS.rs.shape
        have hch := mS.rs.cell
        have f1 : X.cell? ⟨C, 1, none⟩ = some (.int .i64 I) := (cell_of_heap mC 1).trans rfl
        have z1 : X.frozen? ⟨C, 1, none⟩ = false := by simp [World.frozen?, mC]
        have hI' : IntKind.i64.wrap (1048575 - (H.length : Int)) = 1048575 - (H.length : Int) := by rw [IntKind.wrap_i64]; have := HIN.out; have := HN80.out; omega
        obtain ⟨X2, hX2⟩ : ∃ X2, X2 = X.setCell ⟨C, 1, none⟩ (.int .i64 (1048575 - (H.length : Int))) := ⟨_, rfl⟩
        have HC2 : Hid (X2.heap[C]? = some (.cells #[.int .i64 K, .int .i64 (1048575 - (H.length : Int)), St T] 36 (0, 0))) := hid (by rw [hX2]; have := blk_set mC 1 (.int .i64 (1048575 - (H.length : Int))); simpa using this)
        have HS2 : Hid (Sta w X2 g h (.slice a3 H.length c3) H H i o) := hid (by rw [hX2]; exact mS.own HCB.out mC ((Frx.refl _ _ _).setCell _ _))
        have HX2 := hid hX2
        have HSEC : Hid (Calls Tryd.prog 9 #[St s, .int .i64 (1048575 - (H.length : Int))] X2 fun en w' => en = made (secRes s (1048575 - (H.length : Int))) ∧ Below X2.heap.size X2 w') := hid (rsecret_any s _ X2)
        generalize secRes s (1048575 - (H.length : Int)) = sr at HSEC
        obtain ⟨y, q⟩ := sr
        clear mC mS hX2
        go_wp2_with fail
        rw [← HX2.out]
        clear f1 z1 hch
        refine HSEC.out.mono ?_
        rintro e X3 ⟨rfl, hb⟩
        have HC3 : Hid (X3.heap[C]? = some (.cells #[.int .i64 K, .int .i64 (1048575 - (H.length : Int)), St T] 36 (0, 0))) := hid ((hb.block C (lt_of_block HC2.out)).trans HC2.out)
        have HS3 := hid (HS2.out.below hb)
        have f2 : X3.cell? ⟨C, 2, none⟩ = some (St T) := (cell_of_heap HC3.out 2).trans rfl
        have z2 : X3.frozen? ⟨C, 2, none⟩ = false := by simp [World.frozen?, HC3.out]
        clear hb HMID
        obtain ⟨X, hX4⟩ : ∃ X4, X4 = X3.setCell ⟨C, 2, none⟩ (St y) := ⟨_, rfl⟩
        have HMID : Hid (Mid w X g h C i #[.int .i64 K, .int .i64 (1048575 - (H.length : Int)), St y] o H H) := hid ⟨by rw [hX4]; have := blk_set HC3.out 2 (St y); simpa using this, _, by rw [hX4]; exact HS3.out.own HCB.out HC3.out ((Frx.refl _ _ _).setCell _ _)⟩
        have HX4 := hid hX4
        clear hX4
        have HM0 : Hid (∀ W, Below X.heap.size X W → Mid w W g h C i #[.int .i64 K, .int .i64 (1048575 - (H.length : Int)), St y] o H H) := hid (fun W hW => HMID.out.below hW)
        obtain ⟨rr, HA⟩ : ∃ q, q = addH H (1048575 - (H.length : Int)) y := ⟨_, rfl⟩
        have H13 : Hid (∀ W Hy, Mid w W g h C i #[.int .i64 K, .int .i64 (1048575 - (H.length : Int)), St y] o H Hy → Calls Tryd.prog 13 #[.pointer (some ⟨g, 0, none⟩), .int .i64 (1048575 - (H.length : Int)), St y] W fun e w' => e = .returned (.int .i64 (rr.1 : Int)) ∧ Mid w w' g h C i #[.int .i64 K, .int .i64 (1048575 - (H.length : Int)), St y] o rr.2 Hy) := hid (fun W Hy m => by rw [HA]; exact mid_add (HP.out w (Below.refl _ _)) (HZ.out w (Below.refl _ _)) (1048575 - (H.length : Int)) y m)
        have H14 : Hid (∀ W Hx, Mid w W g h C i #[.int .i64 K, .int .i64 (1048575 - (H.length : Int)), St y] o Hx H → Calls Tryd.prog 14 #[.pointer (some ⟨h, 0, none⟩), .int .i64 (1048575 - (H.length : Int)), St y] W fun e w' => e = .returned (.int .i64 (rr.1 : Int)) ∧ Mid w w' g h C i #[.int .i64 K, .int .i64 (1048575 - (H.length : Int)), St y] o Hx rr.2) := hid (fun W Hx m => by rw [HA]; exact mid_radd (1048575 - (H.length : Int)) y m (by have := HIN.out; have := HN80.out; omega))
        have HLE : Hid (rr.2.length ≤ i + 1) := hid (by rw [HA]; have := addH_len H (1048575 - (H.length : Int)) y; have := HIN.out; omega)
        have HSC : Hid (∀ W Hx Hy, Mid w W g h C i #[.int .i64 K, .int .i64 (1048575 - (H.length : Int)), St y] o Hx Hy → W.cell? ⟨C, 1, none⟩ = some (.int .i64 (1048575 - (H.length : Int))) ∧ W.cell? ⟨C, 2, none⟩ = some (St y)) := hid (fun W Hx Hy m => ⟨(cell_of_heap m.1 1).trans rfl, (cell_of_heap m.1 2).trans rfl⟩)
        obtain ⟨r, H2⟩ := rr
        have hs0 := HSC.out _ _ _ (HM0.out X (Below.refl _ _))
        clear HA
        go_wp2_with fail
        rw [← HX4.out]
        go_region_held3 (fun W : World => W.cell? ⟨C, 1, none⟩ = some (.int .i64 (1048575 - (H.length : Int))) ∧ W.cell? ⟨C, 2, none⟩ = some (St y)) (first | exact hs0 | exact HSC.out _ _ _ (HM0.out _ (below_dr _)) | exact HSC.out _ _ _ HXa.out) (first | (go_at_call 13; refine (H13.out _ _ (by first | exact HXa.out | exact HM0.out _ (below_dr _))).mono ?_; rintro e xa ⟨rfl, hm⟩; have HXa := hid hm; clear hm) | (go_at_call 14; refine (H14.out _ _ (by first | exact HXa.out | exact HM0.out _ (below_dr _))).mono ?_; rintro e xa ⟨rfl, hm⟩; have HXa := hid hm; clear hm))
        all_goals
          obtain ⟨v2, hsta2⟩ := HXa.out.2
          have HST2 := hid hsta2
          clear hsta2 hs0
          obtain ⟨an, cn, hvn⟩ := HST2.out.rs.shape
          have hcn : xa.cell? ⟨h, 0, none⟩ = some (.slice an H2.length cn) := by rw [← hvn]; exact HST2.out.rs.cell
          have H18 : Hid (∀ W, Below xa.heap.size xa W → Calls Tryd.prog 18 #[.pointer (some ⟨g, 0, none⟩)] W fun e w' => e = .returned (.int .i64 (H2.length : Int)) ∧ Below xa.heap.size xa w') := hid (fun W hW => (countH (HST2.out.st.below hW)).mono (fun e w' ⟨q1, q2⟩ => ⟨q1, by rw [q2]; exact hW⟩))
          have H19 : Hid (∀ W, Below xa.heap.size xa W → Calls Tryd.prog 19 #[.pointer (some ⟨g, 0, none⟩)] W fun e w' => e = .returned (.int .i64 (Sd.popF H2.length 21 0 : Int)) ∧ Below xa.heap.size xa w') := hid (fun W hW => (keptH (HST2.out.st.below hW)).mono (fun e w' ⟨q1, q2⟩ => ⟨q1, by rw [q2]; exact hW⟩))
          have H20 : Hid (∀ W, Below xa.heap.size xa W → Calls Tryd.prog 20 #[.pointer (some ⟨h, 0, none⟩)] W fun e w' => e = .returned (.int .i64 (Sd.popF H2.length 21 0 : Int)) ∧ Below xa.heap.size xa w') := hid (fun W hW => (rkept_any (HST2.out.rs.below hW) (by have := HLE.out; have := HIN.out; have := HN80.out; omega)).mono (fun e w' ⟨q1, q2⟩ => ⟨q1, hW.trans (q2.mono hW.size)⟩))
          have HCN : Hid (∀ W, Below xa.heap.size xa W → W.cell? ⟨h, 0, none⟩ = some (.slice an H2.length cn)) := hid (fun W hW => (hW.cell (p := ⟨h, 0, none⟩) (HST2.out.rs.lt)).trans hcn)
          have HFIN : Hid (∀ W, Below xa.heap.size xa W → ∃ v, H2.length ≤ i + 1 ∧ Sta w W g h v H2 H2 (i + 1) o) := hid (fun W hW => by
            have q := HST2.out.below hW
            exact ⟨_, HLE.out, q.bel, q.st, q.rs, q.bg, q.bh, q.oth.more (by omega)⟩)
          generalize Sd.popF H2.length 21 0 = pp at H19 H20
          generalize hlH : H2.length = nn at hcn H18 HCN
          clear hlH hvn
          go_wp2_with fail
          have hs0 := hcn
          go_region_held3 (fun W : World => W.cell? ⟨h, 0, none⟩ = some (.slice an nn cn)) (first | exact hs0 | exact HCN.out _ (below_dr _) | exact HCN.out _ HXa.out) (first | (go_at_call 18; refine (H18.out _ (by first | exact HXa.out | exact below_dr _)).mono ?_; rintro e xa ⟨rfl, hb⟩; have HXa := hid hb; clear hb) | (go_at_call 19; refine (H19.out _ (by first | exact HXa.out | exact below_dr _)).mono ?_; rintro e xa ⟨rfl, hb⟩; have HXa := hid hb; clear hb) | (go_at_call 20; refine (H20.out _ (by first | exact HXa.out | exact below_dr _)).mono ?_; rintro e xa ⟨rfl, hb⟩; have HXa := hid hb; clear hb))
          all_goals
            obtain ⟨vf, hlf, hsf⟩ := HFIN.out _ HXa.out
            clear hs0 hcn
            go_wp2_with fail
            go_roundg (nL - (i + 1))
            case measure => have := HIN.out; omega
            case rel => exact ⟨i + 1, g, h, vf, H2, o, rfl, by have := HIN.out; omega, by go_num, rfl, rfl, rfl, rfl, hlf, hsf⟩
      · skip
        have HM0 : Hid (∀ W, Below X.heap.size X W → Mid w W g h C i #[.int .i64 K, .int .i64 I, St T] o H H) := hid (fun W hW => HMID.out.below hW)
        obtain ⟨rr, HA⟩ : ∃ q, q = addH H I T := ⟨_, rfl⟩
        have H13 : Hid (∀ W Hy, Mid w W g h C i #[.int .i64 K, .int .i64 I, St T] o H Hy → Calls Tryd.prog 13 #[.pointer (some ⟨g, 0, none⟩), .int .i64 I, St T] W fun e w' => e = .returned (.int .i64 (rr.1 : Int)) ∧ Mid w w' g h C i #[.int .i64 K, .int .i64 I, St T] o rr.2 Hy) := hid (fun W Hy m => by rw [HA]; exact mid_add (HP.out w (Below.refl _ _)) (HZ.out w (Below.refl _ _)) I T m)
        have H14 : Hid (∀ W Hx, Mid w W g h C i #[.int .i64 K, .int .i64 I, St T] o Hx H → Calls Tryd.prog 14 #[.pointer (some ⟨h, 0, none⟩), .int .i64 I, St T] W fun e w' => e = .returned (.int .i64 (rr.1 : Int)) ∧ Mid w w' g h C i #[.int .i64 K, .int .i64 I, St T] o Hx rr.2) := hid (fun W Hx m => by rw [HA]; exact mid_radd I T m (by have := HIN.out; have := HN80.out; omega))
        have HLE : Hid (rr.2.length ≤ i + 1) := hid (by rw [HA]; have := addH_len H I T; have := HIN.out; omega)
        have HSC : Hid (∀ W Hx Hy, Mid w W g h C i #[.int .i64 K, .int .i64 I, St T] o Hx Hy → W.cell? ⟨C, 1, none⟩ = some (.int .i64 I) ∧ W.cell? ⟨C, 2, none⟩ = some (St T)) := hid (fun W Hx Hy m => ⟨(cell_of_heap m.1 1).trans rfl, (cell_of_heap m.1 2).trans rfl⟩)
        obtain ⟨r, H2⟩ := rr
        have hs0 := HSC.out _ _ _ (HM0.out X (Below.refl _ _))
        clear HA
        go_wp2_with fail
        skip
        go_region_held3 (fun W : World => W.cell? ⟨C, 1, none⟩ = some (.int .i64 I) ∧ W.cell? ⟨C, 2, none⟩ = some (St T)) (first | exact hs0 | exact HSC.out _ _ _ (HM0.out _ (below_dr _)) | exact HSC.out _ _ _ HXa.out) (first | (go_at_call 13; refine (H13.out _ _ (by first | exact HXa.out | exact HM0.out _ (below_dr _))).mono ?_; rintro e xa ⟨rfl, hm⟩; have HXa := hid hm; clear hm) | (go_at_call 14; refine (H14.out _ _ (by first | exact HXa.out | exact HM0.out _ (below_dr _))).mono ?_; rintro e xa ⟨rfl, hm⟩; have HXa := hid hm; clear hm))
        all_goals
          obtain ⟨v2, hsta2⟩ := HXa.out.2
          have HST2 := hid hsta2
          clear hsta2 hs0
          obtain ⟨an, cn, hvn⟩ := HST2.out.rs.shape
          have hcn : xa.cell? ⟨h, 0, none⟩ = some (.slice an H2.length cn) := by rw [← hvn]; exact HST2.out.rs.cell
          have H18 : Hid (∀ W, Below xa.heap.size xa W → Calls Tryd.prog 18 #[.pointer (some ⟨g, 0, none⟩)] W fun e w' => e = .returned (.int .i64 (H2.length : Int)) ∧ Below xa.heap.size xa w') := hid (fun W hW => (countH (HST2.out.st.below hW)).mono (fun e w' ⟨q1, q2⟩ => ⟨q1, by rw [q2]; exact hW⟩))
          have H19 : Hid (∀ W, Below xa.heap.size xa W → Calls Tryd.prog 19 #[.pointer (some ⟨g, 0, none⟩)] W fun e w' => e = .returned (.int .i64 (Sd.popF H2.length 21 0 : Int)) ∧ Below xa.heap.size xa w') := hid (fun W hW => (keptH (HST2.out.st.below hW)).mono (fun e w' ⟨q1, q2⟩ => ⟨q1, by rw [q2]; exact hW⟩))
          have H20 : Hid (∀ W, Below xa.heap.size xa W → Calls Tryd.prog 20 #[.pointer (some ⟨h, 0, none⟩)] W fun e w' => e = .returned (.int .i64 (Sd.popF H2.length 21 0 : Int)) ∧ Below xa.heap.size xa w') := hid (fun W hW => (rkept_any (HST2.out.rs.below hW) (by have := HLE.out; have := HIN.out; have := HN80.out; omega)).mono (fun e w' ⟨q1, q2⟩ => ⟨q1, hW.trans (q2.mono hW.size)⟩))
          have HCN : Hid (∀ W, Below xa.heap.size xa W → W.cell? ⟨h, 0, none⟩ = some (.slice an H2.length cn)) := hid (fun W hW => (hW.cell (p := ⟨h, 0, none⟩) (HST2.out.rs.lt)).trans hcn)
          have HFIN : Hid (∀ W, Below xa.heap.size xa W → ∃ v, H2.length ≤ i + 1 ∧ Sta w W g h v H2 H2 (i + 1) o) := hid (fun W hW => by
            have q := HST2.out.below hW
            exact ⟨_, HLE.out, q.bel, q.st, q.rs, q.bg, q.bh, q.oth.more (by omega)⟩)
          generalize Sd.popF H2.length 21 0 = pp at H19 H20
          generalize hlH : H2.length = nn at hcn H18 HCN
          clear hlH hvn
          go_wp2_with fail
          have hs0 := hcn
          go_region_held3 (fun W : World => W.cell? ⟨h, 0, none⟩ = some (.slice an nn cn)) (first | exact hs0 | exact HCN.out _ (below_dr _) | exact HCN.out _ HXa.out) (first | (go_at_call 18; refine (H18.out _ (by first | exact HXa.out | exact below_dr _)).mono ?_; rintro e xa ⟨rfl, hb⟩; have HXa := hid hb; clear hb) | (go_at_call 19; refine (H19.out _ (by first | exact HXa.out | exact below_dr _)).mono ?_; rintro e xa ⟨rfl, hb⟩; have HXa := hid hb; clear hb) | (go_at_call 20; refine (H20.out _ (by first | exact HXa.out | exact below_dr _)).mono ?_; rintro e xa ⟨rfl, hb⟩; have HXa := hid hb; clear hb))
          all_goals
            obtain ⟨vf, hlf, hsf⟩ := HFIN.out _ HXa.out
            clear hs0 hcn
            go_wp2_with fail
            go_roundg (nL - (i + 1))
            case measure => have := HIN.out; omega
            case rel => exact ⟨i + 1, g, h, vf, H2, o, rfl, by have := HIN.out; omega, by go_num, rfl, rfl, rfl, rfl, hlf, hsf⟩
      · obtain ⟨mC, v0, mS⟩ := HMID.out
        have f1 : X.cell? ⟨C, 1, none⟩ = some (.int .i64 I) := (cell_of_heap mC 1).trans rfl
        have HG1 : Hid (Calls Tryd.prog 15 #[.pointer (some ⟨g, 0, none⟩), .int .i64 I] X fun e w' => e = made (getH H I) ∧ Below X.heap.size X w') := hid (getHA I mS.st (HP.out X mS.bel))
        have HG2 : Hid (∀ W, Below X.heap.size X W → Calls Tryd.prog 16 #[.pointer (some ⟨h, 0, none⟩), .int .i64 I] W fun e w' => e = made (getH H I) ∧ Below X.heap.size X w') := hid (fun W hW => (rget_any I (mS.rs.below hW) (by have := HIN.out; have := HN80.out; omega)).mono (fun e w' ⟨q1, q2⟩ => ⟨q1, hW.trans (q2.mono hW.size)⟩))
        generalize getH H I = gr at HG1 HG2
        obtain ⟨y, q⟩ := gr
        clear mC mS
        go_wp2_with fail
        refine HG1.out.mono ?_
        rintro e X5 ⟨rfl, hb⟩
        have HB5 := hid hb
        have f2 : X5.cell? ⟨C, 1, none⟩ = some (.int .i64 I) := (cell_of_heap (HMID.out.below hb).1 1).trans rfl
        clear hb f1
        go_wp2_with fail
        refine (HG2.out X5 HB5.out).mono ?_
        rintro e X6 ⟨rfl, hb⟩
        obtain ⟨v2, hsta2⟩ := (HMID.out.below hb).2
        have HST2 := hid hsta2
        have HLE : Hid (H.length ≤ i + 1) := hid (by have := HIN.out; omega)
        clear hb f2 hsta2
        obtain ⟨an, cn, hvn⟩ := HST2.out.rs.shape
        have hcn : X6.cell? ⟨h, 0, none⟩ = some (.slice an H.length cn) := by rw [← hvn]; exact HST2.out.rs.cell
        have H18 : Hid (∀ W, Below X6.heap.size X6 W → Calls Tryd.prog 18 #[.pointer (some ⟨g, 0, none⟩)] W fun e w' => e = .returned (.int .i64 (H.length : Int)) ∧ Below X6.heap.size X6 w') := hid (fun W hW => (countH (HST2.out.st.below hW)).mono (fun e w' ⟨q1, q2⟩ => ⟨q1, by rw [q2]; exact hW⟩))
        have H19 : Hid (∀ W, Below X6.heap.size X6 W → Calls Tryd.prog 19 #[.pointer (some ⟨g, 0, none⟩)] W fun e w' => e = .returned (.int .i64 (Sd.popF H.length 21 0 : Int)) ∧ Below X6.heap.size X6 w') := hid (fun W hW => (keptH (HST2.out.st.below hW)).mono (fun e w' ⟨q1, q2⟩ => ⟨q1, by rw [q2]; exact hW⟩))
        have H20 : Hid (∀ W, Below X6.heap.size X6 W → Calls Tryd.prog 20 #[.pointer (some ⟨h, 0, none⟩)] W fun e w' => e = .returned (.int .i64 (Sd.popF H.length 21 0 : Int)) ∧ Below X6.heap.size X6 w') := hid (fun W hW => (rkept_any (HST2.out.rs.below hW) (by have := HLE.out; have := HIN.out; have := HN80.out; omega)).mono (fun e w' ⟨q1, q2⟩ => ⟨q1, hW.trans (q2.mono hW.size)⟩))
        have HCN : Hid (∀ W, Below X6.heap.size X6 W → W.cell? ⟨h, 0, none⟩ = some (.slice an H.length cn)) := hid (fun W hW => (hW.cell (p := ⟨h, 0, none⟩) (HST2.out.rs.lt)).trans hcn)
        have HFIN : Hid (∀ W, Below X6.heap.size X6 W → ∃ v, H.length ≤ i + 1 ∧ Sta w W g h v H H (i + 1) o) := hid (fun W hW => by
          have q := HST2.out.below hW
          exact ⟨_, HLE.out, q.bel, q.st, q.rs, q.bg, q.bh, q.oth.more (by omega)⟩)
        generalize Sd.popF H.length 21 0 = pp at H19 H20
        generalize hlH : H.length = nn at hcn H18 HCN
        clear hlH hvn
        go_wp2_with fail
        have hs0 := hcn
        go_region_held3 (fun W : World => W.cell? ⟨h, 0, none⟩ = some (.slice an nn cn)) (first | exact hs0 | exact HCN.out _ (below_dr _) | exact HCN.out _ HXa.out) (first | (go_at_call 18; refine (H18.out _ (by first | exact HXa.out | exact below_dr _)).mono ?_; rintro e xa ⟨rfl, hb⟩; have HXa := hid hb; clear hb) | (go_at_call 19; refine (H19.out _ (by first | exact HXa.out | exact below_dr _)).mono ?_; rintro e xa ⟨rfl, hb⟩; have HXa := hid hb; clear hb) | (go_at_call 20; refine (H20.out _ (by first | exact HXa.out | exact below_dr _)).mono ?_; rintro e xa ⟨rfl, hb⟩; have HXa := hid hb; clear hb))
        all_goals
          obtain ⟨vf, hlf, hsf⟩ := HFIN.out _ HXa.out
          clear hs0 hcn
          go_wp2_with fail
          go_roundg (nL - (i + 1))
          case measure => have := HIN.out; omega
          case rel => exact ⟨i + 1, g, h, vf, H, o, rfl, by have := HIN.out; omega, by go_num, rfl, rfl, rfl, rfl, hlf, hsf⟩
      · obtain ⟨mC, v0, mS⟩ := HMID.out
        obtain ⟨a3, c3, rfl⟩ := mS.rs.shape
        have HMS := hid mS
        have HCP := hid (copyH mS.st)
        clear mC mS
        go_wp2_with fail
        refine HCP.out.mono ?_
        rintro e X7 ⟨rfl, hs7, hb7⟩
        have hch : X7.cell? ⟨h, 0, none⟩ = some (.slice a3 H.length c3) := (HMS.out.rs.below hb7).cell
        obtain ⟨a8, c8, X8, r8, o8, g8⟩ := append_many X7 X.heap.size (.slice none 0 0) (.slice a3 H.length c3) [] H ⟨rfl, Or.inl ⟨rfl, rfl⟩⟩ (HMS.out.below hb7).texts (by have := HIN.out; have := HN80.out; simp; omega) hb7.size
        rw [List.nil_append] at r8 o8
        have hb8 : Below X7.heap.size X7 X8 := below_own (Below.refl _ X7) (Nat.le_refl _) (⟨rfl, Or.inl ⟨rfl, rfl⟩⟩ : X7.ownsRow X7.heap.size 22 1 (.slice none 0 0) 0 []) g8
        have hb9 : Below X.heap.size X (X8.alloc (.cells #[.slice a8 H.length c8] 34)) := (hb7.trans (hb8.mono hb7.size)).alloc (Nat.le_trans hb7.size hb8.size) _
        have HST2 : Hid (Sta w (X8.alloc (.cells #[.slice a8 H.length c8] 34)) X.heap.size X8.heap.size (.slice a8 H.length c8) H H i (some ⟨g, h, .slice a3 H.length c3, H⟩)) := hid (HMS.out.copy hb9 (by have := HIN.out; omega)
          ((hs7.below hb8).below ((Below.refl _ X8).alloc (Nat.le_refl _) _)) ⟨heap_alloc_new X8 _, o8.alloc _⟩ (Nat.le_refl _) (Nat.le_trans hb7.size hb8.size))
        have HR8 := hid r8
        have HLE : Hid (H.length ≤ i + 1) := hid (by have := HIN.out; omega)
        clear r8 o8 g8 hb8 hb9 hs7 hb7
        generalize X.heap.size = gN at HST2 ⊢
        go_wp2_with (first | (at_builtin; refine wpList_append_run rfl (.tmp 118) (.tmp 122) 32 32 rfl _ _ (.slice a8 H.length c8) X8 rfl rfl HR8.out ?_) | fail)
        clear hch
        generalize X8.heap.size = hN at HST2 ⊢
        generalize X8.alloc (.cells #[.slice a8 H.length c8] 34) = X9 at HST2 ⊢
        obtain ⟨an, cn, hvn⟩ := HST2.out.rs.shape
        have hcn : X9.cell? ⟨hN, 0, none⟩ = some (.slice an H.length cn) := by rw [← hvn]; exact HST2.out.rs.cell
        have H18 : Hid (∀ W, Below X9.heap.size X9 W → Calls Tryd.prog 18 #[.pointer (some ⟨gN, 0, none⟩)] W fun e w' => e = .returned (.int .i64 (H.length : Int)) ∧ Below X9.heap.size X9 w') := hid (fun W hW => (countH (HST2.out.st.below hW)).mono (fun e w' ⟨q1, q2⟩ => ⟨q1, by rw [q2]; exact hW⟩))
        have H19 : Hid (∀ W, Below X9.heap.size X9 W → Calls Tryd.prog 19 #[.pointer (some ⟨gN, 0, none⟩)] W fun e w' => e = .returned (.int .i64 (Sd.popF H.length 21 0 : Int)) ∧ Below X9.heap.size X9 w') := hid (fun W hW => (keptH (HST2.out.st.below hW)).mono (fun e w' ⟨q1, q2⟩ => ⟨q1, by rw [q2]; exact hW⟩))
        have H20 : Hid (∀ W, Below X9.heap.size X9 W → Calls Tryd.prog 20 #[.pointer (some ⟨hN, 0, none⟩)] W fun e w' => e = .returned (.int .i64 (Sd.popF H.length 21 0 : Int)) ∧ Below X9.heap.size X9 w') := hid (fun W hW => (rkept_any (HST2.out.rs.below hW) (by have := HLE.out; have := HIN.out; have := HN80.out; omega)).mono (fun e w' ⟨q1, q2⟩ => ⟨q1, hW.trans (q2.mono hW.size)⟩))
        have HCN : Hid (∀ W, Below X9.heap.size X9 W → W.cell? ⟨hN, 0, none⟩ = some (.slice an H.length cn)) := hid (fun W hW => (hW.cell (p := ⟨hN, 0, none⟩) (HST2.out.rs.lt)).trans hcn)
        have HFIN : Hid (∀ W, Below X9.heap.size X9 W → ∃ v, H.length ≤ i + 1 ∧ Sta w W gN hN v H H (i + 1) (some ⟨g, h, .slice a3 H.length c3, H⟩)) := hid (fun W hW => by
          have q := HST2.out.below hW
          exact ⟨_, HLE.out, q.bel, q.st, q.rs, q.bg, q.bh, q.oth.more (by omega)⟩)
        generalize Sd.popF H.length 21 0 = pp at H19 H20
        generalize hlH : H.length = nn at hcn H18 HCN
        clear hlH hvn
        go_wp2_with fail
        have hs0 := hcn
        go_region_held3 (fun W : World => W.cell? ⟨hN, 0, none⟩ = some (.slice an nn cn)) (first | exact hs0 | exact HCN.out _ (below_dr _) | exact HCN.out _ HXa.out) (first | (go_at_call 18; refine (H18.out _ (by first | exact HXa.out | exact below_dr _)).mono ?_; rintro e xa ⟨rfl, hb⟩; have HXa := hid hb; clear hb) | (go_at_call 19; refine (H19.out _ (by first | exact HXa.out | exact below_dr _)).mono ?_; rintro e xa ⟨rfl, hb⟩; have HXa := hid hb; clear hb) | (go_at_call 20; refine (H20.out _ (by first | exact HXa.out | exact below_dr _)).mono ?_; rintro e xa ⟨rfl, hb⟩; have HXa := hid hb; clear hb))
        all_goals
          obtain ⟨vf, hlf, hsf⟩ := HFIN.out _ HXa.out
          clear hs0 hcn
          go_wp2_with fail
          go_roundg (nL - (i + 1))
          case measure => have := HIN.out; omega
          case rel => exact ⟨i + 1, gN, hN, vf, H, (some ⟨g, h, .slice a3 H.length c3, H⟩), rfl, by have := HIN.out; omega, by go_num, rfl, rfl, rfl, rfl, hlf, hsf⟩
      · obtain ⟨mC, v0, mS⟩ := HMID.out
        have HMS := hid mS
        clear mC mS
        have HLE : Hid (H.length ≤ i + 1) := hid (by have := HIN.out; omega)
        cases o with
        | none =>
          have hl1 : lp none = .pointer none := rfl
          have hl2 : kp' none = .pointer none := rfl
          have HST2 := HMS
          obtain ⟨an, cn, hvn⟩ := HST2.out.rs.shape
          have hcn : X.cell? ⟨h, 0, none⟩ = some (.slice an H.length cn) := by rw [← hvn]; exact HST2.out.rs.cell
          have H18 : Hid (∀ W, Below X.heap.size X W → Calls Tryd.prog 18 #[.pointer (some ⟨g, 0, none⟩)] W fun e w' => e = .returned (.int .i64 (H.length : Int)) ∧ Below X.heap.size X w') := hid (fun W hW => (countH (HST2.out.st.below hW)).mono (fun e w' ⟨q1, q2⟩ => ⟨q1, by rw [q2]; exact hW⟩))
          have H19 : Hid (∀ W, Below X.heap.size X W → Calls Tryd.prog 19 #[.pointer (some ⟨g, 0, none⟩)] W fun e w' => e = .returned (.int .i64 (Sd.popF H.length 21 0 : Int)) ∧ Below X.heap.size X w') := hid (fun W hW => (keptH (HST2.out.st.below hW)).mono (fun e w' ⟨q1, q2⟩ => ⟨q1, by rw [q2]; exact hW⟩))
          have H20 : Hid (∀ W, Below X.heap.size X W → Calls Tryd.prog 20 #[.pointer (some ⟨h, 0, none⟩)] W fun e w' => e = .returned (.int .i64 (Sd.popF H.length 21 0 : Int)) ∧ Below X.heap.size X w') := hid (fun W hW => (rkept_any (HST2.out.rs.below hW) (by have := HLE.out; have := HIN.out; have := HN80.out; omega)).mono (fun e w' ⟨q1, q2⟩ => ⟨q1, hW.trans (q2.mono hW.size)⟩))
          have HCN : Hid (∀ W, Below X.heap.size X W → W.cell? ⟨h, 0, none⟩ = some (.slice an H.length cn)) := hid (fun W hW => (hW.cell (p := ⟨h, 0, none⟩) (HST2.out.rs.lt)).trans hcn)
          have HFIN : Hid (∀ W, Below X.heap.size X W → ∃ v, H.length ≤ i + 1 ∧ Sta w W g h v H H (i + 1) none) := hid (fun W hW => by
            have q := HST2.out.below hW
            exact ⟨_, HLE.out, q.bel, q.st, q.rs, q.bg, q.bh, q.oth.more (by omega)⟩)
          generalize Sd.popF H.length 21 0 = pp at H19 H20
          generalize hlH : H.length = nn at hcn H18 HCN
          clear hlH hvn
          go_wp2_with fail
          have hs0 := hcn
          go_region_held3 (fun W : World => W.cell? ⟨h, 0, none⟩ = some (.slice an nn cn)) (first | exact hs0 | exact HCN.out _ (below_dr _) | exact HCN.out _ HXa.out) (first | (go_at_call 18; refine (H18.out _ (by first | exact HXa.out | exact below_dr _)).mono ?_; rintro e xa ⟨rfl, hb⟩; have HXa := hid hb; clear hb) | (go_at_call 19; refine (H19.out _ (by first | exact HXa.out | exact below_dr _)).mono ?_; rintro e xa ⟨rfl, hb⟩; have HXa := hid hb; clear hb) | (go_at_call 20; refine (H20.out _ (by first | exact HXa.out | exact below_dr _)).mono ?_; rintro e xa ⟨rfl, hb⟩; have HXa := hid hb; clear hb))
          all_goals
            obtain ⟨vf, hlf, hsf⟩ := HFIN.out _ HXa.out
            clear hs0 hcn
            go_wp2_with fail
            go_roundg (nL - (i + 1))
            case measure => have := HIN.out; omega
            case rel => exact ⟨i + 1, g, h, vf, H, none, rfl, by have := HIN.out; omega, by go_num, rfl, rfl, rfl, rfl, hlf, hsf⟩
        | some o1 =>
          have hl1 : lp (some o1) = .pointer (some ⟨o1.g, 0, none⟩) := rfl
          have hl2 : kp' (some o1) = .pointer (some ⟨o1.h, 0, none⟩) := rfl
          have HST2 := hid (HMS.out.swap (by have := HIN.out; omega))
          have HLE : Hid (o1.H.length ≤ i + 1) := hid (by have := HMS.out.oth.2.2.2.2.2.2.1; omega)
          obtain ⟨an, cn, hvn⟩ := HST2.out.rs.shape
          have hcn : X.cell? ⟨o1.h, 0, none⟩ = some (.slice an o1.H.length cn) := by rw [← hvn]; exact HST2.out.rs.cell
          have H18 : Hid (∀ W, Below X.heap.size X W → Calls Tryd.prog 18 #[.pointer (some ⟨o1.g, 0, none⟩)] W fun e w' => e = .returned (.int .i64 (o1.H.length : Int)) ∧ Below X.heap.size X w') := hid (fun W hW => (countH (HST2.out.st.below hW)).mono (fun e w' ⟨q1, q2⟩ => ⟨q1, by rw [q2]; exact hW⟩))
          have H19 : Hid (∀ W, Below X.heap.size X W → Calls Tryd.prog 19 #[.pointer (some ⟨o1.g, 0, none⟩)] W fun e w' => e = .returned (.int .i64 (Sd.popF o1.H.length 21 0 : Int)) ∧ Below X.heap.size X w') := hid (fun W hW => (keptH (HST2.out.st.below hW)).mono (fun e w' ⟨q1, q2⟩ => ⟨q1, by rw [q2]; exact hW⟩))
          have H20 : Hid (∀ W, Below X.heap.size X W → Calls Tryd.prog 20 #[.pointer (some ⟨o1.h, 0, none⟩)] W fun e w' => e = .returned (.int .i64 (Sd.popF o1.H.length 21 0 : Int)) ∧ Below X.heap.size X w') := hid (fun W hW => (rkept_any (HST2.out.rs.below hW) (by have := HLE.out; have := HIN.out; have := HN80.out; omega)).mono (fun e w' ⟨q1, q2⟩ => ⟨q1, hW.trans (q2.mono hW.size)⟩))
          have HCN : Hid (∀ W, Below X.heap.size X W → W.cell? ⟨o1.h, 0, none⟩ = some (.slice an o1.H.length cn)) := hid (fun W hW => (hW.cell (p := ⟨o1.h, 0, none⟩) (HST2.out.rs.lt)).trans hcn)
          have HFIN : Hid (∀ W, Below X.heap.size X W → ∃ v, o1.H.length ≤ i + 1 ∧ Sta w W o1.g o1.h v o1.H o1.H (i + 1) (some ⟨g, h, v0, H⟩)) := hid (fun W hW => by
            have q := HST2.out.below hW
            exact ⟨_, HLE.out, q.bel, q.st, q.rs, q.bg, q.bh, q.oth.more (by omega)⟩)
          generalize Sd.popF o1.H.length 21 0 = pp at H19 H20
          generalize hlH : o1.H.length = nn at hcn H18 HCN
          clear hlH hvn
          go_wp2_with fail
          have hs0 := hcn
          go_region_held3 (fun W : World => W.cell? ⟨o1.h, 0, none⟩ = some (.slice an nn cn)) (first | exact hs0 | exact HCN.out _ (below_dr _) | exact HCN.out _ HXa.out) (first | (go_at_call 18; refine (H18.out _ (by first | exact HXa.out | exact below_dr _)).mono ?_; rintro e xa ⟨rfl, hb⟩; have HXa := hid hb; clear hb) | (go_at_call 19; refine (H19.out _ (by first | exact HXa.out | exact below_dr _)).mono ?_; rintro e xa ⟨rfl, hb⟩; have HXa := hid hb; clear hb) | (go_at_call 20; refine (H20.out _ (by first | exact HXa.out | exact below_dr _)).mono ?_; rintro e xa ⟨rfl, hb⟩; have HXa := hid hb; clear hb))
          all_goals
            obtain ⟨vf, hlf, hsf⟩ := HFIN.out _ HXa.out
            clear hs0 hcn
            go_wp2_with fail
            go_roundg (nL - (i + 1))
            case measure => have := HIN.out; omega
            case rel => exact ⟨i + 1, o1.g, o1.h, vf, o1.H, (some ⟨g, h, v0, H⟩), rfl, by have := HIN.out; omega, by go_num, rfl, rfl, rfl, rfl, hlf, hsf⟩
    · have hie : i = nL := by omega
      subst hie
      have hlt : ¬ (i : Int) < (i : Int) := by omega
      clear hsta hi hHl hin
      go_wp2_with fail
      refine (HW.out wr HSTA.out.bel).mono ?_
      rintro e wz ⟨rfl, hb⟩
      have HBZ := hid hb
      clear hb
      go_wp2_with fail
      go_ret
      exact ⟨rfl, HBZ.out⟩
end Go.Proofs.YtmdiggbbgcjcnaaDoor
