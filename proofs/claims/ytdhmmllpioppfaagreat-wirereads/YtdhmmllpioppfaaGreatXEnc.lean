/- The document's Encode. -/
import Derived.Test.YtdhmmllpioppfaaGreatXTextAll
import Derived.Test.YtdhmmllpioppfaaGreatXMay
import Derived.Test.YtdhmmllpioppfaaGreatRReadAll
namespace Go.Proofs.YtdhmmllpioppfaaGreat.V
open Go.RowKit

theorem right_r : RightR := fun t W => rright_any t W
theorem deep_len {t : Bs} (h : Tm.deep t ≠ 0) : t.length ≤ 16384 := by
  apply Classical.byContradiction
  intro hn
  exact h (deep_long hn)
theorem txt_len (s : Bs) (k : Nat) (h : s.length ≤ k) : (txt s).length ≤ k + 9 := by
  unfold txt
  rw [List.length_append]
  have := put_short s.length
  omega
theorem stream_ok {L : List Rec} (h : (streamR L).2 = 0) : streamR L = (streamB L, 0) ∧ (streamB L).length ≤ 32768 := by
  unfold streamR at h ⊢
  split
  · rename_i e; rw [if_pos e] at h; cases h
  · rename_i e
    rw [if_neg e] at h
    split
    · rename_i e; rw [if_pos e] at h; cases h
    · rename_i e
      rw [if_neg e] at h
      split
      · rename_i e; rw [if_pos e] at h; cases h
      · rename_i e; exact ⟨rfl, by omega⟩
set_option maxRecDepth 100000 in
set_option maxHeartbeats 8000000 in
theorem renc_any (w : World) (nv tv mv : Value) (m : Msg) (h : Ms w nv tv mv m) (hl : MLen m) :
    Calls Tryz.prog 11 #[Mv m.k m.ch nv tv m.tx mv] w fun e w' => ∃ ao cap, e = .returned (.tuple #[.slice ao (encR m).1.length cap, .int .i64 ((encR m).2 : Int)]) ∧ Sl w' (.slice ao (encR m).1.length cap) (encR m).1 ∧ Below w.heap.size w w' := by
  obtain ⟨an, cn, rfl, hu1⟩ := h.ns
  clear hu1
  obtain ⟨at', ct, rfl, hu2⟩ := h.ts
  clear hu2
  obtain ⟨am, cm, rfl⟩ := h.mo.shape
  obtain ⟨wb, hwb⟩ : ∃ wb, wb = w.alloc (.cells #[.int .u16 (m.k : Int), St m.ch, .slice an m.ns.length cn, .slice at' m.ts.length ct, St m.tx, .slice am m.mo.length cm] 27) := ⟨_, rfl⟩
  have HW0 : Hid (Below w.heap.size w wb) := hid (hwb ▸ (Below.refl _ _).alloc (Nat.le_refl _) _)
  have hx : wb.heap[w.heap.size]? = some (.cells #[.int .u16 (m.k : Int), St m.ch, .slice an m.ns.length cn, .slice at' m.ts.length ct, St m.tx, .slice am m.mo.length cm] 27) := hwb ▸ heap_alloc_new _ _
  have HCE : Hid (∀ W, Below wb.heap.size wb W → W.cell? ⟨w.heap.size, 0, none⟩ = some (.int .u16 (m.k : Int)) ∧ W.cell? ⟨w.heap.size, 1, none⟩ = some (St m.ch) ∧ W.cell? ⟨w.heap.size, 2, none⟩ = some (.slice an m.ns.length cn) ∧ W.cell? ⟨w.heap.size, 3, none⟩ = some (.slice at' m.ts.length ct) ∧ W.cell? ⟨w.heap.size, 4, none⟩ = some (St m.tx) ∧ W.cell? ⟨w.heap.size, 5, none⟩ = some (.slice am m.mo.length cm)) := hid (fun W hb => by
    have hy := (hb.block _ (lt_of_block hx)).trans hx
    exact ⟨(cell_of_heap hy 0).trans rfl, (cell_of_heap hy 1).trans rfl, (cell_of_heap hy 2).trans rfl, (cell_of_heap hy 3).trans rfl, (cell_of_heap hy 4).trans rfl, (cell_of_heap hy 5).trans rfl⟩)
  have HMY := hid (rmay_any right_r wb _ _ _ m (h.below HW0.out) hl)
  have HS := hid (fun W (hb : Below wb.heap.size wb W) => rstream_any W _ m.mo (h.mo.below (two_low HW0.out hb)) hl.mo)
  have HTC : Hid (∀ i (h : i < m.ts.length), ∃ g o, at' = some ⟨g, o, none⟩ ∧ ∀ W, Below wb.heap.size wb W → W.cell? ⟨g, o + i, none⟩ = some (St m.ts[i])) := hid (fun i hi => by
    obtain ⟨g, o, e, hg, hc⟩ := h.ts.cells i hi
    exact ⟨g, o, e, fun W hb => by rw [← hc]; exact World.cell?_of_block ((two_low HW0.out hb).block g hg)⟩)
  have HNC : Hid (∀ i (h : i < m.ns.length), ∃ g o, an = some ⟨g, o, none⟩ ∧ ∀ W, Below wb.heap.size wb W → W.cell? ⟨g, o + i, none⟩ = some (.int .i64 m.ns[i])) := hid (fun i hi => by
    obtain ⟨g, o, e, hg, hc⟩ := h.ns.cells i hi
    exact ⟨g, o, e, fun W hb => by rw [← hc]; exact World.cell?_of_block ((two_low HW0.out hb).block g hg)⟩)
  have HK := hid hl.k
  obtain ⟨R, hR⟩ : ∃ R, R = encR m := ⟨_, rfl⟩
  rw [← hR]
  have HR := hid hR
  have hd0 := HCE.out wb (Below.refl _ _)
  obtain ⟨c0, c1, c2, c3, c4, c5⟩ := hd0
  clear hR hx h hl
  cases hmay : mayB m with
  | false =>
    have HRE : Hid (R = ([], 80)) := hid (by rw [HR.out]; unfold encR; rw [if_pos hmay])
    rw [hmay] at HMY
    clear hmay
    go_enter Tryz.func11, Tryz.ntmps11
    go_wp2_with fail
    rw [← hwb]
    go_wp2_with fail
    refine HMY.out.mono ?_
    rintro e w1 ⟨rfl, hb⟩
    have HB1 := hid (two_low HW0.out hb)
    clear hb
    go_wp2_with fail
    go_ret2
    refine ⟨none, 0, ?_⟩
    rw [HRE.out]
    exact ⟨rfl, Sl.nil _, HB1.out⟩
  | true =>
    obtain ⟨p1, p2, p3, p4, p5, p6⟩ := may_parts hmay
    have HRE : Hid (R = if 32768 < (msgB m).length then ([], 3) else (msgB m, 0)) := hid (by rw [HR.out]; unfold encR; rw [if_neg (by rw [hmay]; decide)])
    obtain ⟨p7, p8⟩ := stream_ok p5
    rw [p7] at HS
    have HP3 := hid p3
    have HP4 := hid p4
    have HP6 := hid p6
    have HP8 := hid p8
    have HDF : Hid (msgB m = be 2 m.k ++ txt m.ch ++ putB m.ns.length ++ numsB m.ns ++ putB m.ts.length ++ termsB m.ts ++ txt m.tx ++ streamB m.mo) := hid (by simp [msgB, headB, List.append_assoc])
    rw [hmay] at HMY
    clear hmay p3 p4 p5 p6 p7 p8
    obtain ⟨n, hn⟩ : ∃ n, n = m.ns.length := ⟨_, rfl⟩
    obtain ⟨t, ht⟩ : ∃ t, t = m.ts.length := ⟨_, rfl⟩
    have HN := hid hn
    have HT := hid ht
    rw [← hn] at p1 hwb HCE c2 HMY HDF ⊢
    rw [← ht] at p2 hwb HCE c3 HMY HDF ⊢
    have hnw : IntKind.u64.wrap (n : Int) = (n : Int) := by rw [IntKind.wrap_u64]; omega
    have htw : IntKind.u64.wrap (t : Int) = (t : Int) := by rw [IntKind.wrap_u64]; omega
    clear hn ht HR
    go_enter Tryz.func11, Tryz.ntmps11
    go_wp2_with fail
    rw [← hwb]
    go_wp2_with fail
    refine HMY.out.mono ?_
    rintro e w1 ⟨rfl, hb⟩
    have HB1 := hid hb
    have hEs := Eb.start hb m.k ((m.k : Int) / 256 % 256) ((m.k : Int) % 256) rfl rfl
    have HE := hid hEs
    clear c0 c1 c2 c3 c4 c5
    obtain ⟨c0, c1, c2, c3, c4, c5⟩ := HCE.out w1 hb
    obtain ⟨d0, d1, d2, d3, d4, d5⟩ := HCE.out _ hEs.bel
    clear hb HMY hEs
    go_wp2_with fail
    refine (rtext_any m.ch (by have := HP3.out; omega) _).mono ?_
    rintro e u2 ⟨b2, g2, rfl, hq, hb⟩
    have hE0 := HE.out.call hb
    obtain ⟨ar2, tl2, cr2, w2, hrun, hE⟩ := hE0.add (Sl.own hq rfl) 109 (by have := txt_len m.ch 100 HP3.out; omega) (by omega)
    have HRUN := hid hrun
    clear HE hE0 hrun hq hb
    have HE := hid hE
    clear hE
    generalize (txt m.ch).length = l2 at HRUN ⊢
    clear c0 c1 c2 c3 c4 c5
    clear d0 d1 d2 d3 d4 d5
    obtain ⟨c0, c1, c2, c3, c4, c5⟩ := HCE.out w2 HE.out.bel
    go_wp2_with (first | (at_builtin; refine wpList_append_run rfl (.tmp 21) (.tmp 24) 33 rfl (.slice (some ⟨w1.heap.size, 0, none⟩) 2 2) (.slice b2 l2 g2) (.slice ar2 tl2 cr2) w2 rfl rfl HRUN.out ?_) | fail)

    refine (rput_any n (by omega) _).mono ?_
    rintro e u3 ⟨b3, g3, rfl, hq, hb⟩
    have hE0 := HE.out.call hb
    obtain ⟨ar3, tl3, cr3, w3, hrun, hE⟩ := hE0.add (Sl.own hq rfl) 9 (put_short n) (by omega)
    have HRUN := hid hrun
    clear HE hE0 hrun hq hb
    have HE := hid hE
    clear hE
    generalize (putB n).length = l3 at HRUN ⊢
    clear c0 c1 c2 c3 c4 c5
    obtain ⟨c0, c1, c2, c3, c4, c5⟩ := HCE.out w3 HE.out.bel
    go_wp2_with (first | (at_builtin; refine wpList_append_run rfl (.tmp 26) (.tmp 31) 33 rfl (.slice ar2 tl2 cr2) (.slice b3 l3 g3) (.slice ar3 tl3 cr3) w3 rfl rfl HRUN.out ?_) | fail)
    clear c0 c1 c2 c3 c4 c5 HRUN
    go_loopg [4, 5, 6] n (fun gg v4 v5 _v6 wr => ∃ (i : Nat) (ar : Option Addr) (tl cr : Nat), i ≤ n ∧ gg = n - i ∧ v5 = .int .i64 (i : Int) ∧ v4 = .slice ar tl cr ∧ Eb (120 + 8 * i) wb ar tl cr (be 2 m.k ++ txt m.ch ++ putB n ++ numsB (m.ns.take i)) wr)
    case atStart => exact ⟨0, ar3, tl3, cr3, by omega, by omega, rfl, rfl, (HE.out.more (by omega)).is (by simp [numsB])⟩
    case round =>
      obtain ⟨i, ar, tl, cr, hi, rfl, rfl, rfl, hE⟩ := hrel
      clear HE
      have HE := hid hE
      obtain ⟨c0, c1, c2, c3, c4, c5⟩ := HCE.out wr hE.bel
      clear hE
      by_cases hil : i < n
      · have hi1 : (i : Int) < (n : Int) := by omega
        have hik : i < m.ns.length := by rw [← HN.out]; exact hil
        obtain ⟨g, o, hao, hce⟩ := HNC.out i hik
        subst hao
        have HXC := hid hce
        have HNS := hid (numsB_succ m.ns i hik)
        clear hce
        obtain ⟨X, hX⟩ : ∃ X, X = m.ns[i] := ⟨_, rfl⟩
        rw [← hX] at HXC HNS
        obtain ⟨U, hU⟩ : ∃ U, U = u64 X := ⟨_, rfl⟩
        rw [← hU] at HNS
        obtain ⟨Z, hZ⟩ : ∃ Z : Int, (U : Int) = Z := ⟨_, rfl⟩
        have hXw : IntKind.u64.wrap X = Z := by rw [← hZ, hU, IntKind.wrap_u64]; unfold u64; omega
        have HZ := hid hZ
        have HZ1 : Hid (0 ≤ Z ∧ Z < 18446744073709551616) := hid (by rw [← hZ]; have := u64_lt X; omega)
        clear hX hU hZ
        obtain ⟨T1, hT1⟩ : ∃ T1, T1 = be 2 m.k ++ txt m.ch ++ putB n ++ numsB (m.ns.take i) := ⟨_, rfl⟩
        rw [← hT1] at HE
        have HT1 := hid hT1
        clear hT1
        obtain ⟨wo, rfl⟩ : ∃ wo, wo = wr := ⟨_, rfl⟩
        go_wp2_with fail
        clear c0 c1 c2 c3 c4 c5
        go_loopg [4, 6] 8 (fun gg v4 v6 wr => ∃ (j : Nat) (ar : Option Addr) (tl cr : Nat), j ≤ 8 ∧ gg = 8 - j ∧ v6 = .int .i64 ((56 : Int) - 8 * (j : Int)) ∧ v4 = .slice ar tl cr ∧ Eb (120 + 8 * i + j) wb ar tl cr (T1 ++ (be 8 U).take j) wr)
        case atStart => exact ⟨0, ar, tl, cr, by omega, by omega, rfl, rfl, (HE.out.more (by omega)).is (by simp)⟩
        case round =>
          obtain ⟨j, ar, tl, cr, hj, rfl, rfl, rfl, hE⟩ := hrel
          clear HE
          have HE := hid hE
          obtain ⟨c0, c1, c2, c3, c4, c5⟩ := HCE.out wr hE.bel
          have hc := HXC.out wr hE.bel
          clear hE
          by_cases hjK : j < 8
          · have hjj : j = 0 ∨ j = 1 ∨ j = 2 ∨ j = 3 ∨ j = 4 ∨ j = 5 ∨ j = 6 ∨ j = 7 := by omega
            clear hj hjK
            rcases hjj with rfl | rfl | rfl | rfl | rfl | rfl | rfl | rfl
            · obtain ⟨ar', tl', cr', w', hrun, hE'⟩ := HE.out.byte (U / 72057594037927936) (Z / 72057594037927936 % 256) (by rw [bv, HZ.out]; rfl) (by omega)
              have HRUN := hid hrun
              have HE' := hid hE'
              clear hrun hE'
              go_wp2_with (first | (at_builtin; refine wpList_append_run rfl (.tmp 44) (.tmp 54) 33 rfl (.slice ar tl cr) (.slice (some ⟨wr.heap.size, 0, none⟩) 1 1) (.slice ar' tl' cr') w' rfl rfl HRUN.out ?_) | fail)
              go_roundg (8 - 1)
              case measure => omega
              case rel => exact ⟨1, ar', tl', cr', by omega, rfl, by go_num, rfl, (HE'.out.more (by omega)).is (by rw [be_take U 8 0 (by decide), List.append_assoc] <;> rfl)⟩
            · obtain ⟨ar', tl', cr', w', hrun, hE'⟩ := HE.out.byte (U / 281474976710656) (Z / 281474976710656 % 256) (by rw [bv, HZ.out]; rfl) (by omega)
              have HRUN := hid hrun
              have HE' := hid hE'
              clear hrun hE'
              go_wp2_with (first | (at_builtin; refine wpList_append_run rfl (.tmp 44) (.tmp 54) 33 rfl (.slice ar tl cr) (.slice (some ⟨wr.heap.size, 0, none⟩) 1 1) (.slice ar' tl' cr') w' rfl rfl HRUN.out ?_) | fail)
              go_roundg (8 - 2)
              case measure => omega
              case rel => exact ⟨2, ar', tl', cr', by omega, rfl, by go_num, rfl, (HE'.out.more (by omega)).is (by rw [be_take U 8 1 (by decide), List.append_assoc] <;> rfl)⟩
            · obtain ⟨ar', tl', cr', w', hrun, hE'⟩ := HE.out.byte (U / 1099511627776) (Z / 1099511627776 % 256) (by rw [bv, HZ.out]; rfl) (by omega)
              have HRUN := hid hrun
              have HE' := hid hE'
              clear hrun hE'
              go_wp2_with (first | (at_builtin; refine wpList_append_run rfl (.tmp 44) (.tmp 54) 33 rfl (.slice ar tl cr) (.slice (some ⟨wr.heap.size, 0, none⟩) 1 1) (.slice ar' tl' cr') w' rfl rfl HRUN.out ?_) | fail)
              go_roundg (8 - 3)
              case measure => omega
              case rel => exact ⟨3, ar', tl', cr', by omega, rfl, by go_num, rfl, (HE'.out.more (by omega)).is (by rw [be_take U 8 2 (by decide), List.append_assoc] <;> rfl)⟩
            · obtain ⟨ar', tl', cr', w', hrun, hE'⟩ := HE.out.byte (U / 4294967296) (Z / 4294967296 % 256) (by rw [bv, HZ.out]; rfl) (by omega)
              have HRUN := hid hrun
              have HE' := hid hE'
              clear hrun hE'
              go_wp2_with (first | (at_builtin; refine wpList_append_run rfl (.tmp 44) (.tmp 54) 33 rfl (.slice ar tl cr) (.slice (some ⟨wr.heap.size, 0, none⟩) 1 1) (.slice ar' tl' cr') w' rfl rfl HRUN.out ?_) | fail)
              go_roundg (8 - 4)
              case measure => omega
              case rel => exact ⟨4, ar', tl', cr', by omega, rfl, by go_num, rfl, (HE'.out.more (by omega)).is (by rw [be_take U 8 3 (by decide), List.append_assoc] <;> rfl)⟩
            · obtain ⟨ar', tl', cr', w', hrun, hE'⟩ := HE.out.byte (U / 16777216) (Z / 16777216 % 256) (by rw [bv, HZ.out]; rfl) (by omega)
              have HRUN := hid hrun
              have HE' := hid hE'
              clear hrun hE'
              go_wp2_with (first | (at_builtin; refine wpList_append_run rfl (.tmp 44) (.tmp 54) 33 rfl (.slice ar tl cr) (.slice (some ⟨wr.heap.size, 0, none⟩) 1 1) (.slice ar' tl' cr') w' rfl rfl HRUN.out ?_) | fail)
              go_roundg (8 - 5)
              case measure => omega
              case rel => exact ⟨5, ar', tl', cr', by omega, rfl, by go_num, rfl, (HE'.out.more (by omega)).is (by rw [be_take U 8 4 (by decide), List.append_assoc] <;> rfl)⟩
            · obtain ⟨ar', tl', cr', w', hrun, hE'⟩ := HE.out.byte (U / 65536) (Z / 65536 % 256) (by rw [bv, HZ.out]; rfl) (by omega)
              have HRUN := hid hrun
              have HE' := hid hE'
              clear hrun hE'
              go_wp2_with (first | (at_builtin; refine wpList_append_run rfl (.tmp 44) (.tmp 54) 33 rfl (.slice ar tl cr) (.slice (some ⟨wr.heap.size, 0, none⟩) 1 1) (.slice ar' tl' cr') w' rfl rfl HRUN.out ?_) | fail)
              go_roundg (8 - 6)
              case measure => omega
              case rel => exact ⟨6, ar', tl', cr', by omega, rfl, by go_num, rfl, (HE'.out.more (by omega)).is (by rw [be_take U 8 5 (by decide), List.append_assoc] <;> rfl)⟩
            · obtain ⟨ar', tl', cr', w', hrun, hE'⟩ := HE.out.byte (U / 256) (Z / 256 % 256) (by rw [bv, HZ.out]; rfl) (by omega)
              have HRUN := hid hrun
              have HE' := hid hE'
              clear hrun hE'
              go_wp2_with (first | (at_builtin; refine wpList_append_run rfl (.tmp 44) (.tmp 54) 33 rfl (.slice ar tl cr) (.slice (some ⟨wr.heap.size, 0, none⟩) 1 1) (.slice ar' tl' cr') w' rfl rfl HRUN.out ?_) | fail)
              go_roundg (8 - 7)
              case measure => omega
              case rel => exact ⟨7, ar', tl', cr', by omega, rfl, by go_num, rfl, (HE'.out.more (by omega)).is (by rw [be_take U 8 6 (by decide), List.append_assoc] <;> rfl)⟩
            · obtain ⟨ar', tl', cr', w', hrun, hE'⟩ := HE.out.byte (U / 1) (Z % 256) (by rw [Nat.div_one, bv0, HZ.out]) (by omega)
              have HRUN := hid hrun
              have HE' := hid hE'
              clear hrun hE'
              go_wp2_with (first | (at_builtin; refine wpList_append_run rfl (.tmp 44) (.tmp 54) 33 rfl (.slice ar tl cr) (.slice (some ⟨wr.heap.size, 0, none⟩) 1 1) (.slice ar' tl' cr') w' rfl rfl HRUN.out ?_) | fail)
              go_roundg (8 - 8)
              case measure => omega
              case rel => exact ⟨8, ar', tl', cr', by omega, rfl, by go_num, rfl, (HE'.out.more (by omega)).is (by rw [be_take U 8 7 (by decide), List.append_assoc] <;> rfl)⟩
          · have e : j = 8 := by omega
            subst e
            go_wp2_with fail
            go_roundg (n - (i + 1))
            case measure => omega
            case rel => exact ⟨i + 1, ar, tl, cr, by omega, rfl, by go_num, rfl, (HE.out.more (by omega)).is (by rw [HNS.out, ← List.append_assoc, ← HT1.out, List.take_of_length_le (by rw [be_len]; exact Nat.le_refl _)])⟩
      · have e : i = n := by omega
        subst e
        have hi1 : ¬ (i : Int) < (i : Int) := by omega
        rw [List.take_of_length_le (by rw [← HN.out]; exact Nat.le_refl _)] at HE
        clear hil hi
        obtain ⟨wz, rfl⟩ : ∃ wz, wz = wr := ⟨_, rfl⟩
        go_wp2_with fail
        refine (rput_any t (by omega) _).mono ?_
        rintro e u4 ⟨b4, g4, rfl, hq, hb⟩
        have hE0 := HE.out.call hb
        obtain ⟨ar4, tl4, cr4, w4, hrun, hE⟩ := hE0.add (Sl.own hq rfl) 9 (put_short t) (by omega)
        have HRUN := hid hrun
        clear HE hE0 hrun hq hb
        have HE := hid hE
        clear hE
        generalize (putB t).length = l4 at HRUN ⊢
        clear c0 c1 c2 c3 c4 c5
        obtain ⟨c0, c1, c2, c3, c4, c5⟩ := HCE.out w4 HE.out.bel
        go_wp2_with (first | (at_builtin; refine wpList_append_run rfl (.tmp 56) (.tmp 61) 33 rfl (.slice ar tl cr) (.slice b4 l4 g4) (.slice ar4 tl4 cr4) w4 rfl rfl HRUN.out ?_) | fail)
        clear c0 c1 c2 c3 c4 c5 HRUN
        go_loopg [4, 7] t (fun gg v4 v7 wr => ∃ (q : Nat) (ar : Option Addr) (tl cr : Nat), q ≤ t ∧ gg = t - q ∧ v7 = .int .i64 (q : Int) ∧ v4 = .slice ar tl cr ∧ Eb (500 + 16400 * q) wb ar tl cr (be 2 m.k ++ txt m.ch ++ putB i ++ numsB m.ns ++ putB t ++ termsB (m.ts.take q)) wr)
        case atStart => exact ⟨0, ar4, tl4, cr4, by omega, by omega, rfl, rfl, (HE.out.more (by omega)).is (by simp [termsB])⟩
        case round =>
          obtain ⟨q, ar, tl, cr, hq0, rfl, rfl, rfl, hE⟩ := hrel
          clear HE
          have HE := hid hE
          obtain ⟨c0, c1, c2, c3, c4, c5⟩ := HCE.out wr hE.bel
          have HBR := hid hE.bel
          clear hE
          by_cases hil : q < t
          · have hi1 : (q : Int) < (t : Int) := by omega
            have hik : q < m.ts.length := by rw [← HT.out]; exact hil
            obtain ⟨g, o, hao, hce⟩ := HTC.out q hik
            subst hao
            have hc1 := hce wr HBR.out
            have HTS := hid (termsB_succ m.ts q hik)
            have HDL := hid (deep_len (HP6.out m.ts[q] (List.getElem_mem hik)))
            clear hce
            generalize m.ts[q] = y at hc1 HTS HDL
            go_wp2_with fail
            refine (rtext_any y (by have := HDL.out; omega) _).mono ?_
            rintro e u5 ⟨b5, g5, rfl, hq, hb⟩
            have hE0 := HE.out.call hb
            obtain ⟨ar5, tl5, cr5, w5, hrun, hE⟩ := hE0.add (Sl.own hq rfl) 16393 (by have := txt_len y 16384 HDL.out; omega) (by omega)
            have HRUN := hid hrun
            clear HE hE0 hrun hq hb
            have HE := hid hE
            clear hE
            generalize (txt y).length = l5 at HRUN ⊢
            clear c0 c1 c2 c3 c4 c5
            obtain ⟨c0, c1, c2, c3, c4, c5⟩ := HCE.out w5 HE.out.bel
            go_wp2_with (first | (at_builtin; refine wpList_append_run rfl (.tmp 70) (.tmp 76) 33 rfl (.slice ar tl cr) (.slice b5 l5 g5) (.slice ar5 tl5 cr5) w5 rfl rfl HRUN.out ?_) | fail)
            go_roundg (t - (q + 1))
            case measure => omega
            case rel => exact ⟨q + 1, ar5, tl5, cr5, by omega, rfl, by go_num, rfl, (HE.out.more (by omega)).is (by rw [HTS.out]; simp [txt, List.append_assoc])⟩
          · have e : q = t := by omega
            subst e
            have hi1 : ¬ (q : Int) < (q : Int) := by omega
            rw [List.take_of_length_le (by rw [← HT.out]; exact Nat.le_refl _)] at HE
            clear hil hq0 HBR
            obtain ⟨wy, rfl⟩ : ∃ wy, wy = wr := ⟨_, rfl⟩
            go_wp2_with fail
            refine (rtext_any m.tx (by have := HP4.out; omega) _).mono ?_
            rintro e u6 ⟨b6, g6, rfl, hq, hb⟩
            have hE0 := HE.out.call hb
            obtain ⟨ar6, tl6, cr6, w6, hrun, hE⟩ := hE0.add (Sl.own hq rfl) 4105 (by have := txt_len m.tx 4096 HP4.out; omega) (by omega)
            have HRUN := hid hrun
            clear HE hE0 hrun hq hb
            have HE := hid hE
            clear hE
            generalize (txt m.tx).length = l6 at HRUN ⊢
            clear c0 c1 c2 c3 c4 c5
            obtain ⟨c0, c1, c2, c3, c4, c5⟩ := HCE.out w6 HE.out.bel
            go_wp2_with (first | (at_builtin; refine wpList_append_run rfl (.tmp 78) (.tmp 81) 33 rfl (.slice ar tl cr) (.slice b6 l6 g6) (.slice ar6 tl6 cr6) w6 rfl rfl HRUN.out ?_) | fail)
            refine (HS.out w6 HE.out.bel).mono ?_
            rintro e u7 ⟨b7, g7, rfl, hq, hb⟩
            have hE0 := HE.out.call hb
            obtain ⟨ar7, tl7, cr7, w7, hrun, hE⟩ := hE0.add (Sl.own hq rfl) 32768 HP8.out (by omega)
            have HRUN7 := hid hrun
            clear HE hE0 hrun hq hb
            have HE := hid (hE.is HDF.out.symm)
            clear hE
            have HL := hid HE.out.len
            have htl : tl7 ≤ 1000000 := by rw [HE.out.len]; have := HE.out.bnd; omega
            by_cases hbig : 32768 < tl7
            · have hb1 : (32768 : Int) < (tl7 : Int) := by omega
              go_wp2_with (first | (at_builtin; refine wpList_append_run rfl (.tmp 89) (.tmp 90) 33 rfl (.slice ar6 tl6 cr6) (.slice b7 (streamB m.mo).length g7) (.slice ar7 tl7 cr7) w7 rfl rfl HRUN7.out ?_) | fail)
              go_ret2
              refine ⟨none, 0, ?_⟩
              rw [HRE.out, if_pos (by rw [← HL.out]; exact hbig)]
              exact ⟨rfl, Sl.nil _, two_low HW0.out HE.out.bel⟩
            · have hb1 : ¬ (32768 : Int) < (tl7 : Int) := by omega
              go_wp2_with (first | (at_builtin; refine wpList_append_run rfl (.tmp 89) (.tmp 90) 33 rfl (.slice ar6 tl6 cr6) (.slice b7 (streamB m.mo).length g7) (.slice ar7 tl7 cr7) w7 rfl rfl HRUN7.out ?_) | fail)
              go_ret2
              refine ⟨ar7, cr7, ?_⟩
              rw [HRE.out, if_neg (by rw [← HL.out]; exact hbig)]
              simp only
              rw [← HL.out]
              exact ⟨rfl, by rw [HL.out]; exact Sl.own (by have := HE.out.own; rw [HL.out] at this; exact this) rfl, two_low HW0.out HE.out.bel⟩
end Go.Proofs.YtdhmmllpioppfaaGreat.V
