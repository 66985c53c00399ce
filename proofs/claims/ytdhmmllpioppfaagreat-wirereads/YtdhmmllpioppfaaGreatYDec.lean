/- The document's Decode. -/
import Derived.Test.YtdhmmllpioppfaaGreatYReadAll
import Derived.Test.YtdhmmllpioppfaaGreatYMathAll
import Derived.Test.YtdhmmllpioppfaaGreatXEnc
import Derived.Test.YtdhmmllpioppfaaGreatXLentAll
namespace Go.Proofs.YtdhmmllpioppfaaGreat.V
open Go.RowKit

theorem dText_len (s : Rs) : (dText s).1.length ≤ s.2.length := by
  unfold dText dTake
  split
  · have := dCount_le s
    simp
    omega
  · exact Nat.zero_le _
theorem at_two3 (w : World) (o p q : Obj) : (((w.alloc o).alloc p).alloc q).heap[w.heap.size]? = some o ∧ (((w.alloc o).alloc p).alloc q).heap[w.heap.size + 1]? = some p ∧ (((w.alloc o).alloc p).alloc q).heap[w.heap.size + 2]? = some q := by
  refine ⟨?_, ?_, ?_⟩
  · rw [Below.heap_alloc _ _ _ (by simp; omega), Below.heap_alloc _ _ _ (by simp)]
    exact heap_alloc_new w _
  · rw [Below.heap_alloc _ _ _ (by simp)]
    have := heap_alloc_new (w.alloc o) p
    simpa using this
  · have := heap_alloc_new ((w.alloc o).alloc p) q
    simpa using this
theorem dm_start (W0 : World) (ao : Option Addr) (cap : Nat) (b : Bs) (hs : Sl W0 (.slice ao b.length cap) b) (hb : b.length ≤ 32768) : Dm W0 0 [] [] [] [] (true, b) (((W0.alloc (.cells #[.int .u16 0, St [], .slice none 0 0, .slice none 0 0, St [], .slice none 0 0] 27)).alloc (.cells #[.slice ao b.length cap, .bool true] 72)).alloc (.cells #[.int .u16 0, St [], .slice none 0 0, .slice none 0 0, St [], .slice none 0 0] 27)) := by
  have b1 := (Below.refl W0.heap.size W0).alloc (Nat.le_refl _) (.cells #[.int .u16 0, St [], .slice none 0 0, .slice none 0 0, St [], .slice none 0 0] 27)
  have b2 := b1.alloc (by simp) (.cells #[.slice ao b.length cap, .bool true] 72)
  have b3 := b2.alloc (by simp; omega) (.cells #[.int .u16 0, St [], .slice none 0 0, .slice none 0 0, St [], .slice none 0 0] 27)
  have h1 := (at_two3 W0 (.cells #[.int .u16 0, St [], .slice none 0 0, .slice none 0 0, St [], .slice none 0 0] 27) (.cells #[.slice ao b.length cap, .bool true] 72) (.cells #[.int .u16 0, St [], .slice none 0 0, .slice none 0 0, St [], .slice none 0 0] 27))
  exact ⟨⟨b3, by omega, ⟨_, h1.2.1, hs⟩, hb⟩, h1.1, _, _, h1.2.2, World.ownsRow_nil _ _ _ _, World.ownsRow_nil _ _ _ _⟩
set_option maxRecDepth 100000 in
set_option maxHeartbeats 16000000 in
theorem rdec_any (W0 : World) (v : Value) (b : Bs) (hs : Sl W0 v b) : Calls Tryz.prog 14 #[v] W0 fun e w' => ∃ nv tv mv, e = .returned (.tuple #[Mv (decR b).1.k (decR b).1.ch nv tv (decR b).1.tx mv, .int .i64 ((decR b).2 : Int)]) ∧ Mo W0.heap.size w' nv tv mv (decR b).1 ∧ Below W0.heap.size W0 w' := by
  obtain ⟨ao, cap, rfl⟩ := hs.shape
  obtain ⟨R, hR⟩ : ∃ R, R = decR b := ⟨_, rfl⟩
  rw [← hR]
  have HR := hid hR
  clear hR
  have HSL := hid hs
  clear hs
  by_cases hbig : 32768 < b.length
  · have HRE : Hid (R = (noM, 3)) := hid (by rw [HR.out]; unfold decR; rw [if_pos hbig])
    have hb1 : (32768 : Int) < (b.length : Int) := by omega
    clear HR HSL
    generalize b.length = q at *
    go_enter Tryz.func14, Tryz.ntmps14
    go_wp2_with fail
    refine bodyPost_ret (results_c2 rfl rfl (load_msg (heap_alloc_new W0 (.cells #[.int .u16 0, St [], .slice none 0 0, .slice none 0 0, St [], .slice none 0 0] 27)))) rfl ⟨.slice none 0 0, .slice none 0 0, .slice none 0 0, by rw [HRE.out]; rfl, by rw [HRE.out]; exact Mo.none _ _, (Below.refl _ _).alloc (Nat.le_refl _) _⟩
  · have hb1 : ¬ (32768 : Int) < (b.length : Int) := by omega
    have HRE := hid (HR.out.trans (dec_D hbig))
    have hD := dm_start W0 ao cap b HSL.out (by omega)
    obtain ⟨k, s1, hd⟩ : ∃ k s1, dNum 2 (true, b) = (k, s1) := ⟨_, _, rfl⟩
    have HC := hid (rnumber_any W0 (W0.heap.size + 1) 2 (by omega) (true, b) _ hD.rd)
    have hG := g1 b
    have hk := dNum_lt 2 (true, b)
    rw [hd] at HC hG hk
    simp only at hG hk
    have hk1 : k < 65536 := hk
    have hkw : IntKind.u16.wrap (k : Int) = (k : Int) := by rw [IntKind.wrap_u16]; omega
    have HG := hid hG
    have HD := hid hD
    clear hD hG hk hd hbig HR HSL
    go_enter Tryz.func14, Tryz.ntmps14
    go_wp2_with fail
    refine HC.out.mono ?_
    rintro e w1 ⟨rfl, hr, hf⟩
    have hD := HD.out.read hr hf
    clear hr hf HC HD
    obtain ⟨q1, q2, q3, q4, q5, qf⟩ := (hD).cells
    have f0 := qf 0
    have f1 := qf 1
    have f4 := qf 4
    have f5 := qf 5
    clear qf
    have HD := hid (hD.setk k)
    clear hD
    obtain ⟨ch, s2, hd⟩ : ∃ ch s2, dText s1 = (ch, s2) := ⟨_, _, rfl⟩
    have HC := hid (rtextr_any W0 (W0.heap.size + 1) s1 _ HD.out.rd)
    have hG := g2 HG.out
    have hcl := dText_len s1
    have hsl := HD.out.rd.len
    rw [hd] at HC hG hcl
    have HCH : Hid (ch.length ≤ 32768) := hid (Nat.le_trans hcl hsl)
    clear HG hd hcl hsl
    have HG := hid hG
    clear hG
    go_wp2_with fail
    refine HC.out.mono ?_
    rintro e w2 ⟨rfl, hr, hf⟩
    have hD := HD.out.read hr hf
    clear hr hf HC HD
    clear q1 q2 q3 q4 q5 f0 f1 f4 f5
    obtain ⟨q1, q2, q3, q4, q5, qf⟩ := (hD).cells
    have f0 := qf 0
    have f1 := qf 1
    have f4 := qf 4
    have f5 := qf 5
    clear qf
    have HD := hid (hD.setch ch)
    clear hD
    obtain ⟨N, s3, hd⟩ : ∃ N s3, dCount s2 = (N, s3) := ⟨_, _, rfl⟩
    have HC := hid (rcount_any W0 (W0.heap.size + 1) s2.1 s2.2 _ HD.out.rd)
    have hG := g3 HG.out
    have hN := dCount_lt s2
    rw [show dCount (s2.1, s2.2) = (N, s3) from hd] at HC
    rw [hd] at hG hN
    simp only at hG hN
    clear HG hd
    have HG := hid hG
    clear hG
    go_wp2_with fail
    refine HC.out.mono ?_
    rintro e w3 ⟨rfl, hr, hf⟩
    have hD := HD.out.read hr hf
    clear hr hf HC HD
    have HD := hid hD
    clear hD
    clear q1 q2 q3 q4 q5 f0 f1 f4 f5
    go_wp2_with fail
    go_loopg [7, 8] (ms s3) (fun gg v7 _v8 wr => ∃ (i : Nat) (l : List Int) (s : Rs), i ≤ N ∧ gg = ms s ∧ v7 = .int .u64 (i : Int) ∧ l.length + ms s ≤ 32769 ∧ Dm W0 k ch l [] [] s wr ∧ Gd b (A4 b k ch N i l) s)
    case atStart => exact ⟨0, [], s3, by omega, rfl, rfl, by have := HD.out.rd.len; unfold ms; simp; split <;> omega, HD.out, HG.out⟩
    case round =>
      obtain ⟨i, l, s, hi, rfl, rfl, hlm, hD, hG⟩ := hrel
      clear HD HG
      have HD := hid hD
      have HG := hid hG
      have HLM := hid hlm
      obtain ⟨q1, _⟩ := hD.cells
      clear hD hG hlm
      by_cases hgo : i < N
      · have hg1 : (i : Int) < (N : Int) := by omega
        obtain ⟨ok, y⟩ := s
        simp only at q1
        cases ok with
        | true =>
          obtain ⟨U, s', hd⟩ : ∃ U s', dNum 8 (true, y) = (U, s') := ⟨_, _, rfl⟩
          have HC := hid (rnumber_any W0 (W0.heap.size + 1) 8 (by omega) (true, y) wr HD.out.rd)
          have hG := g4 HG.out hgo
          have hms := ms_num y
          have hU := dNum_lt 8 (true, y)
          rw [hd] at HC hG hms hU
          simp only at hG hms hU
          have hU1 : U < 18446744073709551616 := hU
          have hUw := s64_wrap U hU1
          have HG' := hid hG
          have HMS := hid hms
          have hll : l.length ≤ 32769 := by have := HLM.out; omega
          have hiw : IntKind.u64.wrap ((i : Int) + 1) = ((i + 1 : Nat) : Int) := by rw [IntKind.wrap_u64]; omega
          clear hG hms hU hU1 hd HG
          go_wp2_with fail
          refine HC.out.mono ?_
          rintro e w4 ⟨rfl, hr, hf⟩
          obtain ⟨a3, c3, a4, c4, n4, w5, e1, hrun, e2, e3, hD2⟩ := (HD.out.read hr hf).num (s64 U) (by omega)
          have HRUN := hid hrun
          have HD2 := hid hD2
          clear hr hf hrun hD2 HD HC q1
          generalize s64 U = S at *
          generalize hln : l.length = ln at e1 e2 HRUN
          clear hln
          go_wp2_with (first | (at_builtin; refine wpList_append_run rfl (.tmp 44) (.tmp 47) 23 rfl (.slice a3 ln c3) (.slice (some ⟨w4.heap.size, 0, none⟩) 1 1) (.slice a4 n4 c4) w5 rfl rfl HRUN.out ?_) | fail)
          go_roundg (ms s')
          case measure => exact HMS.out
          case rel => exact ⟨i + 1, l ++ [S], s', by omega, rfl, by first | rfl | go_num, by have h1 := HLM.out; have h2 := HMS.out; rw [List.length_append]; simp; omega, HD2.out, HG'.out⟩
        | false =>
          have HG' := hid (g5 HG.out (fun e => by cases e))
          clear HG
          have HG := hid HG'.out
          clear HG'
          have HNL : Hid (l.length ≤ 32769) := hid (by have := HLM.out; omega)
          clear HLM hi
          obtain ⟨wz, rfl⟩ : ∃ wz, wz = wr := ⟨_, rfl⟩
          obtain ⟨K, s5, hd⟩ : ∃ K s5, dCount (false, y) = (K, s5) := ⟨_, _, rfl⟩
          have HC := hid (rcount_any W0 (W0.heap.size + 1) false y _ HD.out.rd)
          have hG := g6 HG.out
          have hK := dCount_lt (false, y)
          rw [show dCount (false, y) = (K, s5) from hd] at HC
          rw [hd] at hG hK
          simp only at hG hK
          clear HG hd
          have HG := hid hG
          clear hG
          go_wp2_with fail
          refine HC.out.mono ?_
          rintro e w6 ⟨rfl, hr, hf⟩
          have hD := HD.out.read hr hf
          clear hr hf HC HD
          have HD := hid hD
          clear hD q1
          go_wp2_with fail
          go_loopg [10, 11] (ms s5) (fun gg v10 _v11 wr => ∃ (j : Nat) (t : List Bs) (s : Rs), j ≤ K ∧ gg = ms s ∧ v10 = .int .u64 (j : Int) ∧ t.length + ms s ≤ 32769 ∧ Dm W0 k ch l t [] s wr ∧ Gd b (A7 b k ch l K j t) s)
          case atStart => exact ⟨0, [], s5, by omega, rfl, rfl, by have := HD.out.rd.len; unfold ms; simp; split <;> omega, HD.out, HG.out⟩
          case round =>
            obtain ⟨j, t, s, hj, rfl, rfl, hlm, hD, hG⟩ := hrel
            clear HD HG
            have HD := hid hD
            have HG := hid hG
            have HLM := hid hlm
            obtain ⟨q1, _⟩ := hD.cells
            clear hD hG hlm
            by_cases hgo2 : j < K
            · have hg2 : (j : Int) < (K : Int) := by omega
              obtain ⟨ok2, y2⟩ := s
              simp only at q1
              cases ok2 with
              | true =>
                obtain ⟨U, s', hd⟩ : ∃ U s', dText (true, y2) = (U, s') := ⟨_, _, rfl⟩
                have HC := hid (rtextr_any W0 (W0.heap.size + 1) (true, y2) wr HD.out.rd)
                have hG := g7 HG.out hgo2
                have hms := ms_text y2
                rw [hd] at HC hG hms
                simp only at hG hms
                have HG' := hid hG
                have HMS := hid hms
                have hll : t.length ≤ 32769 := by have := HLM.out; omega
                have hiw : IntKind.u64.wrap ((j : Int) + 1) = ((j + 1 : Nat) : Int) := by rw [IntKind.wrap_u64]; omega
                clear hG hms hd HG
                go_wp2_with fail
                refine HC.out.mono ?_
                rintro e w7 ⟨rfl, hr, hf⟩
                obtain ⟨a3, c3, a4, c4, n4, w8, e1, hrun, e2, e3, hD2⟩ := (HD.out.read hr hf).term U (by omega)
                have HRUN := hid hrun
                have HD2 := hid hD2
                clear hr hf hrun hD2 HD HC q1
                generalize hln : t.length = ln at e1 e2 HRUN
                clear hln
                go_wp2_with (first | (at_builtin; refine wpList_append_run rfl (.tmp 66) (.tmp 68) 24 rfl (.slice a3 ln c3) (.slice (some ⟨w7.heap.size, 0, none⟩) 1 1) (.slice a4 n4 c4) w8 rfl rfl HRUN.out ?_) | fail)
                go_roundg (ms s')
                case measure => exact HMS.out
                case rel => exact ⟨j + 1, t ++ [U], s', by omega, rfl, by first | rfl | go_num, by have h1 := HLM.out; have h2 := HMS.out; rw [List.length_append]; simp; omega, HD2.out, HG'.out⟩
              | false =>
                have HG' := hid (g8 HG.out (fun e => by cases e))
                clear HG
                have HG := hid HG'.out
                clear HG'
                have HTL : Hid (t.length ≤ 32769) := hid (by have := HLM.out; omega)
                clear HLM hj
                obtain ⟨wy, rfl⟩ : ∃ wy, wy = wr := ⟨_, rfl⟩
                obtain ⟨tx, s9, hd⟩ : ∃ tx s9, dText (false, y2) = (tx, s9) := ⟨_, _, rfl⟩
                have HC := hid (rtextr_any W0 (W0.heap.size + 1) (false, y2) _ HD.out.rd)
                have hG := g9 HG.out
                have htl := dText_len (false, y2)
                have hsl := HD.out.rd.len
                rw [hd] at HC hG htl
                have HTX : Hid (tx.length ≤ 32768) := hid (Nat.le_trans htl hsl)
                clear HG hd htl hsl
                have HG := hid hG
                clear hG
                go_wp2_with fail
                refine HC.out.mono ?_
                rintro e w9 ⟨rfl, hr, hf⟩
                have hD := HD.out.read hr hf
                clear hr hf HC HD q1
                obtain ⟨q1, q2, q3, q4, q5, qf⟩ := (hD).cells
                have f0 := qf 0
                have f1 := qf 1
                have f4 := qf 4
                have f5 := qf 5
                clear qf
                have hD9 := hD.settx tx
                obtain ⟨ok9, y9⟩ := s9
                obtain ⟨vr, hv1, hv2⟩ := hD9.rd.blk
                obtain ⟨vr0, hu1, hu2⟩ := hD.rd.blk
                have hvr : vr0 = vr := by
                  have := (Below.heap_setCell w9 ⟨W0.heap.size + 2, 4, none⟩ (St tx) (W0.heap.size + 1) (by show W0.heap.size + 1 ≠ W0.heap.size + 2; omega)).trans hu1
                  have h9 := hv1.symm.trans this
                  simp only [Option.some.injEq, Obj.cells.injEq, Array.mk.injEq, List.cons.injEq] at h9
                  exact h9.1.1.symm
                subst hvr
                obtain ⟨av, cv, hve⟩ := hv2.shape
                subst hve
                have r0 : w9.cell? ⟨W0.heap.size + 1, 0, none⟩ = some (.slice av y9.length cv) := (cell_of_heap hu1 0).trans rfl
                have hyl := hD9.rd.len
                have HRC := hid (rrecords_any _ _ y9 (hv2.below hD9.rd.bel) (by simp only at hyl; omega))
                obtain ⟨L, rc, hrec⟩ : ∃ L rc, recsB y9 = (L, rc) := ⟨_, _, rfl⟩
                rw [hrec] at HRC
                have HREC := hid hrec
                have HD := hid hD9
                clear hD hD9 hv1 hv2 hu1 hu2 hrec hyl
                generalize y9.length = yl at r0 HRC ⊢
                go_wp2_with fail
                refine HRC.out.mono ?_
                rintro e w10 ⟨a10, c10, rfl, hro, hb⟩
                have hD := HD.out.read (HD.out.rd.call hb) (Fk.below hb)
                have HRO := hid (hro.lower HD.out.rows)
                clear HD HRC hro hb r0 q1 q2 q3 q4 q5 f0 f1 f4 f5
                obtain ⟨q1, q2, q3, q4, q5, qf⟩ := hD.cells
                have f5 := qf 5
                have HHx := hD.res
                have z0 : w10.cell? ⟨W0.heap.size, 0, none⟩ = some (.int .u16 0) := (cell_of_heap HHx 0).trans rfl
                have z1 : w10.cell? ⟨W0.heap.size, 1, none⟩ = some (St []) := (cell_of_heap HHx 1).trans rfl
                have z2 : w10.cell? ⟨W0.heap.size, 2, none⟩ = some (.slice none 0 0) := (cell_of_heap HHx 2).trans rfl
                have z3 : w10.cell? ⟨W0.heap.size, 3, none⟩ = some (.slice none 0 0) := (cell_of_heap HHx 3).trans rfl
                have z4 : w10.cell? ⟨W0.heap.size, 4, none⟩ = some (St []) := (cell_of_heap HHx 4).trans rfl
                have z5 : w10.cell? ⟨W0.heap.size, 5, none⟩ = some (.slice none 0 0) := (cell_of_heap HHx 5).trans rfl
                have k0 := frozen_of_heap HHx 0
                have k1 := frozen_of_heap HHx 1
                have k2 := frozen_of_heap HHx 2
                have k3 := frozen_of_heap HHx 3
                have k4 := frozen_of_heap HHx 4
                have k5 := frozen_of_heap HHx 5
                have HXX := hid ((Below.heap_setCell w10 ⟨W0.heap.size + 2, 5, none⟩ (.slice a10 L.length c10) W0.heap.size (by show W0.heap.size ≠ W0.heap.size + 2; omega)).trans HHx)
                have HBB := hid (set1_below hD.rd.bel (show W0.heap.size ≤ W0.heap.size + 2 by omega) 5 (.slice a10 L.length c10))
                have HD := hid hD
                clear qf HHx hD
                cases ok9 with
                | false =>
                  have HRE' : Hid (R = (noM, 80)) := hid (by rw [HRE.out, HG.out.2 rfl])
                  go_wp2_with fail
                  refine bodyPost_ret (results_c2 rfl rfl (load_msg (set6_at HXX.out (.int .u16 0) (St []) (.slice none 0 0) (.slice none 0 0) (St []) (.slice none 0 0)))) rfl ⟨.slice none 0 0, .slice none 0 0, .slice none 0 0, by rw [HRE'.out]; rfl, by rw [HRE'.out]; exact Mo.none _ _, ?_⟩
                  exact set6_below HBB.out (Nat.le_refl _) _ _ _ _ _ _
                | true =>
                  have hA := HG.out.1 rfl
                  have HE9 := hid (end9 hA)
                  rw [HREC.out] at HE9
                  clear hA
                  by_cases hrc : rc = 0
                  · subst hrc
                    rw [if_pos rfl] at HE9
                    have hFew := (recs_few HREC.out).1
                    obtain ⟨nv, tv, hvb, hno, hto⟩ := HD.out.var
                    obtain ⟨an, cn, hne⟩ := own_is hno
                    obtain ⟨at', ct, hte⟩ := own_is hto
                    subst hne
                    subst hte
                    have hml : MLen ⟨k, ch, l, t, tx, L⟩ := ⟨hk1, by have := HNL.out; show l.length ≤ _; omega, by have := HTL.out; show t.length ≤ _; omega, by have := HCH.out; show ch.length ≤ _; omega, by have := HTX.out; show tx.length ≤ _; omega, hFew⟩
                    have hMo : Mo (W0.heap.size + 3) w10 (.slice an l.length cn) (.slice at' t.length ct) (.slice a10 L.length c10) ⟨k, ch, l, t, tx, L⟩ := ⟨hno, hto, HRO.out⟩
                    have hMo2 := mo_set1 hMo (x := W0.heap.size + 2) (by omega) 5 (.slice a10 L.length c10)
                    have HMY := hid (rmay_any right_r _ _ _ _ _ hMo2.ms hml)
                    have HM2 := hid hMo2
                    have p2 : w10.cell? ⟨W0.heap.size + 2, 2, none⟩ = some (.slice an l.length cn) := (cell_of_heap hvb 2).trans rfl
                    have p3 : w10.cell? ⟨W0.heap.size + 2, 3, none⟩ = some (.slice at' t.length ct) := (cell_of_heap hvb 3).trans rfl
                    have HVB := hid ((heap_setCell_same hvb 5 (.slice a10 L.length c10)).trans rfl : (w10.setCell ⟨W0.heap.size + 2, 5, none⟩ (.slice a10 L.length c10)).heap[W0.heap.size + 2]? = some (.cells #[.int .u16 (k : Int), St ch, .slice an l.length cn, .slice at' t.length ct, St tx, .slice a10 L.length c10] 27))
                    clear hno hto hvb hMo hMo2 hml hFew HD HRO
                    go_wp2_with fail
                    refine HMY.out.mono ?_
                    rintro e w12 ⟨rfl, hb12⟩
                    have hx12 := (hb12.block _ (lt_of_block HXX.out)).trans HXX.out
                    have hv12 := (hb12.block _ (lt_of_block HVB.out)).trans HVB.out
                    have HM12 := hid (HM2.out.below hb12)
                    have hB12 := HBB.out.trans (hb12.mono HBB.out.size)
                    clear q1 q2 q3 q4 q5 f5 z0 z1 z2 z3 z4 z5 k0 k1 k2 k3 k4 k5 p2 p3 HXX HBB HM2 HVB HMY hb12
                    have z0 : w12.cell? ⟨W0.heap.size, 0, none⟩ = some (.int .u16 0) := (cell_of_heap hx12 0).trans rfl
                    have z1 : w12.cell? ⟨W0.heap.size, 1, none⟩ = some (St []) := (cell_of_heap hx12 1).trans rfl
                    have z2 : w12.cell? ⟨W0.heap.size, 2, none⟩ = some (.slice none 0 0) := (cell_of_heap hx12 2).trans rfl
                    have z3 : w12.cell? ⟨W0.heap.size, 3, none⟩ = some (.slice none 0 0) := (cell_of_heap hx12 3).trans rfl
                    have z4 : w12.cell? ⟨W0.heap.size, 4, none⟩ = some (St []) := (cell_of_heap hx12 4).trans rfl
                    have z5 : w12.cell? ⟨W0.heap.size, 5, none⟩ = some (.slice none 0 0) := (cell_of_heap hx12 5).trans rfl
                    have k0 := frozen_of_heap hx12 0
                    have k1 := frozen_of_heap hx12 1
                    have k2 := frozen_of_heap hx12 2
                    have k3 := frozen_of_heap hx12 3
                    have k4 := frozen_of_heap hx12 4
                    have k5 := frozen_of_heap hx12 5
                    have HXX := hid hx12
                    have HBB := hid hB12
                    cases hmb : mayB ⟨k, ch, l, t, tx, L⟩ with
                    | false =>
                      have HRE' : Hid (R = (noM, 80)) := hid (by rw [HRE.out, HE9.out]; simp [hmb])
                      clear hx12 hv12 hB12 hmb
                      go_wp2_with fail
                      refine bodyPost_ret (results_c2 rfl rfl (load_msg (set6_at HXX.out (.int .u16 0) (St []) (.slice none 0 0) (.slice none 0 0) (St []) (.slice none 0 0)))) rfl ⟨.slice none 0 0, .slice none 0 0, .slice none 0 0, by rw [HRE'.out]; rfl, by rw [HRE'.out]; exact Mo.none _ _, ?_⟩
                      exact set6_below HBB.out (Nat.le_refl _) _ _ _ _ _ _
                    | true =>
                      have HRE' : Hid (R = (⟨k, ch, l, t, tx, L⟩, 0)) := hid (by rw [HRE.out, HE9.out]; simp [hmb])
                      have d0 : w12.cell? ⟨W0.heap.size + 2, 0, none⟩ = some (.int .u16 (k : Int)) := (cell_of_heap hv12 0).trans rfl
                      have d1 : w12.cell? ⟨W0.heap.size + 2, 1, none⟩ = some (St ch) := (cell_of_heap hv12 1).trans rfl
                      have d2 : w12.cell? ⟨W0.heap.size + 2, 2, none⟩ = some (.slice an l.length cn) := (cell_of_heap hv12 2).trans rfl
                      have d3 : w12.cell? ⟨W0.heap.size + 2, 3, none⟩ = some (.slice at' t.length ct) := (cell_of_heap hv12 3).trans rfl
                      have d4 : w12.cell? ⟨W0.heap.size + 2, 4, none⟩ = some (St tx) := (cell_of_heap hv12 4).trans rfl
                      have d5 : w12.cell? ⟨W0.heap.size + 2, 5, none⟩ = some (.slice a10 L.length c10) := (cell_of_heap hv12 5).trans rfl
                      clear hx12 hv12 hB12 hmb
                      go_wp2_with fail
                      refine bodyPost_ret (results_c2 rfl rfl (load_msg (set6_at HXX.out (.int .u16 (k : Int)) (St ch) (.slice an l.length cn) (.slice at' t.length ct) (St tx) (.slice a10 L.length c10)))) rfl ⟨.slice an l.length cn, .slice at' t.length ct, .slice a10 L.length c10, by rw [HRE'.out]; rfl, ?_, ?_⟩
                      · rw [HRE'.out]
                        exact (HM12.out.set6 (by omega) _ _ _ _ _ _).lower (by omega)
                      · exact set6_below HBB.out (Nat.le_refl _) _ _ _ _ _ _
                  · have hrc1 : ¬ (rc : Int) = 0 := by omega
                    have hrc2 : ((rc : Int) == 0) = false := by simpa using hrc1
                    rw [if_neg hrc] at HE9
                    have HRE' : Hid (R = (noM, 80)) := hid (by rw [HRE.out, HE9.out])
                    go_wp2_with fail
                    refine bodyPost_ret (results_c2 rfl rfl (load_msg (set6_at HXX.out (.int .u16 0) (St []) (.slice none 0 0) (.slice none 0 0) (St []) (.slice none 0 0)))) rfl ⟨.slice none 0 0, .slice none 0 0, .slice none 0 0, by rw [HRE'.out]; rfl, by rw [HRE'.out]; exact Mo.none _ _, ?_⟩
                    exact set6_below HBB.out (Nat.le_refl _) _ _ _ _ _ _
            · have hg2 : ¬ (j : Int) < (K : Int) := by omega
              have HG' := hid (g8 HG.out (fun _ => by omega))
              clear HG
              have HG := hid HG'.out
              clear HG'
              have HTL : Hid (t.length ≤ 32769) := hid (by have := HLM.out; omega)
              clear HLM hj
              obtain ⟨wy, rfl⟩ : ∃ wy, wy = wr := ⟨_, rfl⟩
              obtain ⟨tx, s9, hd⟩ : ∃ tx s9, dText s = (tx, s9) := ⟨_, _, rfl⟩
              have HC := hid (rtextr_any W0 (W0.heap.size + 1) s _ HD.out.rd)
              have hG := g9 HG.out
              have htl := dText_len s
              have hsl := HD.out.rd.len
              rw [hd] at HC hG htl
              have HTX : Hid (tx.length ≤ 32768) := hid (Nat.le_trans htl hsl)
              clear HG hd htl hsl
              have HG := hid hG
              clear hG
              go_wp2_with fail
              refine HC.out.mono ?_
              rintro e w9 ⟨rfl, hr, hf⟩
              have hD := HD.out.read hr hf
              clear hr hf HC HD q1
              obtain ⟨q1, q2, q3, q4, q5, qf⟩ := (hD).cells
              have f0 := qf 0
              have f1 := qf 1
              have f4 := qf 4
              have f5 := qf 5
              clear qf
              have hD9 := hD.settx tx
              obtain ⟨ok9, y9⟩ := s9
              obtain ⟨vr, hv1, hv2⟩ := hD9.rd.blk
              obtain ⟨vr0, hu1, hu2⟩ := hD.rd.blk
              have hvr : vr0 = vr := by
                have := (Below.heap_setCell w9 ⟨W0.heap.size + 2, 4, none⟩ (St tx) (W0.heap.size + 1) (by show W0.heap.size + 1 ≠ W0.heap.size + 2; omega)).trans hu1
                have h9 := hv1.symm.trans this
                simp only [Option.some.injEq, Obj.cells.injEq, Array.mk.injEq, List.cons.injEq] at h9
                exact h9.1.1.symm
              subst hvr
              obtain ⟨av, cv, hve⟩ := hv2.shape
              subst hve
              have r0 : w9.cell? ⟨W0.heap.size + 1, 0, none⟩ = some (.slice av y9.length cv) := (cell_of_heap hu1 0).trans rfl
              have hyl := hD9.rd.len
              have HRC := hid (rrecords_any _ _ y9 (hv2.below hD9.rd.bel) (by simp only at hyl; omega))
              obtain ⟨L, rc, hrec⟩ : ∃ L rc, recsB y9 = (L, rc) := ⟨_, _, rfl⟩
              rw [hrec] at HRC
              have HREC := hid hrec
              have HD := hid hD9
              clear hD hD9 hv1 hv2 hu1 hu2 hrec hyl
              generalize y9.length = yl at r0 HRC ⊢
              go_wp2_with fail
              refine HRC.out.mono ?_
              rintro e w10 ⟨a10, c10, rfl, hro, hb⟩
              have hD := HD.out.read (HD.out.rd.call hb) (Fk.below hb)
              have HRO := hid (hro.lower HD.out.rows)
              clear HD HRC hro hb r0 q1 q2 q3 q4 q5 f0 f1 f4 f5
              obtain ⟨q1, q2, q3, q4, q5, qf⟩ := hD.cells
              have f5 := qf 5
              have HHx := hD.res
              have z0 : w10.cell? ⟨W0.heap.size, 0, none⟩ = some (.int .u16 0) := (cell_of_heap HHx 0).trans rfl
              have z1 : w10.cell? ⟨W0.heap.size, 1, none⟩ = some (St []) := (cell_of_heap HHx 1).trans rfl
              have z2 : w10.cell? ⟨W0.heap.size, 2, none⟩ = some (.slice none 0 0) := (cell_of_heap HHx 2).trans rfl
              have z3 : w10.cell? ⟨W0.heap.size, 3, none⟩ = some (.slice none 0 0) := (cell_of_heap HHx 3).trans rfl
              have z4 : w10.cell? ⟨W0.heap.size, 4, none⟩ = some (St []) := (cell_of_heap HHx 4).trans rfl
              have z5 : w10.cell? ⟨W0.heap.size, 5, none⟩ = some (.slice none 0 0) := (cell_of_heap HHx 5).trans rfl
              have k0 := frozen_of_heap HHx 0
              have k1 := frozen_of_heap HHx 1
              have k2 := frozen_of_heap HHx 2
              have k3 := frozen_of_heap HHx 3
              have k4 := frozen_of_heap HHx 4
              have k5 := frozen_of_heap HHx 5
              have HXX := hid ((Below.heap_setCell w10 ⟨W0.heap.size + 2, 5, none⟩ (.slice a10 L.length c10) W0.heap.size (by show W0.heap.size ≠ W0.heap.size + 2; omega)).trans HHx)
              have HBB := hid (set1_below hD.rd.bel (show W0.heap.size ≤ W0.heap.size + 2 by omega) 5 (.slice a10 L.length c10))
              have HD := hid hD
              clear qf HHx hD
              cases ok9 with
              | false =>
                have HRE' : Hid (R = (noM, 80)) := hid (by rw [HRE.out, HG.out.2 rfl])
                go_wp2_with fail
                refine bodyPost_ret (results_c2 rfl rfl (load_msg (set6_at HXX.out (.int .u16 0) (St []) (.slice none 0 0) (.slice none 0 0) (St []) (.slice none 0 0)))) rfl ⟨.slice none 0 0, .slice none 0 0, .slice none 0 0, by rw [HRE'.out]; rfl, by rw [HRE'.out]; exact Mo.none _ _, ?_⟩
                exact set6_below HBB.out (Nat.le_refl _) _ _ _ _ _ _
              | true =>
                have hA := HG.out.1 rfl
                have HE9 := hid (end9 hA)
                rw [HREC.out] at HE9
                clear hA
                by_cases hrc : rc = 0
                · subst hrc
                  rw [if_pos rfl] at HE9
                  have hFew := (recs_few HREC.out).1
                  obtain ⟨nv, tv, hvb, hno, hto⟩ := HD.out.var
                  obtain ⟨an, cn, hne⟩ := own_is hno
                  obtain ⟨at', ct, hte⟩ := own_is hto
                  subst hne
                  subst hte
                  have hml : MLen ⟨k, ch, l, t, tx, L⟩ := ⟨hk1, by have := HNL.out; show l.length ≤ _; omega, by have := HTL.out; show t.length ≤ _; omega, by have := HCH.out; show ch.length ≤ _; omega, by have := HTX.out; show tx.length ≤ _; omega, hFew⟩
                  have hMo : Mo (W0.heap.size + 3) w10 (.slice an l.length cn) (.slice at' t.length ct) (.slice a10 L.length c10) ⟨k, ch, l, t, tx, L⟩ := ⟨hno, hto, HRO.out⟩
                  have hMo2 := mo_set1 hMo (x := W0.heap.size + 2) (by omega) 5 (.slice a10 L.length c10)
                  have HMY := hid (rmay_any right_r _ _ _ _ _ hMo2.ms hml)
                  have HM2 := hid hMo2
                  have p2 : w10.cell? ⟨W0.heap.size + 2, 2, none⟩ = some (.slice an l.length cn) := (cell_of_heap hvb 2).trans rfl
                  have p3 : w10.cell? ⟨W0.heap.size + 2, 3, none⟩ = some (.slice at' t.length ct) := (cell_of_heap hvb 3).trans rfl
                  have HVB := hid ((heap_setCell_same hvb 5 (.slice a10 L.length c10)).trans rfl : (w10.setCell ⟨W0.heap.size + 2, 5, none⟩ (.slice a10 L.length c10)).heap[W0.heap.size + 2]? = some (.cells #[.int .u16 (k : Int), St ch, .slice an l.length cn, .slice at' t.length ct, St tx, .slice a10 L.length c10] 27))
                  clear hno hto hvb hMo hMo2 hml hFew HD HRO
                  go_wp2_with fail
                  refine HMY.out.mono ?_
                  rintro e w12 ⟨rfl, hb12⟩
                  have hx12 := (hb12.block _ (lt_of_block HXX.out)).trans HXX.out
                  have hv12 := (hb12.block _ (lt_of_block HVB.out)).trans HVB.out
                  have HM12 := hid (HM2.out.below hb12)
                  have hB12 := HBB.out.trans (hb12.mono HBB.out.size)
                  clear q1 q2 q3 q4 q5 f5 z0 z1 z2 z3 z4 z5 k0 k1 k2 k3 k4 k5 p2 p3 HXX HBB HM2 HVB HMY hb12
                  have z0 : w12.cell? ⟨W0.heap.size, 0, none⟩ = some (.int .u16 0) := (cell_of_heap hx12 0).trans rfl
                  have z1 : w12.cell? ⟨W0.heap.size, 1, none⟩ = some (St []) := (cell_of_heap hx12 1).trans rfl
                  have z2 : w12.cell? ⟨W0.heap.size, 2, none⟩ = some (.slice none 0 0) := (cell_of_heap hx12 2).trans rfl
                  have z3 : w12.cell? ⟨W0.heap.size, 3, none⟩ = some (.slice none 0 0) := (cell_of_heap hx12 3).trans rfl
                  have z4 : w12.cell? ⟨W0.heap.size, 4, none⟩ = some (St []) := (cell_of_heap hx12 4).trans rfl
                  have z5 : w12.cell? ⟨W0.heap.size, 5, none⟩ = some (.slice none 0 0) := (cell_of_heap hx12 5).trans rfl
                  have k0 := frozen_of_heap hx12 0
                  have k1 := frozen_of_heap hx12 1
                  have k2 := frozen_of_heap hx12 2
                  have k3 := frozen_of_heap hx12 3
                  have k4 := frozen_of_heap hx12 4
                  have k5 := frozen_of_heap hx12 5
                  have HXX := hid hx12
                  have HBB := hid hB12
                  cases hmb : mayB ⟨k, ch, l, t, tx, L⟩ with
                  | false =>
                    have HRE' : Hid (R = (noM, 80)) := hid (by rw [HRE.out, HE9.out]; simp [hmb])
                    clear hx12 hv12 hB12 hmb
                    go_wp2_with fail
                    refine bodyPost_ret (results_c2 rfl rfl (load_msg (set6_at HXX.out (.int .u16 0) (St []) (.slice none 0 0) (.slice none 0 0) (St []) (.slice none 0 0)))) rfl ⟨.slice none 0 0, .slice none 0 0, .slice none 0 0, by rw [HRE'.out]; rfl, by rw [HRE'.out]; exact Mo.none _ _, ?_⟩
                    exact set6_below HBB.out (Nat.le_refl _) _ _ _ _ _ _
                  | true =>
                    have HRE' : Hid (R = (⟨k, ch, l, t, tx, L⟩, 0)) := hid (by rw [HRE.out, HE9.out]; simp [hmb])
                    have d0 : w12.cell? ⟨W0.heap.size + 2, 0, none⟩ = some (.int .u16 (k : Int)) := (cell_of_heap hv12 0).trans rfl
                    have d1 : w12.cell? ⟨W0.heap.size + 2, 1, none⟩ = some (St ch) := (cell_of_heap hv12 1).trans rfl
                    have d2 : w12.cell? ⟨W0.heap.size + 2, 2, none⟩ = some (.slice an l.length cn) := (cell_of_heap hv12 2).trans rfl
                    have d3 : w12.cell? ⟨W0.heap.size + 2, 3, none⟩ = some (.slice at' t.length ct) := (cell_of_heap hv12 3).trans rfl
                    have d4 : w12.cell? ⟨W0.heap.size + 2, 4, none⟩ = some (St tx) := (cell_of_heap hv12 4).trans rfl
                    have d5 : w12.cell? ⟨W0.heap.size + 2, 5, none⟩ = some (.slice a10 L.length c10) := (cell_of_heap hv12 5).trans rfl
                    clear hx12 hv12 hB12 hmb
                    go_wp2_with fail
                    refine bodyPost_ret (results_c2 rfl rfl (load_msg (set6_at HXX.out (.int .u16 (k : Int)) (St ch) (.slice an l.length cn) (.slice at' t.length ct) (St tx) (.slice a10 L.length c10)))) rfl ⟨.slice an l.length cn, .slice at' t.length ct, .slice a10 L.length c10, by rw [HRE'.out]; rfl, ?_, ?_⟩
                    · rw [HRE'.out]
                      exact (HM12.out.set6 (by omega) _ _ _ _ _ _).lower (by omega)
                    · exact set6_below HBB.out (Nat.le_refl _) _ _ _ _ _ _
                · have hrc1 : ¬ (rc : Int) = 0 := by omega
                  have hrc2 : ((rc : Int) == 0) = false := by simpa using hrc1
                  rw [if_neg hrc] at HE9
                  have HRE' : Hid (R = (noM, 80)) := hid (by rw [HRE.out, HE9.out])
                  go_wp2_with fail
                  refine bodyPost_ret (results_c2 rfl rfl (load_msg (set6_at HXX.out (.int .u16 0) (St []) (.slice none 0 0) (.slice none 0 0) (St []) (.slice none 0 0)))) rfl ⟨.slice none 0 0, .slice none 0 0, .slice none 0 0, by rw [HRE'.out]; rfl, by rw [HRE'.out]; exact Mo.none _ _, ?_⟩
                  exact set6_below HBB.out (Nat.le_refl _) _ _ _ _ _ _
      · have hg1 : ¬ (i : Int) < (N : Int) := by omega
        have HG' := hid (g5 HG.out (fun _ => by omega))
        clear HG
        have HG := hid HG'.out
        clear HG'
        have HNL : Hid (l.length ≤ 32769) := hid (by have := HLM.out; omega)
        clear HLM hi
        obtain ⟨wz, rfl⟩ : ∃ wz, wz = wr := ⟨_, rfl⟩
        obtain ⟨K, s5, hd⟩ : ∃ K s5, dCount s = (K, s5) := ⟨_, _, rfl⟩
        have HC := hid (rcount_any W0 (W0.heap.size + 1) s.1 s.2 _ HD.out.rd)
        have hG := g6 HG.out
        have hK := dCount_lt s
        rw [show dCount (s.1, s.2) = (K, s5) from hd] at HC
        rw [hd] at hG hK
        simp only at hG hK
        clear HG hd
        have HG := hid hG
        clear hG
        go_wp2_with fail
        refine HC.out.mono ?_
        rintro e w6 ⟨rfl, hr, hf⟩
        have hD := HD.out.read hr hf
        clear hr hf HC HD
        have HD := hid hD
        clear hD q1
        go_wp2_with fail
        go_loopg [10, 11] (ms s5) (fun gg v10 _v11 wr => ∃ (j : Nat) (t : List Bs) (s : Rs), j ≤ K ∧ gg = ms s ∧ v10 = .int .u64 (j : Int) ∧ t.length + ms s ≤ 32769 ∧ Dm W0 k ch l t [] s wr ∧ Gd b (A7 b k ch l K j t) s)
        case atStart => exact ⟨0, [], s5, by omega, rfl, rfl, by have := HD.out.rd.len; unfold ms; simp; split <;> omega, HD.out, HG.out⟩
        case round =>
          obtain ⟨j, t, s, hj, rfl, rfl, hlm, hD, hG⟩ := hrel
          clear HD HG
          have HD := hid hD
          have HG := hid hG
          have HLM := hid hlm
          obtain ⟨q1, _⟩ := hD.cells
          clear hD hG hlm
          by_cases hgo2 : j < K
          · have hg2 : (j : Int) < (K : Int) := by omega
            obtain ⟨ok2, y2⟩ := s
            simp only at q1
            cases ok2 with
            | true =>
              obtain ⟨U, s', hd⟩ : ∃ U s', dText (true, y2) = (U, s') := ⟨_, _, rfl⟩
              have HC := hid (rtextr_any W0 (W0.heap.size + 1) (true, y2) wr HD.out.rd)
              have hG := g7 HG.out hgo2
              have hms := ms_text y2
              rw [hd] at HC hG hms
              simp only at hG hms
              have HG' := hid hG
              have HMS := hid hms
              have hll : t.length ≤ 32769 := by have := HLM.out; omega
              have hiw : IntKind.u64.wrap ((j : Int) + 1) = ((j + 1 : Nat) : Int) := by rw [IntKind.wrap_u64]; omega
              clear hG hms hd HG
              go_wp2_with fail
              refine HC.out.mono ?_
              rintro e w7 ⟨rfl, hr, hf⟩
              obtain ⟨a3, c3, a4, c4, n4, w8, e1, hrun, e2, e3, hD2⟩ := (HD.out.read hr hf).term U (by omega)
              have HRUN := hid hrun
              have HD2 := hid hD2
              clear hr hf hrun hD2 HD HC q1
              generalize hln : t.length = ln at e1 e2 HRUN
              clear hln
              go_wp2_with (first | (at_builtin; refine wpList_append_run rfl (.tmp 66) (.tmp 68) 24 rfl (.slice a3 ln c3) (.slice (some ⟨w7.heap.size, 0, none⟩) 1 1) (.slice a4 n4 c4) w8 rfl rfl HRUN.out ?_) | fail)
              go_roundg (ms s')
              case measure => exact HMS.out
              case rel => exact ⟨j + 1, t ++ [U], s', by omega, rfl, by first | rfl | go_num, by have h1 := HLM.out; have h2 := HMS.out; rw [List.length_append]; simp; omega, HD2.out, HG'.out⟩
            | false =>
              have HG' := hid (g8 HG.out (fun e => by cases e))
              clear HG
              have HG := hid HG'.out
              clear HG'
              have HTL : Hid (t.length ≤ 32769) := hid (by have := HLM.out; omega)
              clear HLM hj
              obtain ⟨wy, rfl⟩ : ∃ wy, wy = wr := ⟨_, rfl⟩
              obtain ⟨tx, s9, hd⟩ : ∃ tx s9, dText (false, y2) = (tx, s9) := ⟨_, _, rfl⟩
              have HC := hid (rtextr_any W0 (W0.heap.size + 1) (false, y2) _ HD.out.rd)
              have hG := g9 HG.out
              have htl := dText_len (false, y2)
              have hsl := HD.out.rd.len
              rw [hd] at HC hG htl
              have HTX : Hid (tx.length ≤ 32768) := hid (Nat.le_trans htl hsl)
              clear HG hd htl hsl
              have HG := hid hG
              clear hG
              go_wp2_with fail
              refine HC.out.mono ?_
              rintro e w9 ⟨rfl, hr, hf⟩
              have hD := HD.out.read hr hf
              clear hr hf HC HD q1
              obtain ⟨q1, q2, q3, q4, q5, qf⟩ := (hD).cells
              have f0 := qf 0
              have f1 := qf 1
              have f4 := qf 4
              have f5 := qf 5
              clear qf
              have hD9 := hD.settx tx
              obtain ⟨ok9, y9⟩ := s9
              obtain ⟨vr, hv1, hv2⟩ := hD9.rd.blk
              obtain ⟨vr0, hu1, hu2⟩ := hD.rd.blk
              have hvr : vr0 = vr := by
                have := (Below.heap_setCell w9 ⟨W0.heap.size + 2, 4, none⟩ (St tx) (W0.heap.size + 1) (by show W0.heap.size + 1 ≠ W0.heap.size + 2; omega)).trans hu1
                have h9 := hv1.symm.trans this
                simp only [Option.some.injEq, Obj.cells.injEq, Array.mk.injEq, List.cons.injEq] at h9
                exact h9.1.1.symm
              subst hvr
              obtain ⟨av, cv, hve⟩ := hv2.shape
              subst hve
              have r0 : w9.cell? ⟨W0.heap.size + 1, 0, none⟩ = some (.slice av y9.length cv) := (cell_of_heap hu1 0).trans rfl
              have hyl := hD9.rd.len
              have HRC := hid (rrecords_any _ _ y9 (hv2.below hD9.rd.bel) (by simp only at hyl; omega))
              obtain ⟨L, rc, hrec⟩ : ∃ L rc, recsB y9 = (L, rc) := ⟨_, _, rfl⟩
              rw [hrec] at HRC
              have HREC := hid hrec
              have HD := hid hD9
              clear hD hD9 hv1 hv2 hu1 hu2 hrec hyl
              generalize y9.length = yl at r0 HRC ⊢
              go_wp2_with fail
              refine HRC.out.mono ?_
              rintro e w10 ⟨a10, c10, rfl, hro, hb⟩
              have hD := HD.out.read (HD.out.rd.call hb) (Fk.below hb)
              have HRO := hid (hro.lower HD.out.rows)
              clear HD HRC hro hb r0 q1 q2 q3 q4 q5 f0 f1 f4 f5
              obtain ⟨q1, q2, q3, q4, q5, qf⟩ := hD.cells
              have f5 := qf 5
              have HHx := hD.res
              have z0 : w10.cell? ⟨W0.heap.size, 0, none⟩ = some (.int .u16 0) := (cell_of_heap HHx 0).trans rfl
              have z1 : w10.cell? ⟨W0.heap.size, 1, none⟩ = some (St []) := (cell_of_heap HHx 1).trans rfl
              have z2 : w10.cell? ⟨W0.heap.size, 2, none⟩ = some (.slice none 0 0) := (cell_of_heap HHx 2).trans rfl
              have z3 : w10.cell? ⟨W0.heap.size, 3, none⟩ = some (.slice none 0 0) := (cell_of_heap HHx 3).trans rfl
              have z4 : w10.cell? ⟨W0.heap.size, 4, none⟩ = some (St []) := (cell_of_heap HHx 4).trans rfl
              have z5 : w10.cell? ⟨W0.heap.size, 5, none⟩ = some (.slice none 0 0) := (cell_of_heap HHx 5).trans rfl
              have k0 := frozen_of_heap HHx 0
              have k1 := frozen_of_heap HHx 1
              have k2 := frozen_of_heap HHx 2
              have k3 := frozen_of_heap HHx 3
              have k4 := frozen_of_heap HHx 4
              have k5 := frozen_of_heap HHx 5
              have HXX := hid ((Below.heap_setCell w10 ⟨W0.heap.size + 2, 5, none⟩ (.slice a10 L.length c10) W0.heap.size (by show W0.heap.size ≠ W0.heap.size + 2; omega)).trans HHx)
              have HBB := hid (set1_below hD.rd.bel (show W0.heap.size ≤ W0.heap.size + 2 by omega) 5 (.slice a10 L.length c10))
              have HD := hid hD
              clear qf HHx hD
              cases ok9 with
              | false =>
                have HRE' : Hid (R = (noM, 80)) := hid (by rw [HRE.out, HG.out.2 rfl])
                go_wp2_with fail
                refine bodyPost_ret (results_c2 rfl rfl (load_msg (set6_at HXX.out (.int .u16 0) (St []) (.slice none 0 0) (.slice none 0 0) (St []) (.slice none 0 0)))) rfl ⟨.slice none 0 0, .slice none 0 0, .slice none 0 0, by rw [HRE'.out]; rfl, by rw [HRE'.out]; exact Mo.none _ _, ?_⟩
                exact set6_below HBB.out (Nat.le_refl _) _ _ _ _ _ _
              | true =>
                have hA := HG.out.1 rfl
                have HE9 := hid (end9 hA)
                rw [HREC.out] at HE9
                clear hA
                by_cases hrc : rc = 0
                · subst hrc
                  rw [if_pos rfl] at HE9
                  have hFew := (recs_few HREC.out).1
                  obtain ⟨nv, tv, hvb, hno, hto⟩ := HD.out.var
                  obtain ⟨an, cn, hne⟩ := own_is hno
                  obtain ⟨at', ct, hte⟩ := own_is hto
                  subst hne
                  subst hte
                  have hml : MLen ⟨k, ch, l, t, tx, L⟩ := ⟨hk1, by have := HNL.out; show l.length ≤ _; omega, by have := HTL.out; show t.length ≤ _; omega, by have := HCH.out; show ch.length ≤ _; omega, by have := HTX.out; show tx.length ≤ _; omega, hFew⟩
                  have hMo : Mo (W0.heap.size + 3) w10 (.slice an l.length cn) (.slice at' t.length ct) (.slice a10 L.length c10) ⟨k, ch, l, t, tx, L⟩ := ⟨hno, hto, HRO.out⟩
                  have hMo2 := mo_set1 hMo (x := W0.heap.size + 2) (by omega) 5 (.slice a10 L.length c10)
                  have HMY := hid (rmay_any right_r _ _ _ _ _ hMo2.ms hml)
                  have HM2 := hid hMo2
                  have p2 : w10.cell? ⟨W0.heap.size + 2, 2, none⟩ = some (.slice an l.length cn) := (cell_of_heap hvb 2).trans rfl
                  have p3 : w10.cell? ⟨W0.heap.size + 2, 3, none⟩ = some (.slice at' t.length ct) := (cell_of_heap hvb 3).trans rfl
                  have HVB := hid ((heap_setCell_same hvb 5 (.slice a10 L.length c10)).trans rfl : (w10.setCell ⟨W0.heap.size + 2, 5, none⟩ (.slice a10 L.length c10)).heap[W0.heap.size + 2]? = some (.cells #[.int .u16 (k : Int), St ch, .slice an l.length cn, .slice at' t.length ct, St tx, .slice a10 L.length c10] 27))
                  clear hno hto hvb hMo hMo2 hml hFew HD HRO
                  go_wp2_with fail
                  refine HMY.out.mono ?_
                  rintro e w12 ⟨rfl, hb12⟩
                  have hx12 := (hb12.block _ (lt_of_block HXX.out)).trans HXX.out
                  have hv12 := (hb12.block _ (lt_of_block HVB.out)).trans HVB.out
                  have HM12 := hid (HM2.out.below hb12)
                  have hB12 := HBB.out.trans (hb12.mono HBB.out.size)
                  clear q1 q2 q3 q4 q5 f5 z0 z1 z2 z3 z4 z5 k0 k1 k2 k3 k4 k5 p2 p3 HXX HBB HM2 HVB HMY hb12
                  have z0 : w12.cell? ⟨W0.heap.size, 0, none⟩ = some (.int .u16 0) := (cell_of_heap hx12 0).trans rfl
                  have z1 : w12.cell? ⟨W0.heap.size, 1, none⟩ = some (St []) := (cell_of_heap hx12 1).trans rfl
                  have z2 : w12.cell? ⟨W0.heap.size, 2, none⟩ = some (.slice none 0 0) := (cell_of_heap hx12 2).trans rfl
                  have z3 : w12.cell? ⟨W0.heap.size, 3, none⟩ = some (.slice none 0 0) := (cell_of_heap hx12 3).trans rfl
                  have z4 : w12.cell? ⟨W0.heap.size, 4, none⟩ = some (St []) := (cell_of_heap hx12 4).trans rfl
                  have z5 : w12.cell? ⟨W0.heap.size, 5, none⟩ = some (.slice none 0 0) := (cell_of_heap hx12 5).trans rfl
                  have k0 := frozen_of_heap hx12 0
                  have k1 := frozen_of_heap hx12 1
                  have k2 := frozen_of_heap hx12 2
                  have k3 := frozen_of_heap hx12 3
                  have k4 := frozen_of_heap hx12 4
                  have k5 := frozen_of_heap hx12 5
                  have HXX := hid hx12
                  have HBB := hid hB12
                  cases hmb : mayB ⟨k, ch, l, t, tx, L⟩ with
                  | false =>
                    have HRE' : Hid (R = (noM, 80)) := hid (by rw [HRE.out, HE9.out]; simp [hmb])
                    clear hx12 hv12 hB12 hmb
                    go_wp2_with fail
                    refine bodyPost_ret (results_c2 rfl rfl (load_msg (set6_at HXX.out (.int .u16 0) (St []) (.slice none 0 0) (.slice none 0 0) (St []) (.slice none 0 0)))) rfl ⟨.slice none 0 0, .slice none 0 0, .slice none 0 0, by rw [HRE'.out]; rfl, by rw [HRE'.out]; exact Mo.none _ _, ?_⟩
                    exact set6_below HBB.out (Nat.le_refl _) _ _ _ _ _ _
                  | true =>
                    have HRE' : Hid (R = (⟨k, ch, l, t, tx, L⟩, 0)) := hid (by rw [HRE.out, HE9.out]; simp [hmb])
                    have d0 : w12.cell? ⟨W0.heap.size + 2, 0, none⟩ = some (.int .u16 (k : Int)) := (cell_of_heap hv12 0).trans rfl
                    have d1 : w12.cell? ⟨W0.heap.size + 2, 1, none⟩ = some (St ch) := (cell_of_heap hv12 1).trans rfl
                    have d2 : w12.cell? ⟨W0.heap.size + 2, 2, none⟩ = some (.slice an l.length cn) := (cell_of_heap hv12 2).trans rfl
                    have d3 : w12.cell? ⟨W0.heap.size + 2, 3, none⟩ = some (.slice at' t.length ct) := (cell_of_heap hv12 3).trans rfl
                    have d4 : w12.cell? ⟨W0.heap.size + 2, 4, none⟩ = some (St tx) := (cell_of_heap hv12 4).trans rfl
                    have d5 : w12.cell? ⟨W0.heap.size + 2, 5, none⟩ = some (.slice a10 L.length c10) := (cell_of_heap hv12 5).trans rfl
                    clear hx12 hv12 hB12 hmb
                    go_wp2_with fail
                    refine bodyPost_ret (results_c2 rfl rfl (load_msg (set6_at HXX.out (.int .u16 (k : Int)) (St ch) (.slice an l.length cn) (.slice at' t.length ct) (St tx) (.slice a10 L.length c10)))) rfl ⟨.slice an l.length cn, .slice at' t.length ct, .slice a10 L.length c10, by rw [HRE'.out]; rfl, ?_, ?_⟩
                    · rw [HRE'.out]
                      exact (HM12.out.set6 (by omega) _ _ _ _ _ _).lower (by omega)
                    · exact set6_below HBB.out (Nat.le_refl _) _ _ _ _ _ _
                · have hrc1 : ¬ (rc : Int) = 0 := by omega
                  have hrc2 : ((rc : Int) == 0) = false := by simpa using hrc1
                  rw [if_neg hrc] at HE9
                  have HRE' : Hid (R = (noM, 80)) := hid (by rw [HRE.out, HE9.out])
                  go_wp2_with fail
                  refine bodyPost_ret (results_c2 rfl rfl (load_msg (set6_at HXX.out (.int .u16 0) (St []) (.slice none 0 0) (.slice none 0 0) (St []) (.slice none 0 0)))) rfl ⟨.slice none 0 0, .slice none 0 0, .slice none 0 0, by rw [HRE'.out]; rfl, by rw [HRE'.out]; exact Mo.none _ _, ?_⟩
                  exact set6_below HBB.out (Nat.le_refl _) _ _ _ _ _ _
          · have hg2 : ¬ (j : Int) < (K : Int) := by omega
            have HG' := hid (g8 HG.out (fun _ => by omega))
            clear HG
            have HG := hid HG'.out
            clear HG'
            have HTL : Hid (t.length ≤ 32769) := hid (by have := HLM.out; omega)
            clear HLM hj
            obtain ⟨wy, rfl⟩ : ∃ wy, wy = wr := ⟨_, rfl⟩
            obtain ⟨tx, s9, hd⟩ : ∃ tx s9, dText s = (tx, s9) := ⟨_, _, rfl⟩
            have HC := hid (rtextr_any W0 (W0.heap.size + 1) s _ HD.out.rd)
            have hG := g9 HG.out
            have htl := dText_len s
            have hsl := HD.out.rd.len
            rw [hd] at HC hG htl
            have HTX : Hid (tx.length ≤ 32768) := hid (Nat.le_trans htl hsl)
            clear HG hd htl hsl
            have HG := hid hG
            clear hG
            go_wp2_with fail
            refine HC.out.mono ?_
            rintro e w9 ⟨rfl, hr, hf⟩
            have hD := HD.out.read hr hf
            clear hr hf HC HD q1
            obtain ⟨q1, q2, q3, q4, q5, qf⟩ := (hD).cells
            have f0 := qf 0
            have f1 := qf 1
            have f4 := qf 4
            have f5 := qf 5
            clear qf
            have hD9 := hD.settx tx
            obtain ⟨ok9, y9⟩ := s9
            obtain ⟨vr, hv1, hv2⟩ := hD9.rd.blk
            obtain ⟨vr0, hu1, hu2⟩ := hD.rd.blk
            have hvr : vr0 = vr := by
              have := (Below.heap_setCell w9 ⟨W0.heap.size + 2, 4, none⟩ (St tx) (W0.heap.size + 1) (by show W0.heap.size + 1 ≠ W0.heap.size + 2; omega)).trans hu1
              have h9 := hv1.symm.trans this
              simp only [Option.some.injEq, Obj.cells.injEq, Array.mk.injEq, List.cons.injEq] at h9
              exact h9.1.1.symm
            subst hvr
            obtain ⟨av, cv, hve⟩ := hv2.shape
            subst hve
            have r0 : w9.cell? ⟨W0.heap.size + 1, 0, none⟩ = some (.slice av y9.length cv) := (cell_of_heap hu1 0).trans rfl
            have hyl := hD9.rd.len
            have HRC := hid (rrecords_any _ _ y9 (hv2.below hD9.rd.bel) (by simp only at hyl; omega))
            obtain ⟨L, rc, hrec⟩ : ∃ L rc, recsB y9 = (L, rc) := ⟨_, _, rfl⟩
            rw [hrec] at HRC
            have HREC := hid hrec
            have HD := hid hD9
            clear hD hD9 hv1 hv2 hu1 hu2 hrec hyl
            generalize y9.length = yl at r0 HRC ⊢
            go_wp2_with fail
            refine HRC.out.mono ?_
            rintro e w10 ⟨a10, c10, rfl, hro, hb⟩
            have hD := HD.out.read (HD.out.rd.call hb) (Fk.below hb)
            have HRO := hid (hro.lower HD.out.rows)
            clear HD HRC hro hb r0 q1 q2 q3 q4 q5 f0 f1 f4 f5
            obtain ⟨q1, q2, q3, q4, q5, qf⟩ := hD.cells
            have f5 := qf 5
            have HHx := hD.res
            have z0 : w10.cell? ⟨W0.heap.size, 0, none⟩ = some (.int .u16 0) := (cell_of_heap HHx 0).trans rfl
            have z1 : w10.cell? ⟨W0.heap.size, 1, none⟩ = some (St []) := (cell_of_heap HHx 1).trans rfl
            have z2 : w10.cell? ⟨W0.heap.size, 2, none⟩ = some (.slice none 0 0) := (cell_of_heap HHx 2).trans rfl
            have z3 : w10.cell? ⟨W0.heap.size, 3, none⟩ = some (.slice none 0 0) := (cell_of_heap HHx 3).trans rfl
            have z4 : w10.cell? ⟨W0.heap.size, 4, none⟩ = some (St []) := (cell_of_heap HHx 4).trans rfl
            have z5 : w10.cell? ⟨W0.heap.size, 5, none⟩ = some (.slice none 0 0) := (cell_of_heap HHx 5).trans rfl
            have k0 := frozen_of_heap HHx 0
            have k1 := frozen_of_heap HHx 1
            have k2 := frozen_of_heap HHx 2
            have k3 := frozen_of_heap HHx 3
            have k4 := frozen_of_heap HHx 4
            have k5 := frozen_of_heap HHx 5
            have HXX := hid ((Below.heap_setCell w10 ⟨W0.heap.size + 2, 5, none⟩ (.slice a10 L.length c10) W0.heap.size (by show W0.heap.size ≠ W0.heap.size + 2; omega)).trans HHx)
            have HBB := hid (set1_below hD.rd.bel (show W0.heap.size ≤ W0.heap.size + 2 by omega) 5 (.slice a10 L.length c10))
            have HD := hid hD
            clear qf HHx hD
            cases ok9 with
            | false =>
              have HRE' : Hid (R = (noM, 80)) := hid (by rw [HRE.out, HG.out.2 rfl])
              go_wp2_with fail
              refine bodyPost_ret (results_c2 rfl rfl (load_msg (set6_at HXX.out (.int .u16 0) (St []) (.slice none 0 0) (.slice none 0 0) (St []) (.slice none 0 0)))) rfl ⟨.slice none 0 0, .slice none 0 0, .slice none 0 0, by rw [HRE'.out]; rfl, by rw [HRE'.out]; exact Mo.none _ _, ?_⟩
              exact set6_below HBB.out (Nat.le_refl _) _ _ _ _ _ _
            | true =>
              have hA := HG.out.1 rfl
              have HE9 := hid (end9 hA)
              rw [HREC.out] at HE9
              clear hA
              by_cases hrc : rc = 0
              · subst hrc
                rw [if_pos rfl] at HE9
                have hFew := (recs_few HREC.out).1
                obtain ⟨nv, tv, hvb, hno, hto⟩ := HD.out.var
                obtain ⟨an, cn, hne⟩ := own_is hno
                obtain ⟨at', ct, hte⟩ := own_is hto
                subst hne
                subst hte
                have hml : MLen ⟨k, ch, l, t, tx, L⟩ := ⟨hk1, by have := HNL.out; show l.length ≤ _; omega, by have := HTL.out; show t.length ≤ _; omega, by have := HCH.out; show ch.length ≤ _; omega, by have := HTX.out; show tx.length ≤ _; omega, hFew⟩
                have hMo : Mo (W0.heap.size + 3) w10 (.slice an l.length cn) (.slice at' t.length ct) (.slice a10 L.length c10) ⟨k, ch, l, t, tx, L⟩ := ⟨hno, hto, HRO.out⟩
                have hMo2 := mo_set1 hMo (x := W0.heap.size + 2) (by omega) 5 (.slice a10 L.length c10)
                have HMY := hid (rmay_any right_r _ _ _ _ _ hMo2.ms hml)
                have HM2 := hid hMo2
                have p2 : w10.cell? ⟨W0.heap.size + 2, 2, none⟩ = some (.slice an l.length cn) := (cell_of_heap hvb 2).trans rfl
                have p3 : w10.cell? ⟨W0.heap.size + 2, 3, none⟩ = some (.slice at' t.length ct) := (cell_of_heap hvb 3).trans rfl
                have HVB := hid ((heap_setCell_same hvb 5 (.slice a10 L.length c10)).trans rfl : (w10.setCell ⟨W0.heap.size + 2, 5, none⟩ (.slice a10 L.length c10)).heap[W0.heap.size + 2]? = some (.cells #[.int .u16 (k : Int), St ch, .slice an l.length cn, .slice at' t.length ct, St tx, .slice a10 L.length c10] 27))
                clear hno hto hvb hMo hMo2 hml hFew HD HRO
                go_wp2_with fail
                refine HMY.out.mono ?_
                rintro e w12 ⟨rfl, hb12⟩
                have hx12 := (hb12.block _ (lt_of_block HXX.out)).trans HXX.out
                have hv12 := (hb12.block _ (lt_of_block HVB.out)).trans HVB.out
                have HM12 := hid (HM2.out.below hb12)
                have hB12 := HBB.out.trans (hb12.mono HBB.out.size)
                clear q1 q2 q3 q4 q5 f5 z0 z1 z2 z3 z4 z5 k0 k1 k2 k3 k4 k5 p2 p3 HXX HBB HM2 HVB HMY hb12
                have z0 : w12.cell? ⟨W0.heap.size, 0, none⟩ = some (.int .u16 0) := (cell_of_heap hx12 0).trans rfl
                have z1 : w12.cell? ⟨W0.heap.size, 1, none⟩ = some (St []) := (cell_of_heap hx12 1).trans rfl
                have z2 : w12.cell? ⟨W0.heap.size, 2, none⟩ = some (.slice none 0 0) := (cell_of_heap hx12 2).trans rfl
                have z3 : w12.cell? ⟨W0.heap.size, 3, none⟩ = some (.slice none 0 0) := (cell_of_heap hx12 3).trans rfl
                have z4 : w12.cell? ⟨W0.heap.size, 4, none⟩ = some (St []) := (cell_of_heap hx12 4).trans rfl
                have z5 : w12.cell? ⟨W0.heap.size, 5, none⟩ = some (.slice none 0 0) := (cell_of_heap hx12 5).trans rfl
                have k0 := frozen_of_heap hx12 0
                have k1 := frozen_of_heap hx12 1
                have k2 := frozen_of_heap hx12 2
                have k3 := frozen_of_heap hx12 3
                have k4 := frozen_of_heap hx12 4
                have k5 := frozen_of_heap hx12 5
                have HXX := hid hx12
                have HBB := hid hB12
                cases hmb : mayB ⟨k, ch, l, t, tx, L⟩ with
                | false =>
                  have HRE' : Hid (R = (noM, 80)) := hid (by rw [HRE.out, HE9.out]; simp [hmb])
                  clear hx12 hv12 hB12 hmb
                  go_wp2_with fail
                  refine bodyPost_ret (results_c2 rfl rfl (load_msg (set6_at HXX.out (.int .u16 0) (St []) (.slice none 0 0) (.slice none 0 0) (St []) (.slice none 0 0)))) rfl ⟨.slice none 0 0, .slice none 0 0, .slice none 0 0, by rw [HRE'.out]; rfl, by rw [HRE'.out]; exact Mo.none _ _, ?_⟩
                  exact set6_below HBB.out (Nat.le_refl _) _ _ _ _ _ _
                | true =>
                  have HRE' : Hid (R = (⟨k, ch, l, t, tx, L⟩, 0)) := hid (by rw [HRE.out, HE9.out]; simp [hmb])
                  have d0 : w12.cell? ⟨W0.heap.size + 2, 0, none⟩ = some (.int .u16 (k : Int)) := (cell_of_heap hv12 0).trans rfl
                  have d1 : w12.cell? ⟨W0.heap.size + 2, 1, none⟩ = some (St ch) := (cell_of_heap hv12 1).trans rfl
                  have d2 : w12.cell? ⟨W0.heap.size + 2, 2, none⟩ = some (.slice an l.length cn) := (cell_of_heap hv12 2).trans rfl
                  have d3 : w12.cell? ⟨W0.heap.size + 2, 3, none⟩ = some (.slice at' t.length ct) := (cell_of_heap hv12 3).trans rfl
                  have d4 : w12.cell? ⟨W0.heap.size + 2, 4, none⟩ = some (St tx) := (cell_of_heap hv12 4).trans rfl
                  have d5 : w12.cell? ⟨W0.heap.size + 2, 5, none⟩ = some (.slice a10 L.length c10) := (cell_of_heap hv12 5).trans rfl
                  clear hx12 hv12 hB12 hmb
                  go_wp2_with fail
                  refine bodyPost_ret (results_c2 rfl rfl (load_msg (set6_at HXX.out (.int .u16 (k : Int)) (St ch) (.slice an l.length cn) (.slice at' t.length ct) (St tx) (.slice a10 L.length c10)))) rfl ⟨.slice an l.length cn, .slice at' t.length ct, .slice a10 L.length c10, by rw [HRE'.out]; rfl, ?_, ?_⟩
                  · rw [HRE'.out]
                    exact (HM12.out.set6 (by omega) _ _ _ _ _ _).lower (by omega)
                  · exact set6_below HBB.out (Nat.le_refl _) _ _ _ _ _ _
              · have hrc1 : ¬ (rc : Int) = 0 := by omega
                have hrc2 : ((rc : Int) == 0) = false := by simpa using hrc1
                rw [if_neg hrc] at HE9
                have HRE' : Hid (R = (noM, 80)) := hid (by rw [HRE.out, HE9.out])
                go_wp2_with fail
                refine bodyPost_ret (results_c2 rfl rfl (load_msg (set6_at HXX.out (.int .u16 0) (St []) (.slice none 0 0) (.slice none 0 0) (St []) (.slice none 0 0)))) rfl ⟨.slice none 0 0, .slice none 0 0, .slice none 0 0, by rw [HRE'.out]; rfl, by rw [HRE'.out]; exact Mo.none _ _, ?_⟩
                exact set6_below HBB.out (Nat.le_refl _) _ _ _ _ _ _
end Go.Proofs.YtdhmmllpioppfaaGreat.V
