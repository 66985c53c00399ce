/- The document's Decode. -/
import Derived.Test.YtelfogdcijmenaaDoorRSml
import Derived.Test.YtelfogdcijmenaaDoorDec
namespace Go.Proofs.YtelfogdcijmenaaDoor
open Go.RowKit

theorem low49 : ∀ c : Fin 256, (lowC (UInt8.ofNat c.val) != 49) = (UInt8.ofNat c.val != 49) := by decide +kernel
theorem tail_low (s : Bs) : tailB (low s) = low (tailB s) := by
  unfold tailB low
  rw [← List.map_reverse, List.takeWhile_map, List.map_reverse]
  congr 2
  apply congrArg (fun p => List.takeWhile p s.reverse)
  funext c
  have := low49 ⟨c.toNat, c.toNat_lt⟩
  simpa using this
theorem head_low (s : Bs) : headB (low s) = low (headB s) := by
  unfold headB
  rw [tail_low]
  unfold low
  rw [List.map_take]
  simp
theorem dec60 {s : Bs} (h0 : test s 0 = false) (h : test s 1 = true ∨ test s 2 = true ∨ test s 3 = true ∨ test s 4 = true) : decB s = ([], [], 60) := by
  rw [dec_eq, if_neg (by rw [h0]; decide)]
  by_cases h1 : test s 1 = true
  · rw [if_pos h1]
  · rw [if_neg h1]
    by_cases h2 : test s 2 = true
    · rw [if_pos h2]
    · rw [if_neg h2]
      by_cases h3 : test s 3 = true
      · rw [if_pos h3]
      · rw [if_neg h3]
        rcases h with h | h | h | h
        · exact absurd h h1
        · exact absurd h h2
        · exact absurd h h3
        · rw [if_pos h]
theorem small_no {s T : Bs} (h : smallB s = (T, false)) : test s 1 = true ∨ test s 2 = true := by
  unfold smallB at h
  by_cases ho : s.any outB = true
  · exact Or.inl ho
  · rw [if_neg ho] at h
    have h2 := (Prod.mk.inj h).2
    refine Or.inr ?_
    show (s.any smlB && s.any capB) = true
    cases h3 : s.any smlB <;> cases h4 : s.any capB <;> simp_all
theorem small_yes {s T : Bs} (h : smallB s = (T, true)) : T = low s ∧ test s 1 = false ∧ test s 2 = false := by
  unfold smallB at h
  by_cases ho : s.any outB = true
  · rw [if_pos ho] at h
    cases h
  · rw [if_neg ho] at h
    obtain ⟨h1, h2⟩ := Prod.mk.inj h
    refine ⟨h1.symm, by simpa [test] using ho, ?_⟩
    show (s.any smlB && s.any capB) = false
    cases h3 : s.any smlB <;> cases h4 : s.any capB <;> simp_all
theorem slice_to (a : Option Addr) (n cap k : Nat) (h : k ≤ cap) (W : World) : (Instr.sliceAt 22 (.slice a n cap) none (some (.int .i64 (k : Int))) none).run Tryd.prog W = .ok (.slice a k cap) W := by
  obtain ⟨i, hi, hz⟩ := Option.map_eq_some_iff.1 Tryd.size5
  have h1 : (k : Int) ≤ (cap : Int) := by omega
  have h0 : ∀ x : Addr, x.add 0 = x := fun x => by unfold Addr.add; split <;> simp_all
  simp [Instr.sliceAt, Instr.slice, Instr.sliceBounds, Instr.sliceBound, asIntOf, run_underlying Tryd.underlying22, sizeOf, typeInfo, hi, go_sem, h0, h]
theorem word_in {c : UInt8} (h : idx c < 32) : (wordOf c).toNat < 32 ∧ (wordOf c).toNat ≠ 99 := by
  unfold wordOf
  rw [if_pos h, UInt8.toNat_ofNat']
  omega
set_option maxRecDepth 100000 in
set_option maxHeartbeats 8000000 in
theorem rdec_any (s : Bs) (w : World) : Calls Tryd.prog 13 #[St s] w fun e w' => ∃ v, e = decoded v (decB s) ∧ Sl w' v (decB s).2.1 ∧ Below w.heap.size w w' := by
  have hs := st_size s
  by_cases hlim : 32768 < s.length
  · have HZ := hid (dec_fail (s := s) (i := 0) (by omega) (fun j hj => by omega) (by simpa [test] using hlim))
    have hc : (32768 : Int) < (s.length : Int) := by omega
    generalize s.length = n at *
    go_enter Tryd.func13, Tryd.ntmps13
    go_wp2_with fail
    go_ret3
    refine ⟨.slice none 0 0, ?_⟩
    rw [HZ.out]
    exact ⟨rfl, Sl.nil _, Below.refl _ _⟩
  · have hc : ¬ (32768 : Int) < (s.length : Int) := by omega
    have HT0 : Hid (test s 0 = false) := hid (by simp [test]; omega)
    have HSM := hid (rsmall_any s w (by omega))
    generalize hsb : smallB s = sb at *
    obtain ⟨T, ok⟩ := sb
    have HSB := hid hsb
    have hTl : T.length ≤ s.length := by
      unfold smallB at hsb
      split at hsb
      · cases hsb; simp
      · cases hsb; unfold low; simp
    simp only at HSM
    have hst := st_size T
    obtain ⟨n, hn⟩ : ∃ n, n = T.length := ⟨_, rfl⟩
    rw [← hn] at hst hTl
    have hn32 : n ≤ 32768 := by omega
    have HN := hid hn
    have hsl : s.length ≤ 32768 := by omega
    have HSL := hid hsl
    generalize hq : s.length = sl at *
    clear hsb hn hTl hq hsl hlim
    go_enter Tryd.func13, Tryd.ntmps13
    go_wp2_with fail
    refine HSM.out.mono ?_
    rintro e w1 ⟨rfl, hb1⟩
    have HB1 := hid hb1
    clear hb1 HSM
    go_wp2_with fail
    go_loop [7] (fun v7 => ∃ k : Nat, k ≤ n ∧ v7 = .int .i64 ((k : Int) - 1) ∧ Hid (∀ j (hj : j < T.length), k ≤ j → T[j] ≠ 49)) (fun v7 => ((intOf v7) + 1).toNat)
    case atStart => exact ⟨n, Nat.le_refl _, rfl, hid (fun j hj hk => by have := HN.out; omega)⟩
    case round =>
      obtain ⟨k, hk, rfl, hf⟩ := hrel
      by_cases hk0 : k = 0
      · subst hk0
        have HNO : Hid (∀ c ∈ T, c ≠ 49) := hid (fun c hcm => by
          obtain ⟨j, hj, rfl⟩ := List.getElem_of_mem hcm
          exact hf.out j hj (by omega))
        clear hf
        have HZ : Hid (decB s = ([], [], 60)) := hid (by
          cases ok with
          | false => rcases small_no HSB.out with h | h <;> exact dec60 HT0.out (by simp [h])
          | true =>
            obtain ⟨h1, _, _⟩ := small_yes HSB.out
            refine dec60 HT0.out (Or.inr (Or.inr (Or.inl ?_)))
            show (!fitB (headB s)) = true
            have h2 := (part_none HNO.out).2
            rw [h1, head_low] at h2
            have h3 : (headB s) = [] := by
              have : (low (headB s)).length = 0 := by rw [h2]; rfl
              unfold low at this
              exact List.length_eq_zero_iff.1 (by simpa using this)
            rw [h3]
            rfl)
        cases ok with
        | false =>
          go_wp2_with fail
          go_ret3
          refine ⟨.slice none 0 0, ?_⟩
          rw [HZ.out]
          exact ⟨rfl, Sl.nil _, HB1.out⟩
        | true =>
          go_wp2_with fail
          go_ret3
          refine ⟨.slice none 0 0, ?_⟩
          rw [HZ.out]
          exact ⟨rfl, Sl.nil _, HB1.out⟩
      · obtain ⟨i, rfl⟩ : ∃ i, k = i + 1 := ⟨k - 1, by omega⟩
        have hiT : i < T.length := by rw [← HN.out]; omega
        have hge : (0 : Int) ≤ (((i + 1 : Nat) : Int) - 1) := by omega
        have hi9 : (((i + 1 : Nat) : Int) - 1) = (i : Int) := by omega
        rw [hi9] at hge ⊢
        have hget : (⟨T.toArray⟩ : ByteArray)[i]'(by rw [hst]; omega) = T[i] := rfl
        by_cases h49 : T[i] = 49
        · have hpt := part_some hiT h49 (fun j hj hij => hf.out j hj (by omega))
          have HPT := hid hpt
          generalize hxe : T[i] = x at *
          subst h49
          clear hf hpt hxe
          cases ok with
          | false =>
            have HZ : Hid (decB s = ([], [], 60)) := hid (by rcases small_no HSB.out with h | h <;> exact dec60 HT0.out (by simp [h]))
            go_wp2_with fail
            go_ret3
            refine ⟨.slice none 0 0, ?_⟩
            rw [HZ.out]
            exact ⟨rfl, Sl.nil _, HB1.out⟩
          | true =>
            obtain ⟨h1, h2, h3⟩ := small_yes HSB.out
            have HT1 := hid h2
            have HT2 := hid h3
            have e1 := HPT.out.1
            have e2 := HPT.out.2
            have hTH : low (headB s) = T.take i := by rw [← head_low, ← h1]; exact e2
            have hTT : low (tailB s) = T.drop (i + 1) := by rw [← tail_low, ← h1]; exact e1
            have hHl : (headB s).length = i := by
              have := congrArg List.length hTH
              unfold low at this
              simp at this
              omega
            have hTl : (tailB s).length = n - (i + 1) := by
              have := congrArg List.length hTT
              unfold low at this
              simp [← HN.out] at this
              omega
            have HHD := hid hTH
            have HTL := hid hTT
            have HHL := hid hHl
            have HTN := hid hTl
            clear h1 h2 h3 e1 e2 hTH hTT hHl hTl HSB HPT
            by_cases hfit : 1 ≤ i ∧ i ≤ 83
            · have g1 : ¬ (i : Int) < 1 := by omega
              have g2 : ¬ (83 : Int) < (i : Int) := by omega
              have HT3 : Hid (test s 3 = false) := hid (by
                show (!fitB (headB s)) = false
                unfold fitB
                rw [HHL.out]
                simp
                omega)
              by_cases h6 : 6 ≤ n - (i + 1)
              · have g3 : ¬ (n : Int) - (i : Int) - 1 < 6 := by omega
                have HT4 : Hid (test s 4 = false) := hid (by simp only [test]; rw [decide_eq_false]; rw [HTN.out]; omega)
                obtain ⟨tl, htl⟩ : ∃ tl, tl = T.drop (i + 1) := ⟨_, rfl⟩
                have HTE := hid htl
                have htn : tl.length = n - (i + 1) := by rw [htl, List.length_drop, ← HN.out]
                obtain ⟨q, hq⟩ : ∃ q, q = n - (i + 1) := ⟨_, rfl⟩
                rw [← hq] at htn h6
                have HTQ := hid htn
                have hnq : n = i + 1 + q := by omega
                have HGT : Hid (∀ j (hj : j < q) (hb : i + 1 + j < (⟨T.toArray⟩ : ByteArray).size) (hk : j < tl.length), (⟨T.toArray⟩ : ByteArray)[i + 1 + j] = tl[j]) := hid (by
                  intro j hj hb hk
                  have : tl[j] = T[i + 1 + j]'(by rw [← HN.out]; omega) := by simp [htl]
                  rw [this]
                  rfl)
                have HWD : Hid (wordsB s = tl.map wordOf) := hid (by unfold wordsB; rw [HTL.out, ← htl])
                subst hnq
                clear htl hq htn
                have hsz : (⟨T.toArray⟩ : ByteArray).size = i + 1 + q := hst
                go_wp2_with fail
                go_loopg [8, 9] q (fun gg v8 v9 wr => ∃ (j : Nat) (a8 : Option Addr) (c8 : Nat), j ≤ q ∧ gg = q - j ∧ v9 = .int .i64 ((i : Int) + 1 + (j : Int)) ∧ v8 = .slice a8 j c8 ∧ Hid (((tl.take j).map wordOf).any nwB = false) ∧ wr.ownsRow w.heap.size 5 1 (.slice a8 j c8) j (bcs ((tl.take j).map wordOf)) ∧ Below w.heap.size w wr)
                case atStart => exact ⟨0, none, 0, by omega, by omega, by go_num, rfl, hid rfl, own_none _ _, HB1.out⟩
                case round =>
                  obtain ⟨j, a8, c8, hj, rfl, rfl, rfl, hnw, how, hbel⟩ := hrel
                  by_cases hjq : j < q
                  · have hj1 : (i : Int) + 1 + (j : Int) < (i : Int) + 1 + (q : Int) := by omega
                    have hjt : j < tl.length := by rw [HTQ.out]; exact hjq
                    have hget2 := HGT.out j hjq (by rw [hsz]; omega) hjt
                    have HMT := hid (map_take_succ wordOf tl j hjt)
                    have HMM : Hid (∀ x, tl[j] = x → x ∈ tl) := hid (fun x e => e ▸ List.getElem_mem hjt)
                    generalize hy : tl[j] = y at *
                    have HYM := hid (HMM.out y rfl)
                    clear hy HMM
                    have HC := hid (fun W => rword_any y W)
                    have hix0 : ((i : Int) + 1 + (j : Int)) = ((i + 1 + j : Nat) : Int) := by omega
                    have hixt := text_index T .i64 (i + 1 + j) (by rw [← HN.out]; omega)
                    have hTy : T[i + 1 + j]'(by rw [← HN.out]; omega) = y := hget2
                    rw [hTy, ← hix0] at hixt
                    have HIXT := hid hixt
                    clear hget2 hTy hix0 hixt
                    by_cases hid32 : idx y < 32
                    · have hw := (rword_lt y).1 hid32
                      have hwl := word_in hid32
                      rw [hw] at HC
                      have HNX : Hid (((tl.take (j + 1)).map wordOf).any nwB = false) := hid (by
                        rw [HMT.out, List.any_append, hnw.out]
                        simp [nwB]
                        exact hwl.1)
                      have hne99 : (((wordOf y).toNat : Int) == 99) = false := by simp; omega
                      obtain ⟨a9, c9, w9, hr9, ho9, hg9, hp9⟩ := append_one how (wordOf y) _ rfl (by simp; omega) (by omega) hbel.size
                      have HB9 := hid (one_below hbel how hg9 hbel.size)
                      have HO9 := hid ho9
                      have HR9 := hid hr9
                      clear hr9 ho9 hg9 hp9 how hbel hnw hwl hw
                      generalize wordOf y = z at *
                      go_wp2_with (first | (refine wpList_index_run rfl (.tmp 58) (.tmp 59) 9 rfl (St T) _ (By y) rfl rfl HIXT.out ?_) | fail)
                      refine (HC.out wr).mono ?_
                      rintro e w4 ⟨rfl, hw4⟩
                      subst hw4
                      go_wp2_with (first | (refine wpList_index_run rfl (.tmp 64) (.tmp 65) 9 rfl (St T) _ (By y) rfl rfl HIXT.out ?_) | fail)
                      refine (HC.out w4).mono ?_
                      rintro e w5 ⟨rfl, hw5⟩
                      subst hw5
                      go_wp2_with (first | (at_builtin; refine wpList_append_run rfl _ _ 22 rfl _ _ (.slice a9 (j + 1) c9) w9 rfl rfl HR9.out ?_) | fail)
                      go_roundg (q - (j + 1))
                      case measure => omega
                      case rel => exact ⟨j + 1, a9, c9, by omega, rfl, by go_num, rfl, HNX, by rw [HMT.out]; exact HO9.out, HB9.out⟩
                    · obtain ⟨hw, hw2⟩ := (rword_lt y).2 hid32
                      rw [hw] at HC
                      have HZ : Hid (decB s = ([], [], 60)) := hid (dec_fail (i := 5) (by omega) (fun j hj => by
                        have : j = 0 ∨ j = 1 ∨ j = 2 ∨ j = 3 ∨ j = 4 := by omega
                        rcases this with rfl | rfl | rfl | rfl | rfl
                        · exact HT0.out
                        · exact HT1.out
                        · exact HT2.out
                        · exact HT3.out
                        · exact HT4.out) (by
                        show (wordsB s).any nwB = true
                        rw [HWD.out]
                        exact List.any_eq_true.2 ⟨wordOf y, List.mem_map_of_mem HYM.out, by rw [hw2]; rfl⟩))
                      have HBE := hid hbel
                      clear how hbel hnw hw hw2
                      go_wp2_with (first | (refine wpList_index_run rfl (.tmp 58) (.tmp 59) 9 rfl (St T) _ (By y) rfl rfl HIXT.out ?_) | fail)
                      refine (HC.out wr).mono ?_
                      rintro e w4 ⟨rfl, hw4⟩
                      subst hw4
                      go_wp2_with fail
                      go_ret3
                      refine ⟨.slice none 0 0, ?_⟩
                      rw [HZ.out]
                      exact ⟨rfl, Sl.nil _, HBE.out⟩
                  · have hj1 : ¬ (i : Int) + 1 + (j : Int) < (i : Int) + 1 + (q : Int) := by omega
                    have hjq' : j = q := by omega
                    subst hjq'
                    rw [List.take_of_length_le (by rw [HTQ.out]; exact Nat.le_refl _), ← HWD.out] at how hnw
                    have HT5 : Hid (test s 5 = false) := hid hnw.out
                    have hwj : (wordsB s).length = j := by rw [HWD.out, List.length_map, HTQ.out]
                    have hsl2 := slice_text T i (by rw [← HN.out]; omega)
                    have hTil : (T.take i).length = i := by rw [List.length_take, ← HN.out]; omega
                    have hhl2 : (headW (T.take i)).length = 2 * i + 1 := by rw [head_len, hTil]
                    have HRH := hid (rheads_any (T.take i) wr (by rw [hTil]; omega))
                    rw [hhl2] at HRH
                    have HHB2 := hid hhl2
                    have HOW := hid how
                    have HBE := hid hbel
                    have HWJ := hid hwj
                    have HT6 : Hid (test s 6 = decide (chk 1 (headW (T.take i) ++ wordsB s) ≠ 1)) := hid (by show decide (chk 1 (headW (low (headB s)) ++ wordsB s) ≠ 1) = _; rw [HHD.out])
                    have hP6 : ∀ k, k < 6 → test s k = false := fun k hk => by
                      have : k = 0 ∨ k = 1 ∨ k = 2 ∨ k = 3 ∨ k = 4 ∨ k = 5 := by omega
                      rcases this with rfl | rfl | rfl | rfl | rfl | rfl
                      · exact HT0.out
                      · exact HT1.out
                      · exact HT2.out
                      · exact HT3.out
                      · exact HT4.out
                      · exact HT5.out
                    have HP6 := hid hP6
                    clear how hbel hnw hwj hTil hhl2 hP6
                    go_wp2_with fail
                    refine HRH.out.mono ?_
                    rintro e w4 ⟨a4, c4, rfl, ho4, hb4⟩
                    have hb4' := HBE.out.trans (hb4.mono HBE.out.size)
                    have hws4 := Sl.own (ownsRow_same HOW.out (fun g hg => hb4.block g (HOW.out.lt g hg).2)) HWJ.out.symm
                    obtain ⟨a5, c5, w5, hr5, ho5, hg5⟩ := append_bytes (xs := headW (T.take i)) (by rw [HHB2.out]; exact ho4) hws4 (by rw [HHB2.out, HWJ.out]; omega) hb4.size
                    have hb5 := hb4.grown hg5 hb4.size (fun b hb => (ho4.lt b hb).1)
                    have e5 : (headW (T.take i) ++ wordsB s).length = 2 * i + 1 + j := by rw [List.length_append, HHB2.out, HWJ.out]
                    rw [e5] at hr5 ho5
                    have HR5 := hid hr5
                    have HB5 := hid hb5
                    have HCK := hid (rchk_any (headW (T.take i) ++ wordsB s) _ w5 (Sl.own ho5 e5.symm) (by rw [e5]; omega))
                    obtain ⟨C, hC⟩ : ∃ C, C = chk 1 (headW (T.take i) ++ wordsB s) := ⟨_, rfl⟩
                    rw [← hC] at HCK HT6
                    clear ho4 hb4 hb4' hws4 hr5 ho5 hg5 hb5 e5 hC HRH
                    go_wp2_with (first | (at_builtin; refine wpList_append_run rfl _ _ 22 rfl _ _ (.slice a5 (2 * i + 1 + j) c5) w5 rfl rfl HR5.out ?_) | fail)
                    refine HCK.out.mono ?_
                    rintro e w6 ⟨rfl, hb6⟩
                    have HB6 := hid (HB5.out.trans (hb6.mono HB5.out.size))
                    clear hb6 HCK HR5 HB5
                    by_cases hC1 : C = 1
                    · subst hC1
                      have HZ := hid (dec_ok (s := s) (fun k hk => by
                        by_cases e : k = 6
                        · rw [e, HT6.out]; rfl
                        · exact HP6.out k (by omega)))
                      have hTN := HTN.out
                      have HZ2 : Hid (decB s = (T.take i, (wordsB s).take (j - 6), 0)) := hid (by rw [HZ.out, HHD.out, hTN, Nat.add_sub_cancel_left])
                      have hws6 := Sl.own (ownsRow_same HOW.out (fun g hg => HB6.out.block g (HOW.out.lt g hg).2)) HWJ.out.symm
                      have hcap8 : j ≤ c8 ∧ a8 ≠ none := by
                        obtain ⟨g, o, e, _, _, hcc, _⟩ := hws6.at (fun e => by have := HWJ.out; rw [e] at this; simp at this; omega)
                        exact ⟨by rw [← HWJ.out]; exact hcc, by rw [e]; exact fun h => by cases h⟩
                      have hst8 := hws6.take (j - 6) (by rw [HWJ.out]; omega) c8 (fun e => absurd e hcap8.2) (by omega)
                      have HST := hid hst8
                      have hs3 := slice_to a8 j c8 (j - 6) (by omega)
                      obtain ⟨j6, hj6⟩ : ∃ k, j = k + 6 := ⟨j - 6, by omega⟩
                      subst hj6
                      rw [show j6 + 6 - 6 = j6 by omega] at hs3 HST HZ2
                      clear hws6 hcap8 hst8 HZ hTN
                      have hwr : IntKind.i64.wrap (((j6 + 6 : Nat) : Int) - 6) = (j6 : Int) := by rw [IntKind.wrap_i64]; omega
                      go_wp2_with fail
                      go_quiet (fail)
                      go_wp2_with fail
                      go_ret3
                      refine ⟨.slice a8 j6 c8, ?_⟩
                      rw [HZ2.out]
                      exact ⟨rfl, HST.out.below (below_drewN (Below.refl _ _) _), below_drewN (HBE.out.trans (HB6.out.mono HBE.out.size)) _⟩
                    · have HZ : Hid (decB s = ([], [], 61)) := hid (dec_fail (i := 6) (by omega) HP6.out (by rw [HT6.out]; simpa using hC1))
                      have hne : ((C : Int) == 1) = false := by simp; omega
                      go_wp2_with fail
                      go_ret3
                      refine ⟨.slice none 0 0, ?_⟩
                      rw [HZ.out]
                      exact ⟨rfl, Sl.nil _, HBE.out.trans (HB6.out.mono HBE.out.size)⟩
              · have g3 : (n : Int) - (i : Int) - 1 < 6 := by omega
                have HZ : Hid (decB s = ([], [], 60)) := hid (dec60 HT0.out (Or.inr (Or.inr (Or.inr (by simp only [test]; rw [HTN.out]; simp; omega)))))
                go_wp2_with fail
                go_ret3
                refine ⟨.slice none 0 0, ?_⟩
                rw [HZ.out]
                exact ⟨rfl, Sl.nil _, HB1.out⟩
            · have HZ : Hid (decB s = ([], [], 60)) := hid (dec60 HT0.out (Or.inr (Or.inr (Or.inl (by
                show (!fitB (headB s)) = true
                unfold fitB
                rw [HHL.out]
                simp
                omega)))))
              by_cases hi0 : i < 1
              · have g1 : (i : Int) < 1 := by omega
                go_wp2_with fail
                go_ret3
                refine ⟨.slice none 0 0, ?_⟩
                rw [HZ.out]
                exact ⟨rfl, Sl.nil _, HB1.out⟩
              · have g1 : ¬ (i : Int) < 1 := by omega
                have g2 : (83 : Int) < (i : Int) := by omega
                go_wp2_with fail
                go_ret3
                refine ⟨.slice none 0 0, ?_⟩
                rw [HZ.out]
                exact ⟨rfl, Sl.nil _, HB1.out⟩
        · have HX : Hid (∀ j (hj : j < T.length), i ≤ j → T[j] ≠ 49) := hid (fun j hj hij => by
            by_cases e : j = i
            · subst e; exact h49
            · exact hf.out j hj (by omega))
          generalize T[i] = x at *
          have hne : ((x.toNat : Int) == 49) = false := by
            simp
            intro e
            exact h49 (UInt8.toNat_inj.1 (by have : (49 : UInt8).toNat = 49 := rfl; omega))
          clear hf
          go_wp2_with fail
          go_round
          case rel => exact ⟨i, by omega, by go_num, HX⟩
          case measure => simp [intOf]
end Go.Proofs.YtelfogdcijmenaaDoor
