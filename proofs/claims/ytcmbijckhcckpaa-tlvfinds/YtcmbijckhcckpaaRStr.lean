/- The document's Stream. -/
import Derived.Test.YtcmbijckhcckpaaSame
namespace Go.Proofs.Ytcmbijckhcckpaa
open Go.RowKit

theorem rises_take (L : List Rec) (i t : Nat) (h1 : 1 ≤ i) (h : i < L.length) : risesB (L.take i) t = decide ((L[i - 1].1 : Int) < (t : Int)) := by
  have hl : (L.take i).length = i := by simp; omega
  have hne : L.take i ≠ [] := fun e => by rw [e] at hl; simp at hl; omega
  rw [rises_last hne]
  simp only [hl, List.getElem_take]
theorem rises_first (L : List Rec) (t : Nat) : risesB (L.take 0) t = true := rfl

set_option maxRecDepth 100000 in
set_option maxHeartbeats 4000000 in
theorem rstream_any (w : World) (v : Value) (L : List Rec) (hL : Rcs w v L) (hf : Few L) : Calls Try.prog 15 #[v] w fun e w' => ∃ ao cap, e = streamed ao cap (streamR L) ∧ w'.ownsRow w.heap.size 5 1 (.slice ao (streamR L).1.length cap) (streamR L).1.length (bcs (streamR L).1) ∧ Below w.heap.size w w' := by
  obtain ⟨ao, cap, rfl⟩ := hL.shape
  have HL := hid hL
  have HF := hid hf
  obtain ⟨A, hA⟩ : ∃ A, A = streamR L := ⟨_, rfl⟩
  rw [← hA]
  have HA := hid hA
  obtain ⟨n, hn⟩ : ∃ n, n = L.length := ⟨_, rfl⟩
  have hnm : n ≤ 140737488355328 := by rw [hn]; exact hf.1
  rw [← hn]
  have HN := hid hn
  clear hL hf hA hn
  by_cases h64 : 64 < n
  · have HAE : Hid (A = ([], 3)) := hid (by rw [HA.out]; unfold streamR; rw [if_pos (by rw [← HN.out]; exact h64)])
    have h64' : (64 : Int) < (n : Int) := by omega
    go_enter Try.func15, Try.ntmps15
    go_wp2_with fail
    go_ret2
    refine ⟨none, 0, ?_⟩
    rw [HAE.out]
    exact ⟨rfl, own_none _ _, Below.refl _ _⟩
  · have h64' : ¬ (64 : Int) < (n : Int) := by omega
    go_enter Try.func15, Try.ntmps15
    go_wp2_with fail
    go_loopg [4] (66 : Nat) (fun gg v4 wr => ∃ i : Nat, 1 ≤ i ∧ i ≤ n + 1 ∧ (i ≤ n ∨ n = 0) ∧ gg = 67 - i ∧ v4 = .int .i64 (i : Int) ∧ (∀ j (h : j < L.length), j < i → risesB (L.take j) L[j].1 = true) ∧ Below w.heap.size w wr)
    case atStart => exact ⟨1, by omega, by omega, by omega, by omega, rfl, fun j h hj => by
      have : j = 0 := by omega
      subst this
      rfl, Below.refl _ _⟩
    case round =>
      obtain ⟨i, hi0, hi, hin, rfl, rfl, hri, hbel⟩ := hrel
      have HBE := hid hbel
      have HRI := hid hri
      clear hri
      by_cases hil : i < n
      · have hi1 : (i : Int) < (n : Int) := by omega
        have hiL : i < L.length := by rw [← HN.out]; exact hil
        obtain ⟨g, o, rfl, hg, _, hcap, hc⟩ := (HL.out.below hbel).at (fun e => by rw [e] at hiL; simp at hiL)
        rw [← HN.out] at hcap
        obtain ⟨bv, h1, _, _⟩ := hc i hiL
        obtain ⟨bv2, k1, _, _⟩ := hc (i - 1) (by omega)
        have HRT := hid (rises_take L i L[i].1 hi0 hiL)
        generalize hq : L[i].1 = qt at *
        generalize hq2 : L[i - 1].1 = qs at *
        have HQ := hid hq
        obtain ⟨i1, hi2⟩ : ∃ k, i = k + 1 := ⟨i - 1, by omega⟩
        subst hi2
        have k1' : wr.cell? ⟨g, o + i1 * 2, none⟩ = some (.int .u64 (qs : Int)) := k1
        have hi3 : IntKind.i64.wrap (((i1 + 1 : Nat) : Int) - 1) = (i1 : Int) := by rw [IntKind.wrap_i64]; omega
        clear hc hq hq2 k1 hbel
        by_cases hle : qs < qt
        · have hle' : ¬ (qt : Int) ≤ (qs : Int) := by omega
          go_wp2_with fail
          go_quiet (fail)
          go_wp2_with fail
          go_roundg (67 - (i1 + 1 + 1))
          case measure => omega
          case rel =>
            refine ⟨i1 + 1 + 1, by omega, by omega, by omega, rfl, by go_num, fun j h hj => ?_, below_drewN HBE.out _⟩
            by_cases e : j = i1 + 1
            · subst e
              rw [HQ.out, HRT.out]
              simp
              omega
            · exact HRI.out j h (by omega)
        · have hle' : (qt : Int) ≤ (qs : Int) := by omega
          go_wp2_with fail
          go_quiet (fail)
          go_wp2_with fail
          go_ret2
          have hAE : A = ([], 50) := by
            rw [HA.out]
            unfold streamR
            rw [if_neg (by rw [← HN.out]; exact h64), if_pos]
            cases hra : riseAll [] L with
            | false => rfl
            | true =>
              have := (riseAll_iff [] L).1 hra (i1 + 1) hiL
              simp only [List.nil_append] at this
              rw [HQ.out, HRT.out] at this
              simp at this
              omega
          refine ⟨none, 0, ?_⟩
          rw [hAE]
          exact ⟨rfl, own_none _ _, below_drewN HBE.out _⟩
      · have HALL : Hid (riseAll [] L = true) := hid ((riseAll_iff [] L).2 (fun j h => by
          simp only [List.nil_append]
          exact HRI.out j h (by have := HN.out; omega)))
        have HAE : Hid (A = if 32768 < (streamB L).length then ([], 3) else (streamB L, 0)) := hid (by
          rw [HA.out]
          unfold streamR
          rw [if_neg (by rw [← HN.out]; exact h64), if_neg (by rw [HALL.out]; decide)])
        have hi1 : ¬ (i : Int) < (n : Int) := by omega
        obtain ⟨w1, rfl⟩ : ∃ w1, w1 = wr := ⟨_, rfl⟩
        go_wp2_with fail
        clear hbel HRI HALL hi hil hi1 hin hi0
        go_loopg [5, 6] n (fun gg v5 v6 wr => ∃ (i : Nat) (ar : Option Addr) (cr : Nat), i ≤ n ∧ gg = n - i ∧ v6 = .int .i64 (i : Int) ∧ v5 = .slice ar (streamB (L.take i)).length cr ∧ (streamB (L.take i)).length ≤ 32768 ∧ wr.ownsRow w.heap.size 5 1 (.slice ar (streamB (L.take i)).length cr) (streamB (L.take i)).length (bcs (streamB (L.take i))) ∧ Below w.heap.size w wr)
        case atStart => exact ⟨0, none, 0, by omega, by omega, rfl, rfl, by simp [streamB], own_none _ _, HBE.out⟩
        case round =>
          obtain ⟨i, ar, cr, hi, rfl, rfl, rfl, hle, how, hbel⟩ := hrel
          have HO := hid how
          have HBJ := hid hbel
          clear how HBE
          by_cases hil : i < n
          · have hi1 : (i : Int) < (n : Int) := by omega
            have hiL : i < L.length := by rw [← HN.out]; exact hil
            have hne : L ≠ [] := fun e => by rw [e] at hiL; simp at hiL
            obtain ⟨g, o, hao, hg, _, hcap, hc⟩ := HL.out.at hne
            subst hao
            rw [← HN.out] at hcap
            obtain ⟨bv, h1, h2, h3⟩ := hc i hiL
            have HC1 : Hid (∀ W, Below w.heap.size w W → W.cell? ⟨g, o + i * 2, none⟩ = some (.int .u64 (L[i].1 : Int))) := hid (fun W hb => by rw [← h1]; exact World.cell?_of_block (hb.block g hg))
            have HC2 : Hid (∀ W, Below w.heap.size w W → W.cell? ⟨g, o + i * 2 + 1, none⟩ = some bv) := hid (fun W hb => by rw [← h2]; exact World.cell?_of_block (hb.block g hg))
            obtain ⟨ab, cb, hbv⟩ := h3.shape
            subst hbv
            have HSL := hid h3
            have HFI := hid (HF.out.2 i hiL)
            have HST := hid (stream_take L i hiL)
            have HMO := hid (stream_mono L (i + 1))
            have HRL := hid (rec_len L[i])
            generalize L[i] = q at *
            obtain ⟨qt, qb⟩ := q
            simp only at *
            clear hc h1 h2 h3 hbel
            obtain ⟨m, hm⟩ : ∃ m, m = qb.length := ⟨_, rfl⟩
            rw [← hm] at HC2 HSL
            have HM := hid hm
            have hmb : m ≤ 140737488355328 := by rw [hm]; exact HFI.out.2
            clear hm
            have hc2 := HC2.out wr HBJ.out
            have hc1 := HC1.out wr HBJ.out
            obtain ⟨T, hT⟩ : ∃ T, T = streamB (L.take i) := ⟨_, rfl⟩
            rw [← hT] at hle HO HST ⊢
            have HT := hid hT
            clear hT
            by_cases hbg : 32768 < m
            · have hbg' : (32768 : Int) < (m : Int) := by omega
              go_wp2_with fail
              go_ret2
              have hS : 32768 < (streamB L).length := by
                have h1 := HMO.out
                rw [HST.out, List.length_append, HRL.out, ← HM.out] at h1
                omega
              refine ⟨none, 0, ?_⟩
              rw [HAE.out, if_pos hS]
              exact ⟨rfl, own_none _ _, HBJ.out⟩
            · have hbg' : ¬ (32768 : Int) < (m : Int) := by omega
              obtain ⟨tl, htl⟩ : ∃ k, k = T.length := ⟨_, rfl⟩
              rw [← htl] at hle HO ⊢
              have HTL := hid htl
              clear htl
              have hmw : IntKind.u64.wrap (m : Int) = (m : Int) := by rw [IntKind.wrap_u64]; omega
              have HP1 := hid (rput_any qt HFI.out.1 wr)
              go_wp2_with fail
              refine HP1.out.mono ?_
              rintro e w2 ⟨a2, c2, rfl, ho2, hb2⟩
              have HB2 := hid (HBJ.out.trans (hb2.mono HBJ.out.size))
              have hO2 : w2.ownsRow w.heap.size 5 1 (.slice ar tl cr) T.length (bcs T) := by rw [← HTL.out]; exact ownsRow_same HO.out (fun g e => hb2.block g (HO.out.lt g e).2)
              obtain ⟨a3, c3, w3, hrun3, hown3, hg3⟩ := append_bytes hO2 (Sl.own ho2 rfl) (by have := put_len qt; have := sizeN_le (formN_lt qt); have := HTL.out; omega) HB2.out.size
              have HRUN3 := hid hrun3
              have HO3 := hid hown3
              have HB3 := hid (HB2.out.grown hg3 HB2.out.size (fun k h => (hO2.lt k h).1))
              have hd3 := HC2.out w3 HB3.out
              clear hrun3 hown3 hg3 hO2 ho2 hb2 HP1 HB2 hc1 hc2
              obtain ⟨T1, hT1⟩ : ∃ T1, T1 = T ++ putB qt := ⟨_, rfl⟩
              rw [← hT1] at HRUN3 HO3
              have HT1 := hid hT1
              obtain ⟨t1, ht1⟩ : ∃ k, k = T1.length := ⟨_, rfl⟩
              rw [← ht1] at HRUN3 HO3
              have HTL1 := hid ht1
              obtain ⟨pl, hpl⟩ : ∃ k, k = (putB qt).length := ⟨_, rfl⟩
              rw [← hpl] at HRUN3 ⊢
              have hpl9 : pl ≤ 9 := by rw [hpl, put_len]; exact sizeN_le (formN_lt _)
              have HTB1 : Hid (t1 = tl + pl) := hid (by rw [ht1, hT1, List.length_append, ← HTL.out, ← hpl])
              clear hT1 ht1 hpl
              have HP2 := hid (rput_any m (by omega) w3)
              go_wp2_with (first | (at_builtin; refine wpList_append_run rfl (.tmp 41) (.tmp 47) 23 rfl (.slice ar tl cr) (.slice a2 pl c2) (.slice a3 t1 c3) w3 rfl rfl HRUN3.out ?_) | fail)
              refine HP2.out.mono ?_
              rintro e w4 ⟨a4, c4, rfl, ho4, hb4⟩
              have HB4 := hid (HB3.out.trans (hb4.mono HB3.out.size))
              have hO4 : w4.ownsRow w.heap.size 5 1 (.slice a3 t1 c3) T1.length (bcs T1) := by rw [← HTL1.out]; exact ownsRow_same HO3.out (fun g e => hb4.block g (HO3.out.lt g e).2)
              obtain ⟨a5, c5, w5, hrun5, hown5, hg5⟩ := append_bytes hO4 (Sl.own ho4 rfl) (by have := put_len m; have := sizeN_le (formN_lt m); have := HTL1.out; have := HTB1.out; omega) HB4.out.size
              have HRUN5 := hid hrun5
              have HO5 := hid hown5
              have HB5 := hid (HB4.out.grown hg5 HB4.out.size (fun k h => (hO4.lt k h).1))
              have hd5 := HC2.out w5 HB5.out
              clear hrun5 hown5 hg5 hO4 ho4 hb4 HP2 HB4 hd3
              obtain ⟨T2, hT2⟩ : ∃ T2, T2 = T1 ++ putB m := ⟨_, rfl⟩
              rw [← hT2] at HRUN5 HO5
              have HT2 := hid hT2
              obtain ⟨t2, ht2⟩ : ∃ k, k = T2.length := ⟨_, rfl⟩
              rw [← ht2] at HRUN5 HO5
              have HTL2 := hid ht2
              obtain ⟨pm, hpm⟩ : ∃ k, k = (putB m).length := ⟨_, rfl⟩
              rw [← hpm] at HRUN5 ⊢
              have hpm9 : pm ≤ 9 := by rw [hpm, put_len]; exact sizeN_le (formN_lt _)
              have HTB2 : Hid (t2 = t1 + pm) := hid (by rw [ht2, hT2, List.length_append, ← HTL1.out, ← hpm])
              clear hT2 ht2 hpm
              have hO5' : w5.ownsRow w.heap.size 5 1 (.slice a5 t2 c5) T2.length (bcs T2) := by rw [← HTL2.out]; exact HO5.out
              have hSL5 : Sl w5 (.slice ab m cb) qb := by have := HSL.out.below HB5.out; exact this
              obtain ⟨a6, c6, w6, hrun6, hown6, hg6⟩ := append_bytes hO5' hSL5 (by have := HTL2.out; have := HTB2.out; have := HTB1.out; have := HM.out; omega) HB5.out.size
              have HRUN6 := hid hrun6
              have HO6 := hid hown6
              have HB6 := hid (HB5.out.grown hg6 HB5.out.size (fun k h => (hO5'.lt k h).1))
              clear hrun6 hown6 hg6 hO5' hSL5
              have HT3 : Hid (T2 ++ qb = streamB (L.take (i + 1))) := hid (by
                rw [HST.out, HT2.out, HT1.out]
                unfold recB
                simp [← HM.out])
              rw [HT3.out] at HRUN6 HO6
              obtain ⟨t3, ht3⟩ : ∃ k, k = (streamB (L.take (i + 1))).length := ⟨_, rfl⟩
              rw [← ht3] at HRUN6 HO6
              have HTL3 := hid ht3
              have ht3b : t3 ≤ 100000 := by rw [ht3, ← HT3.out, List.length_append, ← HTL2.out, ← HM.out]; have := HTB2.out; have := HTB1.out; omega
              clear ht3
              by_cases hlm : 32768 < t3
              · have hlm' : (32768 : Int) < (t3 : Int) := by omega
                go_wp2_with (first | (at_builtin; refine wpList_append_run rfl (.tmp 49) (.tmp 57) 23 rfl (.slice a3 t1 c3) (.slice a4 pm c4) (.slice a5 t2 c5) w5 rfl rfl HRUN5.out ?_) | (at_builtin; refine wpList_append_run rfl (.tmp 59) (.tmp 64) 23 rfl (.slice a5 t2 c5) (.slice ab m cb) (.slice a6 t3 c6) w6 rfl rfl HRUN6.out ?_) | fail)
                go_ret2
                have hS : 32768 < (streamB L).length := by have h1 := HMO.out; rw [← HTL3.out] at h1; omega
                refine ⟨none, 0, ?_⟩
                rw [HAE.out, if_pos hS]
                exact ⟨rfl, own_none _ _, HB6.out⟩
              · have hlm' : ¬ (32768 : Int) < (t3 : Int) := by omega
                go_wp2_with (first | (at_builtin; refine wpList_append_run rfl (.tmp 49) (.tmp 57) 23 rfl (.slice a3 t1 c3) (.slice a4 pm c4) (.slice a5 t2 c5) w5 rfl rfl HRUN5.out ?_) | (at_builtin; refine wpList_append_run rfl (.tmp 59) (.tmp 64) 23 rfl (.slice a5 t2 c5) (.slice ab m cb) (.slice a6 t3 c6) w6 rfl rfl HRUN6.out ?_) | fail)
                go_roundg (n - (i + 1))
                case measure => omega
                case rel => exact ⟨i + 1, a6, c6, by omega, rfl, by go_num, by rw [← HTL3.out], by rw [← HTL3.out]; omega, by rw [← HTL3.out]; exact HO6.out, HB6.out⟩
          · have e : i = n := by omega
            subst e
            have HTK : Hid (L.take i = L) := by apply hid; rw [HN.out]; simp
            rw [HTK.out] at HO hle ⊢
            rw [if_neg (by omega)] at HAE
            clear hbel
            generalize hS : (streamB L).length = S at *
            have HS := hid hS
            clear hS
            go_wp2_with fail
            go_ret2
            refine ⟨ar, cr, ?_⟩
            rw [HAE.out]
            simp only [streamed, HS.out]
            exact ⟨rfl, HO.out, HBJ.out⟩
end Go.Proofs.Ytcmbijckhcckpaa
