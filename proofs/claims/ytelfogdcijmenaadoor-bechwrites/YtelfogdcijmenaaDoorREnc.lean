/- The document's Encode. -/
import Derived.Test.YtelfogdcijmenaaDoorRHead
import Derived.Test.YtelfogdcijmenaaDoorRChk
namespace Go.Proofs.YtelfogdcijmenaaDoor
open Go.RowKit

theorem enc_bad2 {h ws : Bs} (hb : (fitB h && !h.any badB) = false) : encB h ws = ([], 60) := by
  apply enc_bad
  rw [any_bad] at hb
  cases h1 : fitB h <;> cases h2 : h.any outB <;> cases h3 : h.any capB <;> cases h4 : ws.any nwB <;> simp_all
theorem enc_bad3 {h ws : Bs} (hb : ws.any nwB = true) : encB h ws = ([], 60) := by
  apply enc_bad
  rw [hb, Bool.or_true]
theorem enc_good {h ws : Bs} (h1 : (fitB h && !h.any badB) = true) (h2 : ws.any nwB = false) : encB h ws = if 32768 < h.length + ws.length + 7 then ([], 3) else (textB h ws, 0) := by
  unfold encB
  rw [if_neg]
  rw [any_bad] at h1
  cases h3 : fitB h <;> cases h4 : h.any outB <;> cases h5 : h.any capB <;> simp_all
theorem st_app (a b : Bs) : (⟨a.toArray⟩ : ByteArray) ++ ⟨b.toArray⟩ = ⟨(a ++ b).toArray⟩ := by
  apply ByteArray.ext
  simp
theorem add_text (a b : Bs) (h : a.length + b.length ≤ 9223372036854775807) (W : World) : (Op.stringOp .add (⟨a.toArray⟩ : ByteArray) ⟨b.toArray⟩).run Tryd.prog W = .ok (St (a ++ b)) W := by
  have h1 := st_app a b
  have h2 := st_size a
  have h3 := st_size b
  have h4 : ¬ (9223372036854775807 : Int) < (a.length : Int) + (b.length : Int) := by omega
  simp [Op.stringOp, h1, h2, h3, h4, go_sem]
set_option maxRecDepth 100000 in
set_option maxHeartbeats 8000000 in
theorem renc_any (h ws : Bs) (v : Value) (w : World) (hs : Sl w v ws) (hm : ws.length ≤ 1000000) (hh : h.length ≤ 1000000) :
    Calls Tryd.prog 11 #[St h, v] w fun e w' => e = encoded (encB h ws) ∧ Below w.heap.size w w' := by
  have HS := hid hs
  have H1 := hid (rhead_any h w (by omega))
  have H2 := hid (fun W => rheads_any h W hh)
  obtain ⟨av, cv, rfl⟩ := hs.shape
  obtain ⟨A, hA⟩ : ∃ A, A = encB h ws := ⟨_, rfl⟩
  rw [← hA]
  have HA := hid hA
  have hs0 := st_size h
  have HHL : Hid ((headW h).length = 2 * h.length + 1) := hid (head_len h)
  obtain ⟨n, hn⟩ : ∃ n, n = ws.length := ⟨_, rfl⟩
  obtain ⟨m, hm'⟩ : ∃ m, m = h.length := ⟨_, rfl⟩
  rw [← hn] at hm ⊢
  rw [← hm'] at hh hs0 HHL
  rw [HHL.out] at H2
  have HN := hid hn
  have HM := hid hm'
  have HNB : Hid (ws.any nwB = false → ∀ i (hi : i < ws.length), ws[i].toNat < 32) := hid (fun h0 i hi => by
    have h1 := List.any_eq_false.1 h0 ws[i] (List.getElem_mem hi)
    simpa [nwB] using h1)
  clear hs hA hn hm'
  generalize hb1 : (fitB h && !h.any badB) = b1 at *
  have HB1 := hid hb1
  clear hb1
  go_enter Tryd.func11, Tryd.ntmps11
  go_wp2_with fail
  refine H1.out.mono ?_
  rintro e w1 ⟨rfl, hw1⟩
  subst hw1
  cases b1 with
  | false =>
    have HZ := hid (HA.out.trans (enc_bad2 HB1.out))
    go_wp2_with fail
    go_ret2
    rw [HZ.out]
    exact ⟨rfl, Below.refl _ _⟩
  | true =>
    go_wp2_with fail
    clear H1
    go_loop [6] (fun v6 => ∃ k : Nat, k ≤ n ∧ v6 = .int .i64 (k : Int) ∧ Hid ((ws.take k).any nwB = false)) (fun v6 => n - (intOf v6).toNat)
    case atStart => exact ⟨0, by omega, rfl, hid rfl⟩
    case round =>
      obtain ⟨k, hk, rfl, hf⟩ := hrel
      by_cases hkn : k < n
      · have hk1 : (k : Int) < (n : Int) := by omega
        have hks : k < ws.length := by rw [← HN.out]; exact hkn
        have HT := hid (any_take_succ nwB ws k hks)
        rw [hf.out, Bool.false_or] at HT
        obtain ⟨g1, o, rfl, hg, hq, hcap, hc⟩ := HS.out.at (fun e => by rw [e] at hks; simp at hks)
        rw [← HN.out] at hcap
        have hck := hc k hks
        generalize ws[k] = x at *
        clear hc hq hf
        by_cases h32 : 31 < x.toNat
        · have e1 : (31 : Int) < x.toNat := by omega
          have HZ := hid (HA.out.trans (enc_bad3 (any_of_take (by rw [HT.out]; simp [nwB]; omega))))
          go_wp2_with fail
          go_ret2
          rw [HZ.out]
          exact ⟨rfl, Below.refl _ _⟩
        · have e1 : ¬ (31 : Int) < x.toNat := by omega
          have HX : Hid ((ws.take (k + 1)).any nwB = false) := hid (by rw [HT.out]; simp [nwB]; omega)
          go_wp2_with fail
          go_round
          case rel => exact ⟨k + 1, by omega, by go_num, HX⟩
          case measure => simp [intOf]; omega
      · have hk1 : ¬ (k : Int) < (n : Int) := by omega
        have hf2 := hf.out
        rw [List.take_of_length_le (by rw [← HN.out]; omega)] at hf2
        have HE := hid (HA.out.trans (enc_good HB1.out hf2))
        rw [← HN.out, ← HM.out] at HE
        have HNW := hid (HNB.out hf2)
        clear hf hf2 HNB
        by_cases hlim : 32768 < m + n + 7
        · have hc : (32768 : Int) < m + 1 + n + 6 := by omega
          rw [if_pos hlim] at HE
          go_wp2_with fail
          go_ret2
          rw [HE.out]
          exact ⟨rfl, Below.refl _ _⟩
        · have hc : ¬ (32768 : Int) < m + 1 + n + 6 := by omega
          rw [if_neg hlim] at HE
          go_wp2_with fail
          refine (H2.out w1).mono ?_
          rintro e w2 ⟨a2, c2, rfl, ho2, hb2⟩
          obtain ⟨a3, c3, w3, hr3, ho3, hg3⟩ := append_bytes (xs := headW h) (by rw [HHL.out]; exact ho2) (HS.out.below hb2) (by rw [HHL.out, ← HN.out]; omega) hb2.size
          have hb3 := hb2.grown hg3 hb2.size (fun b hb => (ho2.lt b hb).1)
          have e3 : (headW h ++ ws).length = 2 * m + 1 + n := by rw [List.length_append, HHL.out, HN.out]
          rw [e3] at hr3 ho3
          rw [← HN.out] at hr3
          have hzs : Sl (w3.alloc (.cells (bcs zeros).toArray 5)) (.slice (some ⟨w3.heap.size, 0, none⟩) 6 6) zeros := by
            refine Or.inr ⟨_, _, rfl, by decide, fun _ => ⟨rfl, by simp⟩, fun i hi => ?_⟩
            rw [add_plain, cell_of_heap (heap_alloc_new w3 _), Nat.zero_add]
            simpa using bcs_get hi
          have hb3' := hb3.alloc hb3.size (.cells (bcs zeros).toArray 5)
          obtain ⟨a4, c4, w4, hr4, ho4, hg4⟩ := append_bytes (xs := headW h ++ ws) (by rw [e3]; exact ho3.alloc (.cells (bcs zeros).toArray 5)) hzs (by rw [e3]; simp [zeros]; omega) hb3'.size
          have hb4 := hb3'.grown hg4 hb3'.size (fun b hb => (ho3.lt b hb).1)
          have e4 : (headW h ++ ws ++ zeros).length = 2 * m + 1 + n + 6 := by rw [List.length_append, e3]; rfl
          rw [e4] at hr4 ho4
          have HR3 := hid hr3
          have HR4 : Hid (∀ ty, (Builtin.append_ #[22, 22] ty #[.slice a3 (2 * m + 1 + n) c3, .slice (some ⟨w3.heap.size, 0, none⟩) 6 6]).run Tryd.prog (w3.alloc (.cells #[.int .u8 0, .int .u8 0, .int .u8 0, .int .u8 0, .int .u8 0, .int .u8 0] 5)) = .ok (.slice a4 (2 * m + 1 + n + 6) c4) w4) := hid hr4
          have HCK := hid (rchk_any (headW h ++ ws ++ zeros) _ w4 (Sl.own ho4 e4.symm) (by rw [e4]; omega))
          have HB4 := hid hb4
          obtain ⟨c0, hc0⟩ : ∃ c, c = chk 1 (headW h ++ ws ++ zeros) := ⟨_, rfl⟩
          rw [← hc0] at HCK
          have hc30 : c0 < 1073741824 := by rw [hc0]; exact chk_lt _ 1 (by omega)
          obtain ⟨c, hcx⟩ : ∃ c, c = c0 ^^^ 1 := ⟨_, rfl⟩
          have hcl : c < 1073741824 := by rw [hcx]; exact Nat.xor_lt_two_pow (n := 30) hc30 (by omega)
          have hxr := xor32 (a := c0) (b := 1) (by omega) (by omega)
          rw [← hcx] at hxr
          have hxr' : bits .xor .u32 (c0 : Int) 1 = (c : Int) := hxr
          have HCW : Hid (encW h ws = closeW c) := hid (by unfold encW; rw [hcx, hc0, List.append_assoc])
          clear ho2 hb2 hr3 ho3 hg3 hb3 hzs hb3' hr4 ho4 hg4 hb4 e3 e4 hxr hc0 hcx
          go_wp2_with (first | (at_builtin; refine wpList_append_run rfl _ _ 22 rfl _ _ (.slice a3 (2 * m + 1 + n) c3) w3 rfl rfl HR3.out ?_) | (at_builtin; refine wpList_append_run rfl _ _ 22 rfl _ _ (.slice a4 (2 * m + 1 + n + 6) c4) w4 rfl rfl HR4.out ?_) | fail)
          refine HCK.out.mono ?_
          rintro e w5 ⟨rfl, hb5⟩
          have HB5 := hid (HB4.out.trans (hb5.mono HB4.out.size))
          clear hb5 HCK HR3 HR4 HB4
          have hap := add_text h [49] (by rw [← HM.out]; simp; omega)
          obtain ⟨c6, w6, hr6, ho6, hb6⟩ := text_bytes w5 (h ++ [49]) (by rw [List.length_append, ← HM.out]; simp; omega)
          have e6 : (h ++ [49]).length = m + 1 := by rw [List.length_append, ← HM.out]; rfl
          rw [e6] at hr6 ho6
          have hb6' := HB5.out.trans (hb6.mono HB5.out.size)
          have HO6 : Hid (Ow w6 w1.heap.size (.slice (some ⟨w5.heap.size, 0, none⟩) (m + 1) c6) (h ++ [49])) := hid (by
            obtain ⟨g, cp, cur, fr, k1, k2, k3⟩ := ho6
            exact ⟨g, cp, cur, fr, k1, Nat.le_trans HB5.out.size k2, k3⟩)
          have HB6 := hid hb6'
          clear ho6 hb6 hb6' e6 HB5
          go_wp2_with fail
          clear hap hr6 hxr'
          go_loopg [9, 10] n (fun gg v9 v10 wr => ∃ (i g c : Nat), i ≤ n ∧ gg = n - i ∧ v10 = .int .i64 (i : Int) ∧ v9 = .slice (some ⟨g, 0, none⟩) (m + 1 + i) c ∧ Ow wr w1.heap.size (.slice (some ⟨g, 0, none⟩) (m + 1 + i) c) (h ++ [49] ++ (ws.take i).map letterOf) ∧ Below w1.heap.size w1 wr)
          case atStart => exact ⟨0, w5.heap.size, c6, by omega, by omega, rfl, rfl, by simpa using HO6.out, HB6.out⟩
          case round =>
            obtain ⟨i, g, cc, hi, rfl, rfl, rfl, how, hbel⟩ := hrel
            clear HO6 HB6
            by_cases hin : i < n
            · have hi1 : (i : Int) < (n : Int) := by omega
              have hia : i < ws.length := by rw [← HN.out]; exact hin
              obtain ⟨g7, o7, e7, hg7, hq7, hcap7, hc7⟩ := (HS.out.below hbel).at (fun e => by rw [e] at hia; simp at hia)
              have hck := hc7 i hia
              have hx32 := HNW.out i hia
              have HMT := hid (map_take_succ letterOf ws i hia)
              generalize ws[i] = x at *
              obtain ⟨g8, c8, w8, hr8, ho8, hb8, hp8, hk8⟩ := ow_one how (letterOf x) _ rfl (by omega) hbel.size
              have HR8 := hid hr8
              have HO8 := hid ho8
              have HB8 := hid (hb8 w1 hbel)
              have HIX := hid (letter_at x hx32)
              have hcap : n ≤ cv := by rw [HN.out]; exact hcap7
              subst e7
              clear how hbel hr8 ho8 hb8 hp8 hk8 hc7 hcap7 hq7
              generalize letterOf x = y at *
              go_wp2_with (first | (refine wpList_index_run rfl _ (.tmp 58) 9 rfl (St letters) _ (By y) rfl rfl HIX.out ?_) | (at_builtin; refine wpList_append_run rfl _ _ 22 rfl _ _ (.slice (some ⟨g8, 0, none⟩) (m + 1 + i + 1) c8) w8 rfl rfl HR8.out ?_) | fail)
              go_roundg (n - (i + 1))
              case measure => omega
              case rel => exact ⟨i + 1, g8, c8, by omega, rfl, by go_num, rfl, by rw [HMT.out, ← Nat.add_assoc, ← List.append_assoc]; exact HO8.out, HB8.out⟩
            · have hi1 : ¬ (i : Int) < (n : Int) := by omega
              have hie : i = n := by omega
              subst hie
              rw [List.take_of_length_le (by rw [← HN.out]; exact Nat.le_refl _)] at how
              have HOW := hid how
              have HBE := hid hbel
              obtain ⟨wx, rfl⟩ : ∃ wx, wx = wr := ⟨_, rfl⟩
              clear how hbel
              go_wp2_with fail
              go_loopg [9, 11] 6 (fun gg v9 v11 wr => ∃ (j g c : Nat), j ≤ 6 ∧ gg = 6 - j ∧ v11 = .int .i64 (25 - 5 * (j : Int)) ∧ v9 = .slice (some ⟨g, 0, none⟩) (m + 1 + i + j) c ∧ Ow wr w1.heap.size (.slice (some ⟨g, 0, none⟩) (m + 1 + i + j) c) (h ++ [49] ++ ws.map letterOf ++ ((encW h ws).take j).map letterOf) ∧ Below w1.heap.size w1 wr)
              case atStart => exact ⟨0, g, cc, by omega, by omega, rfl, rfl, by simpa using HOW.out, HBE.out⟩
              case round =>
                obtain ⟨j, g9, c9, hj, rfl, rfl, rfl, how, hbel⟩ := hrel
                clear HOW HBE
                by_cases hj6 : j < 6
                · have hje : j < (encW h ws).length := hj6
                  have HMT := hid (map_take_succ letterOf (encW h ws) j hje)
                  have hdj : (encW h ws)[j] = dig c j := by
                    have : ∀ k (hk : k < 6), (closeW c)[k]'hk = dig c k := by
                      intro k hk
                      have : k = 0 ∨ k = 1 ∨ k = 2 ∨ k = 3 ∨ k = 4 ∨ k = 5 := by omega
                      rcases this with rfl | rfl | rfl | rfl | rfl | rfl <;> rfl
                    have h2 := this j hj6
                    simp only [HCW.out]
                    exact h2
                  rw [hdj] at HMT
                  have hdg := dig_toNat c j
                  have hd32 : (dig c j).toNat < 32 := by rw [hdg]; omega
                  obtain ⟨g8, c8, w8, hr8, ho8, hb8, hp8, hk8⟩ := ow_one how (letterOf (dig c j)) _ rfl (by omega) hbel.size
                  have HR8 := hid hr8
                  have HO8 := hid ho8
                  have HB8 := hid (hb8 w1 hbel)
                  have hix := fun W => text_index letters .u32 (dig c j).toNat (show (dig c j).toNat < letters.length from hd32) W
                  have hlt : letters[(dig c j).toNat]'(show (dig c j).toNat < letters.length from hd32) = letterOf (dig c j) := by unfold letterOf; simp [List.getD, show (dig c j).toNat < letters.length from hd32]
                  rw [hlt] at hix
                  have hbit := and32 (a := c / 2 ^ (5 * (5 - j))) 5 (by omega) (Nat.lt_of_le_of_lt (Nat.div_le_self _ _) (by omega))
                  have hbit2 : bits .and .u32 ((c : Int) / ((2 ^ (5 * (5 - j)) : Nat) : Int)) 31 = ((dig c j).toNat : Int) := by
                    rw [hdg]
                    simpa using hbit
                  have HIX := hid hix
                  clear how hbel hr8 ho8 hb8 hp8 hk8 hix hlt hbit hdg hdj hje
                  generalize letterOf (dig c j) = y at *
                  generalize (dig c j).toNat = D at *
                  have hj'' : j = 0 ∨ j = 1 ∨ j = 2 ∨ j = 3 ∨ j = 4 ∨ j = 5 := by omega
                  rcases hj'' with rfl | rfl | rfl | rfl | rfl | rfl
                  · simp at hbit2
                    go_wp2_with (first | (refine wpList_index_run rfl _ (.tmp 70) 9 rfl (St letters) _ (By y) rfl rfl HIX.out ?_) | (at_builtin; refine wpList_append_run rfl _ _ 22 rfl _ _ (.slice (some ⟨g8, 0, none⟩) (m + 1 + i + 0 + 1) c8) w8 rfl rfl HR8.out ?_) | fail)
                    go_roundg 5
                    case measure => omega
                    case rel => exact ⟨1, g8, c8, by omega, rfl, by go_num, rfl, by rw [HMT.out, ← List.append_assoc]; exact HO8.out, HB8.out⟩
                  · simp at hbit2
                    go_wp2_with (first | (refine wpList_index_run rfl _ (.tmp 70) 9 rfl (St letters) _ (By y) rfl rfl HIX.out ?_) | (at_builtin; refine wpList_append_run rfl _ _ 22 rfl _ _ (.slice (some ⟨g8, 0, none⟩) (m + 1 + i + 1 + 1) c8) w8 rfl rfl HR8.out ?_) | fail)
                    go_roundg 4
                    case measure => omega
                    case rel => exact ⟨2, g8, c8, by omega, rfl, by go_num, rfl, by rw [HMT.out, ← List.append_assoc]; exact HO8.out, HB8.out⟩
                  · simp at hbit2
                    go_wp2_with (first | (refine wpList_index_run rfl _ (.tmp 70) 9 rfl (St letters) _ (By y) rfl rfl HIX.out ?_) | (at_builtin; refine wpList_append_run rfl _ _ 22 rfl _ _ (.slice (some ⟨g8, 0, none⟩) (m + 1 + i + 2 + 1) c8) w8 rfl rfl HR8.out ?_) | fail)
                    go_roundg 3
                    case measure => omega
                    case rel => exact ⟨3, g8, c8, by omega, rfl, by go_num, rfl, by rw [HMT.out, ← List.append_assoc]; exact HO8.out, HB8.out⟩
                  · simp at hbit2
                    go_wp2_with (first | (refine wpList_index_run rfl _ (.tmp 70) 9 rfl (St letters) _ (By y) rfl rfl HIX.out ?_) | (at_builtin; refine wpList_append_run rfl _ _ 22 rfl _ _ (.slice (some ⟨g8, 0, none⟩) (m + 1 + i + 3 + 1) c8) w8 rfl rfl HR8.out ?_) | fail)
                    go_roundg 2
                    case measure => omega
                    case rel => exact ⟨4, g8, c8, by omega, rfl, by go_num, rfl, by rw [HMT.out, ← List.append_assoc]; exact HO8.out, HB8.out⟩
                  · simp at hbit2
                    go_wp2_with (first | (refine wpList_index_run rfl _ (.tmp 70) 9 rfl (St letters) _ (By y) rfl rfl HIX.out ?_) | (at_builtin; refine wpList_append_run rfl _ _ 22 rfl _ _ (.slice (some ⟨g8, 0, none⟩) (m + 1 + i + 4 + 1) c8) w8 rfl rfl HR8.out ?_) | fail)
                    go_roundg 1
                    case measure => omega
                    case rel => exact ⟨5, g8, c8, by omega, rfl, by go_num, rfl, by rw [HMT.out, ← List.append_assoc]; exact HO8.out, HB8.out⟩
                  · simp at hbit2
                    go_wp2_with (first | (refine wpList_index_run rfl _ (.tmp 70) 9 rfl (St letters) _ (By y) rfl rfl HIX.out ?_) | (at_builtin; refine wpList_append_run rfl _ _ 22 rfl _ _ (.slice (some ⟨g8, 0, none⟩) (m + 1 + i + 5 + 1) c8) w8 rfl rfl HR8.out ?_) | fail)
                    go_roundg 0
                    case measure => omega
                    case rel => exact ⟨6, g8, c8, by omega, rfl, by go_num, rfl, by rw [HMT.out, ← List.append_assoc]; exact HO8.out, HB8.out⟩
                · have hje : j = 6 := by omega
                  subst hje
                  have e9 : (encW h ws).take 6 = encW h ws := rfl
                  rw [e9] at how
                  have HTX : Hid (textB h ws = h ++ [49] ++ ws.map letterOf ++ (encW h ws).map letterOf) := hid (by unfold textB; simp)
                  rw [← HTX.out] at how
                  have hst := how.sl.string
                  have HBE := hid hbel
                  clear how hbel
                  go_wp2_with fail
                  go_ret2
                  rw [HE.out]
                  exact ⟨rfl, HBE.out⟩
end Go.Proofs.YtelfogdcijmenaaDoor
