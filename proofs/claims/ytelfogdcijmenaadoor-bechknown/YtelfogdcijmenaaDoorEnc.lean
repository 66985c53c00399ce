/- Encode. -/
import Derived.Test.YtelfogdcijmenaaDoorOw
import Derived.Test.YtelfogdcijmenaaDoorClose
namespace Go.Proofs.YtelfogdcijmenaaDoor
open Go.RowKit

theorem nil_string (w : World) : (convert 22 9 (.slice none 0 0)).run Tryd.prog w = .ok (St []) w := by kernel_rfl
/-- bytes, as a text -/
theorem Sl.string {w : World} {v : Value} {l : Bs} (h : Sl w v l) : (convert 22 9 v).run Tryd.prog w = .ok (St l) w := by
  rcases h with ⟨rfl, rfl⟩ | ⟨a, cap, rfl, _, _, h3⟩
  · exact nil_string w
  · exact run_convert_bytes_back (P := Tryd.prog) w 22 9 5 a cap l Tryd.underlying22 Tryd.underlying5 Tryd.underlying9 (fun j hj => h3 j hj)
theorem text_index (s : Bs) (k : IntKind) (i : Nat) (hi : i < s.length) (W : World) : (Instr.index 9 (St s) (.int k (i : Int))).run Tryd.prog W = .ok (By s[i]) W := by
  have h0 : (0 : Int) ≤ (i : Int) := by omega
  have h1 : (⟨s.toArray⟩ : ByteArray)[i]? = some s[i] := by
    rw [getElem?_pos (⟨s.toArray⟩ : ByteArray) i (by rw [st_size]; exact hi)]
    rfl
  simp [Instr.index, asIntOf, run_underlying Tryd.underlying9, h1, go_sem]
theorem letter_at (c : UInt8) (h : c.toNat < 32) (W : World) : (Instr.index 9 (St letters) (By c)).run Tryd.prog W = .ok (By (letterOf c)) W := by
  have hl : c.toNat < letters.length := h
  have h1 := text_index letters .u8 c.toNat hl W
  have h2 : letterOf c = letters[c.toNat] := by unfold letterOf; simp [List.getD, hl]
  rw [h2]
  exact h1
theorem enc_bad {h ws : Bs} (hb : (!fitB h || h.any outB || h.any capB || ws.any nwB) = true) : encB h ws = ([], 60) := by unfold encB; rw [if_pos hb]
theorem eg20 : ∀ args w, (callFunc 20 args).run Tryd.prog w = .ok (.enter 20 args) w := enters_of Tryd.func20 (by kernel_rfl) rfl
theorem eg21 : ∀ args w, (callFunc 21 args).run Tryd.prog w = .ok (.enter 21 args) w := enters_of Tryd.func21 (by kernel_rfl) rfl
theorem eg23 : ∀ args w, (callFunc 23 args).run Tryd.prog w = .ok (.enter 23 args) w := enters_of Tryd.func23 (by kernel_rfl) rfl
theorem eg33 : ∀ args w, (callFunc 33 args).run Tryd.prog w = .ok (.enter 33 args) w := enters_of Tryd.func33 (by kernel_rfl) rfl
theorem has_out (s : Bs) (w : World) (hm : s.length ≤ 140737488355328) : Calls Tryd.prog 19 #[St s, .func (.func 20) #[] #[]] w fun e w' => e = .returned (.bool (s.any outB)) ∧ w' = w := has_str s outB 20 #[] w hm eg20 (fun c => out_any c w)
theorem has_cap (s : Bs) (w : World) (hm : s.length ≤ 140737488355328) : Calls Tryd.prog 19 #[St s, .func (.func 21) #[] #[]] w fun e w' => e = .returned (.bool (s.any capB)) ∧ w' = w := has_str s capB 21 #[] w hm eg21 (fun c => cap_any c w)
theorem has_sml (s : Bs) (w : World) (hm : s.length ≤ 140737488355328) : Calls Tryd.prog 19 #[St s, .func (.func 33) #[] #[]] w fun e w' => e = .returned (.bool (s.any smlB)) ∧ w' = w := has_str s smlB 33 #[] w hm eg33 (fun c => sml_any c w)
theorem has_nw (s : Bs) (v : Value) (w : World) (hs : Sl w v s) (hm : s.length ≤ 140737488355328) : Calls Tryd.prog 22 #[v, .func (.func 23) #[] #[]] w fun e w' => e = .returned (.bool (s.any nwB)) ∧ w' = w := has_row v s nwB 23 #[] w hs hm eg23 (fun c => nw_any c w)
/-- what Encode answers -/
abbrev encoded (r : Bs × Nat) : Ending := .returned (.tuple #[St r.1, .int .i64 (r.2 : Int)])
set_option maxRecDepth 100000 in
set_option maxHeartbeats 4000000 in
theorem enc_any (h ws : Bs) (v : Value) (w : World) (hs : Sl w v ws) (hm : ws.length ≤ 1000000) (hh : h.length ≤ 1000000) (hx : Mx w) :
    Calls Tryd.prog 10 #[St h, v] w fun e w' => e = encoded (encB h ws) ∧ Below w.heap.size w w' := by
  have HS := hid hs
  have HX := hid hx
  have H1 := hid (fit_any h w)
  have H2 := hid (has_out h w (by omega))
  have H3 := hid (has_cap h w (by omega))
  have H4 := hid (has_nw ws v w hs (by omega))
  have HCL := hid (fun w1 (hb : Below w.heap.size w w1) => closing_any h ws v w1 (hs.below hb) hm hh (hx.below hb))
  obtain ⟨av, cv, rfl⟩ := hs.shape
  obtain ⟨A, hA⟩ : ∃ A, A = encB h ws := ⟨_, rfl⟩
  rw [← hA]
  have HA := hid hA
  have HB0 : Hid ((!fitB h || h.any outB || h.any capB || ws.any nwB) = true → A = ([], 60)) := hid (fun hb => HA.out.trans (enc_bad hb))
  have hs0 := st_size h
  obtain ⟨n, hn⟩ : ∃ n, n = ws.length := ⟨_, rfl⟩
  obtain ⟨m, hm'⟩ : ∃ m, m = h.length := ⟨_, rfl⟩
  rw [← hn] at hm H4 HCL ⊢
  rw [← hm'] at hh hs0
  have HN := hid hn
  have HM := hid hm'
  have HFB : Hid (fitB h = true → 1 ≤ m ∧ m ≤ 83) := hid (by unfold fitB; rw [← HM.out]; simp)
  have HNB : Hid (ws.any nwB = false → ∀ i (hi : i < ws.length), ws[i].toNat < 32) := hid (fun h0 i hi => by
    have h1 := List.any_eq_false.1 h0 ws[i] (List.getElem_mem hi)
    simpa [nwB] using h1)
  clear hs hx hA hn hm'
  generalize hb1 : fitB h = b1 at *
  generalize hb2 : h.any outB = b2 at *
  generalize hb3 : h.any capB = b3 at *
  generalize hb4 : ws.any nwB = b4 at *
  have HE : Hid ((!b1 || b2 || b3 || b4) = false → A = if 32768 < m + n + 7 then ([], 3) else (textB h ws, 0)) := hid (fun h0 => by
    rw [HA.out]
    unfold encB
    rw [hb1, hb2, hb3, hb4, if_neg (by rw [h0]; decide), HM.out, HN.out])
  clear hb1 hb2 hb3 hb4
  go_enter Tryd.func10, Tryd.ntmps10
  go_wp2_with fail
  refine H1.out.mono ?_
  rintro e w1 ⟨rfl, hw1⟩
  subst hw1
  cases b1 with
  | false =>
    have HZ := hid (HB0.out rfl)
    go_wp2_with fail
    go_ret2
    rw [HZ.out]
    exact ⟨rfl, Below.refl _ _⟩
  | true =>
    have hm83 := HFB.out rfl
    go_wp2_with fail
    refine H2.out.mono ?_
    rintro e w1 ⟨rfl, hw1⟩
    subst hw1
    cases b2 with
    | true =>
      have HZ := hid (HB0.out rfl)
      go_wp2_with fail
      go_ret2
      rw [HZ.out]
      exact ⟨rfl, Below.refl _ _⟩
    | false =>
      go_wp2_with fail
      refine H3.out.mono ?_
      rintro e w1 ⟨rfl, hw1⟩
      subst hw1
      cases b3 with
      | true =>
        have HZ := hid (HB0.out rfl)
        go_wp2_with fail
        go_ret2
        rw [HZ.out]
        exact ⟨rfl, Below.refl _ _⟩
      | false =>
        go_wp2_with fail
        refine H4.out.mono ?_
        rintro e w1 ⟨rfl, hw1⟩
        subst hw1
        cases b4 with
        | true =>
          have HZ := hid (HB0.out rfl)
          go_wp2_with fail
          go_ret2
          rw [HZ.out]
          exact ⟨rfl, Below.refl _ _⟩
        | false =>
          have HZ := hid (HE.out rfl)
          have HNW := hid (HNB.out rfl)
          clear H1 H2 H3 H4 HB0 HE HNB HFB
          by_cases hlim : 32768 < m + n + 7
          · have hc : (32768 : Int) - m - 1 - 6 < n := by omega
            rw [if_pos hlim] at HZ
            go_wp2_with fail
            go_ret2
            rw [HZ.out]
            exact ⟨rfl, Below.refl _ _⟩
          · have hc : ¬ (32768 : Int) - m - 1 - 6 < n := by omega
            rw [if_neg hlim] at HZ
            obtain ⟨c1, w2, hr2, ho2, hb2⟩ := text_bytes w1 h (by rw [← HM.out]; omega)
            rw [← HM.out] at hr2 ho2
            obtain ⟨g3, c3, w3, hr3, ho3, hb3, _, _⟩ := ow_one ho2 49 49 rfl (by omega) hb2.size
            have HR3 := hid hr3
            have HO3 := hid ho3
            have HB3 := hid (hb3 w1 hb2)
            clear ho2 hb2 hr3 ho3 hb3
            go_wp2_with (first | (at_builtin; refine wpList_append_run rfl _ _ 22 rfl _ _ (.slice (some ⟨g3, 0, none⟩) (m + 1) c3) w3 rfl rfl HR3.out ?_) | fail)
            refine (HCL.out w3 HB3.out).mono ?_
            rintro e w4 ⟨a4, c4, rfl, ho4, hb4⟩
            have HB4 := hid (two_below HB3.out hb4)
            have HO4 := hid (HO3.out.below hb4)
            have hs4 := Sl.own ho4 (show 6 = (encW h ws).length from rfl)
            have hsw := HS.out.below HB4.out
            rw [← HN.out] at hsw
            have HL4 := hid (sls2 w4 _ _ _ _ hsw hs4)
            have hal := (Below.refl w4.heap.size w4).alloc (Nat.le_refl _) (.cells #[.slice av n cv, .slice a4 6 c4] 22)
            have HB5 := hid (two_below HB4.out hal)
            have HO5 := hid (HO4.out.below hal)
            clear ho4 hb4 hs4 hsw hal HCL HR3 hr2
            go_wp2_with fail
            have HFL : Hid ([ws, encW h ws].flatten = ws ++ encW h ws) := hid (by simp)
            have HFN : Hid ((ws ++ encW h ws).length = n + 6) := hid (by rw [List.length_append, HN.out]; rfl)
            refine (cat_any _ _ _ HL4.out (by rw [HFL.out, HFN.out]; omega) (by simp)).mono ?_
            rintro e w6 ⟨a6, c6, rfl, ho6, hb6⟩
            rw [HFL.out, HFN.out] at ho6 ⊢
            have HB6 := hid (two_below HB5.out hb6)
            have HO6 := hid (HO5.out.below hb6)
            have HDJ : Hid (∀ b, (Value.slice a6 (n + 6) c6).ownBlock = some b → b ≠ g3) := hid (fun b hb => by
              have h1 := (ho6.lt b hb).1
              have h2 := HO5.out.lt.2.1
              omega)
            have HR6 := hid (own_mono ho6 HB5.out.size)
            have HHS := hid HX.out
            clear ho6 hb6 HB5 HO5 HL4 HO4 HB4 HO3 HB3
            obtain ⟨al, hal⟩ : ∃ al, al = ws ++ encW h ws := ⟨_, rfl⟩
            rw [← hal] at HR6 HFN
            have HAL := hid hal
            have HTX : Hid (textB h ws = h ++ 49 :: al.map letterOf) := hid (by rw [hal]; rfl)
            have HAW : Hid (∀ i (hi : i < al.length), al[i].toNat < 32) := hid (by
              intro i hi
              have hmem : al[i] ∈ ws ++ encW h ws := by rw [← hal]; exact List.getElem_mem hi
              rcases List.mem_append.1 hmem with hm1 | hm1
              · obtain ⟨j, hj, e⟩ := List.getElem_of_mem hm1
                rw [← e]
                exact HNW.out j hj
              · have : ∀ x ∈ encW h ws, x.toNat < 32 := by
                  intro x hx
                  simp only [encW, closeW, List.mem_cons, List.not_mem_nil, or_false] at hx
                  rcases hx with e | e | e | e | e | e <;> (rw [e, dig_toNat]; omega)
                exact this _ hm1)
            clear hal
            go_wp2_with fail
            go_loopg [6, 8, 43] (n + 6) (fun gg v6 v8 v43 wr => ∃ (i g c : Nat), i ≤ n + 6 ∧ gg = n + 6 - i ∧ v43 = .int .i64 (i : Int) ∧ v6 = .slice (some ⟨g, 0, none⟩) (m + 1 + i) c ∧ Ow wr w1.heap.size (.slice (some ⟨g, 0, none⟩) (m + 1 + i) c) (h ++ 49 :: (al.take i).map letterOf) ∧ wr.ownsRow w1.heap.size 5 1 (.slice a6 (n + 6) c6) (n + 6) (bcs al) ∧ (∀ b, (Value.slice a6 (n + 6) c6).ownBlock = some b → b ≠ g) ∧ Below w1.heap.size w1 wr)
            case atStart => exact ⟨0, g3, c3, by omega, by omega, rfl, rfl, HO6.out, HR6.out, HDJ.out, HB6.out⟩
            case round =>
              obtain ⟨i, g, c, hi, rfl, rfl, rfl, how, hro, hdj, hbel⟩ := hrel
              by_cases hin : i < n + 6
              · have hi1 : (i : Int) < ((n : Int) + 6) := by omega
                have hia : i < al.length := by rw [HFN.out]; exact hin
                obtain ⟨g7, o7, e7, hg7, hq7, hcap7, hc7⟩ := (Sl.own hro HFN.out.symm).at (fun e => by rw [e] at hia; simp at hia)
                have hck := hc7 i hia
                have hx32 := HAW.out i hia
                have HMT := hid (map_take_succ letterOf al i hia)
                generalize al[i] = x at *
                obtain ⟨g8, c8, w8, hr8, ho8, hb8, hp8, hk8⟩ := ow_one how (letterOf x) _ rfl (by omega) hbel.size
                have HR8 := hid hr8
                have HO8 := hid ho8
                have HB8 := hid (hb8 w1 hbel)
                have HR8' := hid (ownsRow_same hro (fun b hb => hk8 b (hro.lt b hb).2 (hdj b hb)))
                have HD8 : Hid (∀ b, (Value.slice a6 (n + 6) c6).ownBlock = some b → b ≠ g8) := hid (fun b hb => by
                  rcases hp8 with e | e
                  · rw [e]; exact hdj b hb
                  · have := (hro.lt b hb).2
                    omega)
                have HIX := hid (letter_at x hx32)
                have hcap : n + 6 ≤ c6 := by rw [← HFN.out]; exact hcap7
                subst e7
                clear how hro hdj hbel hr8 ho8 hb8 hp8 hk8 hc7 hcap7 hq7
                generalize letterOf x = y at *
                go_wp2_with (first | (refine wpList_index_run rfl _ (.tmp 48) 9 rfl (St letters) _ (By y) rfl rfl HIX.out ?_) | (at_builtin; refine wpList_append_run rfl _ _ 22 rfl _ _ (.slice (some ⟨g8, 0, none⟩) (m + 1 + i + 1) c8) w8 rfl rfl HR8.out ?_) | fail)
                go_roundg (n + 6 - (i + 1))
                case measure => omega
                case rel => exact ⟨i + 1, g8, c8, by omega, rfl, by go_num, rfl, by rw [HMT.out, ← Nat.add_assoc]; have := HO8.out; simpa using this, HR8'.out, HD8.out, HB8.out⟩
              · have hi1 : ¬ (i : Int) < ((n : Int) + 6) := by omega
                have hie : i = n + 6 := by omega
                subst hie
                rw [List.take_of_length_le (by rw [HFN.out]; exact Nat.le_refl _), ← HTX.out] at how
                have hst := how.sl.string
                have HBE := hid hbel
                clear how hro hdj hbel
                go_wp2_with fail
                go_ret2
                rw [HZ.out]
                exact ⟨rfl, HBE.out⟩
end Go.Proofs.YtelfogdcijmenaaDoor
