import Derived.Test.YtfnnhekjeobicaaGreatDoorR3Bll
import Derived.Deep.Cut
import Derived.Deep.CutRange
import Derived.Test.YtfnnhekjeobicaaGreatDoorFreshL
/- ref03.makes. -/
namespace Go.Proofs.YtfnnhekjeobicaaGreatDoor
open Go.RowKit Go.Maps Go.WideElems

/-- the ops of right terms -/
theorem right_ops {c : UInt8} {l : Bs} (h : Tm.deep (c :: l) ≠ 0) : (c = 116 ∨ c = 84 ∨ c = 72 ∨ c = 83 ∨ c = 66 ∨ c = 68 ∨ c = 86 ∨ c = 75) ∨ c = 110 ∨ c = 88 ∨ c = 80 ∨ c = 87 ∨ c = 76 := by
  obtain ⟨hi, _⟩ := Tm.deep_is h
  have hr := hi.2.2 64 [] (Tm.deep_le _)
  rw [List.append_nil, Tm.rd_cons] at hr
  by_cases h1 : c = 110
  · exact Or.inr (Or.inl h1)
  by_cases h2 : c = 116
  · exact Or.inl (Or.inl h2)
  by_cases h3 : c = 84
  · exact Or.inl (Or.inr (Or.inl h3))
  by_cases h4 : c = 80
  · exact Or.inr (Or.inr (Or.inr (Or.inl h4)))
  by_cases h5 : c = 72
  · exact Or.inl (Or.inr (Or.inr (Or.inl h5)))
  by_cases h6 : Tm.isTwo c = true
  · simp [Tm.isTwo] at h6
    rcases h6 with (((h6 | h6) | h6) | h6) | h6 <;> simp [h6]
  by_cases h7 : c = 88
  · exact Or.inr (Or.inr (Or.inl h7))
  by_cases h8 : c = 87
  · exact Or.inr (Or.inr (Or.inr (Or.inr (Or.inl h8))))
  by_cases h9 : c = 76
  · exact Or.inr (Or.inr (Or.inr (Or.inr (Or.inr h9))))
  rw [if_neg h1, if_neg h2, if_neg h3, if_neg h4, if_neg h5, if_neg h6, if_neg h7, if_neg h8, if_neg h9] at hr
  cases hr
set_option maxRecDepth 100000 in
set_option maxHeartbeats 8000000 in
theorem dmakes_any (w : World) (ao0 : Option Addr) (kc0 : Nat) (M : List Bs) (t : Bs) (hM : Texts w (.slice ao0 M.length kc0) M) (hMl : M.length ≤ 1000000) (hd : Tm.deep t ≠ 0) :
    Calls Tryz.prog 88 #[.slice ao0 M.length kc0, St t] w fun e w' => e = .returned (.bool (makesR M t)) ∧ Below w.heap.size w w' := by
  have HOP := hid (dopen_any t w)
  rw [decide_eq_true hd] at HOP
  have HD := hid hd
  have HK := hid (kidsR_of hd)
  have HHA := hid (fun W k (hb : Below w.heap.size w W) => has_any W ao0 kc0 M k (texts_below hM hb) hMl)
  clear hd hM hMl
  generalize hq : M.length = q at HHA
  clear hq
  go_enter Tryz.func88, Tryz.ntmps88
  go_wp2_with fail
  refine HOP.out.mono ?_
  rintro e w1 ⟨c, n0, x, ao, kc, rfl, hc, hc0, hown, hb⟩
  have HC := hid (hc HD.out)
  have HP := hid (Pk.new (c := c) (n := n0) (x := x) hown)
  have HB : Hid (Below w.heap.size w (w1.alloc (.cells #[.int .u8 (c.toNat : Int), .int .i64 n0, .string x, .slice ao (kidsR t).length kc] 66))) := hid (hb.alloc hb.size _)
  clear hc hc0 hown hb HOP
  go_wp2_with fail
  generalize w1.alloc (.cells #[.int .u8 (c.toNat : Int), .int .i64 n0, .string x, .slice ao (kidsR t).length kc] 66) = w2 at HP HB ⊢
  generalize w1.heap.size = xb at HP ⊢
  obtain ⟨K, hK⟩ : ∃ K, K = (kidsR t).length := ⟨_, rfl⟩
  have hKb : K ≤ 32 := by rw [hK]; exact kidsR_count t
  have HKK := hid hK
  rw [← hK]
  clear hK
  go_loopg [7, 8] K (fun gg s7 s8 wr => ∃ (i : Nat) (wh : Bool), i ≤ K ∧ gg = K - i ∧ s7 = .bool wh ∧ s8 = .int .i64 (i : Int) ∧ wr = w2 ∧ wh = ((kidsR t).take i).all (fun k => decide (k ∈ M)))
  case atStart => exact ⟨0, true, by omega, by omega, rfl, rfl, rfl, rfl⟩
  case round =>
    obtain ⟨i, wh, hi, rfl, rfl, rfl, hwr, hwh⟩ := hrel
    obtain rfl := hwr.symm
    have HWH := hid hwh
    clear hwh hwr
    have hk3 := HP.out.kids
    rw [← HKK.out] at hk3
    by_cases hil : i < K
    · have hi1 : (i : Int) < (K : Int) := by omega
      have hik : i < (kidsR t).length := by rw [← HKK.out]; exact hil
      obtain ⟨g, hao, hg, hk0⟩ := HP.out.kid i hik
      subst hao
      have HH := hid (HHA.out w2 (kidsR t)[i] HB.out)
      have HST : Hid (((kidsR t).take (i + 1)).all (fun k => decide (k ∈ M)) = (wh && decide ((kidsR t)[i] ∈ M))) := hid (by rw [List.take_succ_eq_append_getElem hik, List.all_append, ← HWH.out]; simp)
      generalize (kidsR t)[i] = y at hk0 HH HST
      generalize decide (y ∈ M) = yb at HH HST
      cases wh
      · go_wp2_with fail
        go_roundg (K - (i + 1))
        case measure => omega
        case rel => exact ⟨i + 1, false, by omega, rfl, rfl, by go_num, rfl, by rw [HST.out]; rfl⟩
      · go_wp2_with (first | (go_at_call 65; refine HH.out.mono ?_; rintro e w3 ⟨rfl, hw3⟩; obtain rfl := hw3.symm))
        go_roundg (K - (i + 1))
        case measure => omega
        case rel => exact ⟨i + 1, yb, by omega, rfl, rfl, by go_num, rfl, by rw [HST.out]; rfl⟩
    · have hi1 : ¬ (i : Int) < (K : Int) := by omega
      have HW : Hid (wh = wholeR M t) := hid (by rw [HWH.out, List.take_of_length_le (by rw [← HKK.out]; omega)]; rfl)
      have HSE := hid (secret_any w2 t)
      obtain ⟨s, yes, hsec⟩ : ∃ s yes, sec t = (s, yes) := ⟨_, _, rfl⟩
      rw [hsec] at HSE
      have HSR : Hid (secR M t = (yes && decide (s ∈ M))) := hid (by unfold secR; rw [hsec])
      clear hsec HWH hi hil
      go_wp2_with fail
      refine HSE.out.mono ?_
      rintro e w3 ⟨rfl, hb3⟩
      have HB3 := hid (two_below HB.out hb3)
      have HP3 := hid (HP.out.below hb3)
      have HHS := hid (HHA.out w3 s HB3.out)
      have hop := HP3.out.op
      have hk4 := HP3.out.kids
      rw [← HKK.out] at hk4
      clear hb3 HSE HB HP hk3 hi1
      obtain ⟨l, rfl⟩ : ∃ l, t = c :: l := by
        have h := HC.out
        cases t with
        | nil => cases h
        | cons d l => simp at h; exact ⟨l, by rw [h]⟩
      rcases right_ops HD.out with hc8 | rfl | rfl | rfl | rfl | rfl
      · have HR : Hid (makesR M (c :: l) = wholeR M (c :: l)) := hid (by
          unfold makesR
          rcases hc8 with rfl | rfl | rfl | rfl | rfl | rfl | rfl | rfl <;> simp)
        rcases hc8 with rfl | rfl | rfl | rfl | rfl | rfl | rfl | rfl
        all_goals go_wp2_with fail
        all_goals go_ret
        all_goals exact ⟨by rw [HR.out, ← HW.out]; rfl, HB3.out⟩
      · have HR : Hid (makesR M (110 :: l) = false) := hid (by unfold makesR; simp)
        go_wp2_with fail
        go_ret
        exact ⟨by rw [HR.out]; rfl, HB3.out⟩
      · obtain ⟨a, b, hab⟩ := agree_kids HD.out rfl
        have hkk : kidsR (88 :: l) = [a, b] := by rw [HK.out]; exact hab
        have HR : Hid (makesR M (88 :: l) = (halfR M a b || halfR M b a)) := hid (by unfold makesR; rw [if_neg (by simp), if_pos (by rfl), hkk])
        rw [hkk] at HP3 HKK
        have HK2 : Hid ([a, b].length = 2) := hid rfl
        obtain rfl : K = 2 := HKK.out
        have HKC : Hid (∀ W, Pk xb 88 ao kc [a, b] W → ∃ g, ao = some ⟨g, 0, none⟩ ∧ W.cell? ⟨g, 0, none⟩ = some (St a) ∧ W.cell? ⟨g, 1, none⟩ = some (St b)) := hid (fun W h => by
          obtain ⟨g, e, _, h0⟩ := h.kid 0 (by simp)
          obtain ⟨g', e', _, h1⟩ := h.kid 1 (by simp)
          rw [e] at e'
          cases e'
          exact ⟨g, e, h0, h1⟩)
        clear hab hkk HHS HSR
        go_wp2_with fail
        clear hop hk4
        go_loopg [11, 12, 13] 2 (fun gg s11 _s12 _s13 wr => ∃ i : Nat, i ≤ 2 ∧ gg = 2 - i ∧ s11 = .int .i64 (i : Int) ∧ Below w3.heap.size w3 wr ∧ (0 < i → halfR M a b = false) ∧ (1 < i → halfR M b a = false))
        case atStart => exact ⟨0, by omega, rfl, rfl, Below.refl _ _, fun h => by omega, fun h => by omega⟩
        case round =>
          obtain ⟨i, hi, rfl, rfl, hbel, hfa⟩ := hrel
          have HBE := hid hbel
          have HPE := hid (HP3.out.below hbel)
          have HA := hid hfa
          clear hbel hfa
          have hp3 := HPE.out.kids
          rw [HK2.out] at hp3
          obtain ⟨g, hao, hka, hkb⟩ := HKC.out wr HPE.out
          subst hao
          have HKD : Hid (∀ W, Pk xb 88 (some ⟨g, 0, none⟩) kc [a, b] W → W.cell? ⟨g, 0, none⟩ = some (St a) ∧ W.cell? ⟨g, 1, none⟩ = some (St b)) := hid (fun W h => by
            obtain ⟨g', e', h0, h1⟩ := HKC.out W h
            cases e'
            exact ⟨h0, h1⟩)
          rcases (by omega : i = 0 ∨ i = 1 ∨ i = 2) with rfl | rfl | rfl
          · skip
            have HON := hid (fun W => rone_any 80 b W)
            have HHF : Hid (halfR M a b = ((oneRes 80 b).2 == 0 && decide (a ∈ M) && decide ((oneRes 80 b).1 ∈ M))) := hid rfl
            have HM3 : Hid (halfR M a b = true → makesR M (88 :: l) = true) := hid (fun h => by rw [HR.out, h]; rfl)
            generalize oneRes 80 b = r at HON HHF
            obtain ⟨rz, rn⟩ := r
            simp only [] at HON HHF
            by_cases hr : rn = 0
            · subst hr
              by_cases hx : a ∈ M
              · by_cases hz : rz ∈ M
                · have HF : Hid (halfR M a b = true) := hid (by rw [HHF.out, decide_eq_true hx, decide_eq_true hz]; rfl)
                  go_wp2_with (first | (go_at_call 109; refine (HON.out _).mono ?_; rintro e w5 ⟨rfl, hb5⟩; have HB5 := hid (two_below HBE.out hb5); have HP5 := hid (HPE.out.below hb5); clear hb5; have hq3 := HP5.out.kids; rw [HK2.out] at hq3; obtain ⟨hqa, hqb⟩ := HKD.out w5 HP5.out) | (go_at_call 65; refine (HHA.out _ _ (two_below HB3.out HB5.out)).mono ?_; rintro e w6 ⟨rfl, hw6⟩; obtain rfl := hw6.symm; clear hw6))
                  go_ret
                  exact ⟨by rw [HM3.out HF.out]; rfl, two_below HB3.out HB5.out⟩
                · have HF : Hid (halfR M a b = false) := hid (by rw [HHF.out, decide_eq_true hx, decide_eq_false hz]; rfl)
                  go_wp2_with (first | (go_at_call 109; refine (HON.out _).mono ?_; rintro e w5 ⟨rfl, hb5⟩; have HB5 := hid (two_below HBE.out hb5); have HP5 := hid (HPE.out.below hb5); clear hb5; have hq3 := HP5.out.kids; rw [HK2.out] at hq3; obtain ⟨hqa, hqb⟩ := HKD.out w5 HP5.out) | (go_at_call 65; refine (HHA.out _ _ (two_below HB3.out HB5.out)).mono ?_; rintro e w6 ⟨rfl, hw6⟩; obtain rfl := hw6.symm; clear hw6))
                  go_roundg (2 - (0 + 1))
                  case measure => omega
                  case rel => exact ⟨0+1, by omega, rfl, rfl, HB5.out, fun _ => HF.out, fun h => by omega⟩
              · have HF : Hid (halfR M a b = false) := hid (by rw [HHF.out, decide_eq_false hx]; rfl)
                go_wp2_with (first | (go_at_call 109; refine (HON.out _).mono ?_; rintro e w5 ⟨rfl, hb5⟩; have HB5 := hid (two_below HBE.out hb5); have HP5 := hid (HPE.out.below hb5); clear hb5; have hq3 := HP5.out.kids; rw [HK2.out] at hq3; obtain ⟨hqa, hqb⟩ := HKD.out w5 HP5.out) | (go_at_call 65; refine (HHA.out _ _ (two_below HB3.out HB5.out)).mono ?_; rintro e w6 ⟨rfl, hw6⟩; obtain rfl := hw6.symm; clear hw6))
                go_roundg (2 - (0 + 1))
                case measure => omega
                case rel => exact ⟨0+1, by omega, rfl, rfl, HB5.out, fun _ => HF.out, fun h => by omega⟩
            · have hr2 : ¬ (rn : Int) = 0 := by omega
              have hr3 : ((rn : Int) == 0) = false := by simpa using hr2
              have HF : Hid (halfR M a b = false) := hid (by rw [HHF.out, show (rn == 0) = false by simpa using hr]; rfl)
              go_wp2_with (first | (go_at_call 109; refine (HON.out _).mono ?_; rintro e w5 ⟨rfl, hb5⟩; have HB5 := hid (two_below HBE.out hb5); clear hb5))
              go_roundg (2 - (0 + 1))
              case measure => omega
              case rel => exact ⟨0+1, by omega, rfl, rfl, HB5.out, fun _ => HF.out, fun h => by omega⟩
          · skip
            have HON := hid (fun W => rone_any 80 a W)
            have HHF : Hid (halfR M b a = ((oneRes 80 a).2 == 0 && decide (b ∈ M) && decide ((oneRes 80 a).1 ∈ M))) := hid rfl
            have HM3 : Hid (halfR M b a = true → makesR M (88 :: l) = true) := hid (fun h => by rw [HR.out, h]; simp)
            generalize oneRes 80 a = r at HON HHF
            obtain ⟨rz, rn⟩ := r
            simp only [] at HON HHF
            by_cases hr : rn = 0
            · subst hr
              by_cases hx : b ∈ M
              · by_cases hz : rz ∈ M
                · have HF : Hid (halfR M b a = true) := hid (by rw [HHF.out, decide_eq_true hx, decide_eq_true hz]; rfl)
                  go_wp2_with (first | (go_at_call 109; refine (HON.out _).mono ?_; rintro e w5 ⟨rfl, hb5⟩; have HB5 := hid (two_below HBE.out hb5); have HP5 := hid (HPE.out.below hb5); clear hb5; have hq3 := HP5.out.kids; rw [HK2.out] at hq3; obtain ⟨hqa, hqb⟩ := HKD.out w5 HP5.out) | (go_at_call 65; refine (HHA.out _ _ (two_below HB3.out HB5.out)).mono ?_; rintro e w6 ⟨rfl, hw6⟩; obtain rfl := hw6.symm; clear hw6))
                  go_ret
                  exact ⟨by rw [HM3.out HF.out]; rfl, two_below HB3.out HB5.out⟩
                · have HF : Hid (halfR M b a = false) := hid (by rw [HHF.out, decide_eq_true hx, decide_eq_false hz]; rfl)
                  go_wp2_with (first | (go_at_call 109; refine (HON.out _).mono ?_; rintro e w5 ⟨rfl, hb5⟩; have HB5 := hid (two_below HBE.out hb5); have HP5 := hid (HPE.out.below hb5); clear hb5; have hq3 := HP5.out.kids; rw [HK2.out] at hq3; obtain ⟨hqa, hqb⟩ := HKD.out w5 HP5.out) | (go_at_call 65; refine (HHA.out _ _ (two_below HB3.out HB5.out)).mono ?_; rintro e w6 ⟨rfl, hw6⟩; obtain rfl := hw6.symm; clear hw6))
                  go_roundg (2 - (1 + 1))
                  case measure => omega
                  case rel => exact ⟨1+1, by omega, rfl, rfl, HB5.out, fun _ => HA.out.1 (by omega), fun _ => HF.out⟩
              · have HF : Hid (halfR M b a = false) := hid (by rw [HHF.out, decide_eq_false hx]; rfl)
                go_wp2_with (first | (go_at_call 109; refine (HON.out _).mono ?_; rintro e w5 ⟨rfl, hb5⟩; have HB5 := hid (two_below HBE.out hb5); have HP5 := hid (HPE.out.below hb5); clear hb5; have hq3 := HP5.out.kids; rw [HK2.out] at hq3; obtain ⟨hqa, hqb⟩ := HKD.out w5 HP5.out) | (go_at_call 65; refine (HHA.out _ _ (two_below HB3.out HB5.out)).mono ?_; rintro e w6 ⟨rfl, hw6⟩; obtain rfl := hw6.symm; clear hw6))
                go_roundg (2 - (1 + 1))
                case measure => omega
                case rel => exact ⟨1+1, by omega, rfl, rfl, HB5.out, fun _ => HA.out.1 (by omega), fun _ => HF.out⟩
            · have hr2 : ¬ (rn : Int) = 0 := by omega
              have hr3 : ((rn : Int) == 0) = false := by simpa using hr2
              have HF : Hid (halfR M b a = false) := hid (by rw [HHF.out, show (rn == 0) = false by simpa using hr]; rfl)
              go_wp2_with (first | (go_at_call 109; refine (HON.out _).mono ?_; rintro e w5 ⟨rfl, hb5⟩; have HB5 := hid (two_below HBE.out hb5); clear hb5))
              go_roundg (2 - (1 + 1))
              case measure => omega
              case rel => exact ⟨1+1, by omega, rfl, rfl, HB5.out, fun _ => HA.out.1 (by omega), fun _ => HF.out⟩
          · have HF : Hid (makesR M (88 :: l) = false) := hid (by rw [HR.out, HA.out.1 (by omega), HA.out.2 (by omega)]; rfl)
            go_wp2_with fail
            go_ret
            exact ⟨by rw [HF.out]; rfl, two_below HB3.out HBE.out⟩
      · have HR : Hid (makesR M (80 :: l) = (yes && decide (s ∈ M))) := hid (by rw [← HSR.out]; unfold makesR; simp)
        generalize decide (s ∈ M) = sb at HR HHS
        cases yes
        · go_wp2_with fail
          go_ret
          exact ⟨by rw [HR.out]; rfl, HB3.out⟩
        · go_wp2_with (first | (go_at_call 65; refine HHS.out.mono ?_; rintro e w4 ⟨rfl, hw4⟩; obtain rfl := hw4.symm))
          go_ret
          exact ⟨by rw [HR.out]; rfl, HB3.out⟩
      · have HR : Hid (makesR M (87 :: l) = (wh || (yes && decide (s ∈ M)))) := hid (by rw [← HSR.out, HW.out]; unfold makesR; simp)
        generalize decide (s ∈ M) = sb at HR HHS
        cases wh
        · cases yes
          · go_wp2_with fail
            go_ret
            exact ⟨by rw [HR.out]; rfl, HB3.out⟩
          · go_wp2_with (first | (go_at_call 65; refine HHS.out.mono ?_; rintro e w4 ⟨rfl, hw4⟩; obtain rfl := hw4.symm))
            go_ret
            exact ⟨by rw [HR.out]; rfl, HB3.out⟩
        · go_wp2_with fail
          go_ret
          exact ⟨by rw [HR.out]; rfl, HB3.out⟩
      · have HR : Hid (makesR M (76 :: l) = (wh || (yes && decide (s ∈ M)))) := hid (by rw [← HSR.out, HW.out]; unfold makesR; simp)
        generalize decide (s ∈ M) = sb at HR HHS
        cases wh
        · cases yes
          · go_wp2_with fail
            go_ret
            exact ⟨by rw [HR.out]; rfl, HB3.out⟩
          · go_wp2_with (first | (go_at_call 65; refine HHS.out.mono ?_; rintro e w4 ⟨rfl, hw4⟩; obtain rfl := hw4.symm))
            go_ret
            exact ⟨by rw [HR.out]; rfl, HB3.out⟩
        · go_wp2_with fail
          go_ret
          exact ⟨by rw [HR.out]; rfl, HB3.out⟩
end Go.Proofs.YtfnnhekjeobicaaGreatDoor

/- ref03.Made: the start. -/
namespace Go.Proofs.YtfnnhekjeobicaaGreatDoor
open Go.RowKit Go.Maps Go.WideElems

theorem add_plain (g o j : Nat) : (⟨g, o, none⟩ : Addr).add j = ⟨g, o + j, none⟩ := by simp [Addr.add]
/-- terms copied into a row of one's own -/
theorem append_all (w : World) (kv : Value) (ks : List Bs) (hk : Texts w kv ks) (hn : ks.length ≤ 1000000) :
    ∃ a cap w', (∀ ty, (Builtin.append_ #[22, 22] ty #[.slice none 0 0, kv]).run Tryz.prog w = .ok (.slice a ks.length cap) w') ∧ w'.ownsRow w.heap.size 29 1 (.slice a ks.length cap) ks.length (ks.map St) ∧ Below w.heap.size w w' := by
  obtain ⟨i0, hi, hz0, hz1, hz2⟩ := info_parts Tryz.info29
  obtain ⟨ao, cap, rfl, hc⟩ := hk
  by_cases h0 : ks = []
  · subst h0
    refine ⟨none, 0, w, fun ty => ?_, World.ownsRow_nil _ _ _ _, Below.refl _ _⟩
    cases ao <;> simp [Builtin.append_, Builtin.firstCells, run_underlying Tryz.underlying22, sizeOf, typeInfo, hi, Builtin.lenOf, go_sem]
  · obtain ⟨g, o, rfl, hlt, hcell⟩ := hc h0
    obtain ⟨v', w', h1, h2, h3, _⟩ := run_append_own (P := Tryz.prog) w w.heap.size 22 22 29 i0 _ 1 16 Tryz.underlying22 hi hz0 hz1 hz2 rfl (by decide) (.slice none 0 0) 0 [] (World.ownsRow_nil _ _ _ _) ⟨g, o, none⟩ ks.length cap (ks.map St) (by simp) (fun j u hu => by
      have hj : j < ks.length := by have := (List.getElem?_eq_some_iff.1 hu).1; simpa using this
      rw [add_plain, hcell j hj, ← hu]; simp [hj]) (fun u hu => by obtain ⟨x, _, rfl⟩ := List.mem_map.1 hu; rfl) (by unfold maxLen; omega) (by omega) (Nat.le_refl _)
    rw [Nat.zero_add, List.nil_append] at h2
    obtain ⟨a, cap', rfl⟩ := own_shape h2
    exact ⟨a, cap', w', fun ty => h1, h2, (Below.refl _ w).grown h3 (Nat.le_refl _) (fun k hk => by cases hk)⟩
/-- the state of the making: made are those heard, and others of all that stands within, each of which can be made -/
structure Mg (H A M : List Bs) : Prop where
  rest : ∃ E, M = H ++ E ∧ E.Nodup ∧ ∀ x ∈ E, x ∈ A
  can : ∀ x ∈ M, Can (fun x => x ∈ H) x
theorem Mg.len {H A M : List Bs} (h : Mg H A M) : M.length ≤ H.length + A.length := by
  obtain ⟨E, rfl, h1, h2⟩ := h.rest
  have := length_sub h1 h2
  simp
  omega
theorem Mg.heard {H A M : List Bs} (h : Mg H A M) : ∀ x ∈ H, x ∈ M := fun x hx => by
  obtain ⟨E, rfl, _⟩ := h.rest
  simp [hx]
theorem Mg.start (H A : List Bs) : Mg H A H := ⟨⟨[], by simp, by simp, fun _ h => by cases h⟩, fun x h => .heard h⟩
theorem Mg.add {H A M : List Bs} (h : Mg H A M) {a : Bs} (ha : a ∈ A) (hn : a ∉ M) (hc : Can (fun x => x ∈ H) a) : Mg H A (M ++ [a]) := by
  obtain ⟨E, rfl, h1, h2⟩ := h.rest
  refine ⟨⟨E ++ [a], by simp, List.nodup_append.2 ⟨h1, by simp, fun x hx b hb e => by simp at hb; subst hb; subst e; exact hn (by simp [hx])⟩, fun x hx => ?_⟩, fun x hx => ?_⟩
  · rcases List.mem_append.1 hx with g | g
    · exact h2 x g
    · simp at g; rw [g]; exact ha
  · rcases List.mem_append.1 hx with g | g
    · exact h.can x g
    · simp at g; rw [g]; exact hc
theorem Mg.addL {H A : List Bs} : ∀ (ps M : List Bs), Mg H A M → (∀ p ∈ ps, p ∈ A ∧ Can (fun x => x ∈ H) p) → Mg H A (addL M ps) ∧ M.length ≤ (addL M ps).length ∧ ((∃ p ∈ ps, p ∉ M) → M.length < (addL M ps).length)
  | [], M, h, _ => ⟨h, Nat.le_refl _, fun ⟨_, hp, _⟩ => by cases hp⟩
  | p :: ps, M, h, hp => by
    have e : Go.Proofs.YtfnnhekjeobicaaGreatDoor.addL M (p :: ps) = Go.Proofs.YtfnnhekjeobicaaGreatDoor.addL (if p ∈ M then M else M ++ [p]) ps := rfl
    rw [e]
    by_cases hin : p ∈ M
    · rw [if_pos hin]
      obtain ⟨i1, i2, i3⟩ := Mg.addL ps M h (fun q hq => hp q (by simp [hq]))
      refine ⟨i1, i2, fun ⟨q, hq, hn⟩ => ?_⟩
      rcases List.mem_cons.1 hq with rfl | hq
      · exact absurd hin hn
      · exact i3 ⟨q, hq, hn⟩
    · rw [if_neg hin]
      have hpp := hp p (by simp)
      obtain ⟨i1, i2, i3⟩ := Mg.addL ps (M ++ [p]) (h.add hpp.1 hin hpp.2) (fun q hq => hp q (by simp [hq]))
      simp only [List.length_append, List.length_cons, List.length_nil] at i2
      exact ⟨i1, by omega, fun _ => by omega⟩
/-- what Made leaves -/
structure MadeR (H : List Bs) (t : Bs) (M : List Bs) : Prop where
  mg : ∃ A, Mg H A M ∧ (∀ x ∈ H, x ∈ A) ∧ (Tm.deep t ≠ 0 → t ∈ A) ∧ (∀ x ∈ A, Tm.deep x ≠ 0) ∧ (∀ x ∈ A, ∀ y, Nx x y → y ∈ A) ∧ Done A M
  few : M.length ≤ 900000
/-- what Made has of a term is just what a mind that heard the same can make -/
theorem MadeR.mem {H M : List Bs} {t : Bs} (h : MadeR H t M) (ht : Tm.deep t ≠ 0) {U : List Bs} {w : World} {p : Nat} {o : Option Nat} {N : NM} {hd : List Bs} (hm : Mi U hd w p o N) (hH : ∀ x, x ∈ hd ↔ x ∈ H) : t ∈ M ↔ mkF N t = true := by
  obtain ⟨A, h1, h2, h3, h4, h5, h6⟩ := h.mg
  constructor
  · intro g
    exact (hm.knows t).2 ((h1.can t g).mono (fun x hx => (hH x).2 hx))
  · intro g
    exact hm.local (done_local h4 h5 h6) (fun x hx => ⟨h1.heard x ((hH x).1 hx), h2 x ((hH x).1 hx)⟩) (h3 ht) g
end Go.Proofs.YtfnnhekjeobicaaGreatDoor

/- ref03.Made. -/
namespace Go.Proofs.YtfnnhekjeobicaaGreatDoor
open Go.RowKit Go.Maps Go.WideElems

/-- all that stands within, gathered so far -/
structure Al (V : List Bs) (w : World) (P : Bs → Prop) (v : Value) (wr : World) : Prop where
  row : ∃ r, wr.ownsRow w.heap.size 29 1 v r.length (r.map St) ∧ Wr V [] P r
  gw : Below w.heap.size w wr
theorem Al.weak {V : List Bs} {w : World} {P Q : Bs → Prop} {v : Value} {wr : World} (h : Al V w P v wr) (hq : ∀ t, Q t → P t) : Al V w Q v wr := by
  obtain ⟨r, h1, h2⟩ := h.row
  exact ⟨⟨r, h1, h2.weak hq⟩, h.gw⟩
theorem Al.below {V : List Bs} {w : World} {P : Bs → Prop} {v : Value} {wr w' : World} (h : Al V w P v wr) (hb : Below wr.heap.size wr w') : Al V w P v w' := by
  obtain ⟨r, h1, h2⟩ := h.row
  exact ⟨⟨r, own_stays h1 (fun i e => hb.block i (own_ge h1 e).2), h2⟩, below_two h.gw (below_low hb h.gw.size)⟩
theorem Al.call {V : List Bs} (hV : ∀ x ∈ V, ∀ y, Nx x y → y ∈ V) (hVl : V.length ≤ 400000) {w : World} {P : Bs → Prop} {v : Value} {wr : World} (h : Al V w P v wr) {y : Bs} (hd : Tm.deep y ≠ 0) (hyV : y ∈ V) :
    Calls Tryz.prog 85 #[v, St y] wr fun e w' => ∃ v', e = .returned v' ∧ Al V w (fun x => x = y ∨ P x) v' w' := by
  obtain ⟨r, h1, h2⟩ := h.row
  refine (within_all y.length V hV (by omega) wr w.heap.size v r y (Nat.le_refl _) hd hyV h2.nodup (fun x hx => (h2.inn x hx).elim (fun a => by cases a) id) h1 h.gw.size).mono ?_
  rintro e w' ⟨v', q, rfl, hw, ho, hg⟩
  exact ⟨v', rfl, ⟨q, ho, h2.step hw⟩, below_two h.gw (hg.low (fun _ hk => (own_ge h1 hk).1) h.gw.size)⟩
theorem Nx.right {x y : Bs} (h : Nx x y) : Tm.deep x ≠ 0 := by
  cases h with
  | kid hk => intro e; unfold kidsR at hk; rw [if_pos e] at hk; cases hk
  | sec hs => exact (sec_yes hs).1
  | key hd _ _ _ => exact hd
/-- during the making: the row of all, apart, and the row of those made -/
structure Mw (H A : List Bs) (w w2 : World) (va : Value) (v : Value) (M : List Bs) (wr : World) : Prop where
  row : wr.ownsRow w2.heap.size 29 1 v M.length (M.map St)
  mg : Mg H A M
  bel : Below w2.heap.size w2 wr
theorem Mw.below {H A : List Bs} {w w2 : World} {va v : Value} {M : List Bs} {wr w' : World} (h : Mw H A w w2 va v M wr) (hb : Below wr.heap.size wr w') : Mw H A w w2 va v M w' :=
  ⟨own_stays h.row (fun i e => hb.block i (own_ge h.row e).2), h.mg, below_two h.bel (below_low hb h.bel.size)⟩
theorem Mw.gw {H A : List Bs} {w w2 : World} {va v v' : Value} {M M' : List Bs} {wr w' : World} (h : Mw H A w w2 va v M wr) (hg : Gw wr w' v v') (ho : w'.ownsRow w2.heap.size 29 1 v' M'.length (M'.map St)) (hm : Mg H A M') : Mw H A w w2 va v' M' w' :=
  ⟨ho, hm, below_two h.bel (hg.low (fun _ hk => (own_ge h.row hk).1) h.bel.size)⟩
set_option maxRecDepth 100000 in
set_option maxHeartbeats 16000000 in
theorem made_any (w : World) (ah : Option Addr) (ch : Nat) (H V : List Bs) (t : Bs) (hH : Texts w (.slice ah H.length ch) H) (hHl : H.length ≤ 1000) (hHr : ∀ x ∈ H, Tm.deep x ≠ 0) (hV : ∀ x ∈ V, ∀ y, Nx x y → y ∈ V) (hVl : V.length ≤ 400000) (hVr : ∀ x ∈ V, Tm.deep x ≠ 0) (hHV : ∀ x ∈ H, x ∈ V) (htV : Tm.deep t ≠ 0 → t ∈ V) :
    Calls Tryz.prog 66 #[.slice ah H.length ch, St t] w fun e w' => ∃ am km M, e = .returned (.slice am (List.length M) km) ∧ Texts w' (.slice am M.length km) M ∧ MadeR H t M ∧ Below w.heap.size w w' := by
  have HHC : Hid (∀ i (h : i < H.length), ∃ g o, ah = some ⟨g, o, none⟩ ∧ ∀ W, Below w.heap.size w W → W.cell? ⟨g, o + i, none⟩ = some (St H[i])) := hid (fun i h => by
    obtain ⟨ao', cap', he, ht⟩ := hH
    cases he
    obtain ⟨g, o, e, hg, hc⟩ := ht (fun e => by rw [e] at h; simp at h)
    exact ⟨g, o, e, fun W hb => by rw [← hc i h]; exact World.cell?_of_block (hb.block g hg)⟩)
  have HH := hid hH
  have HHR := hid hHr
  have HV := hid hV
  have HVL := hid hVl
  have HVR := hid hVr
  have HHV := hid hHV
  have HTV := hid htV
  have HRI := hid (fun W => rright_any t W)
  obtain ⟨q, hq⟩ : ∃ q, q = H.length := ⟨_, rfl⟩
  have HQ := hid hq
  rw [← hq] at hHl ⊢
  clear hH hHr hV hVl hVr hHV htV hq
  go_enter Tryz.func66, Tryz.ntmps66
  go_wp2_with fail
  go_loopg [5, 6] q (fun gg s5 s6 wr => ∃ (i : Nat) (v5 : Value), v5 = s5 ∧ i ≤ q ∧ gg = q - i ∧ s6 = .int .i64 (i : Int) ∧ Al V w (fun y => ∃ j, ∃ h : j < H.length, j < i ∧ H[j] = y) v5 wr)
  case atStart => exact ⟨0, _, rfl, by omega, by omega, rfl, ⟨[], World.ownsRow_nil _ _ _ _, (Wr.refl (by simp)).weak (fun y hy => by obtain ⟨j, _, h, _⟩ := hy; omega)⟩, Below.refl _ _⟩
  case round =>
    obtain ⟨i, v5, rfl, hi, rfl, rfl, hal⟩ := hrel
    have HAL := hid hal
    clear hal
    by_cases hil : i < q
    · have hi1 : (i : Int) < (q : Int) := by omega
      have hik : i < H.length := by rw [← HQ.out]; exact hil
      obtain ⟨g, o, hao, hce⟩ := HHC.out i hik
      subst hao
      have hc := hce wr HAL.out.gw
      have HCA := hid (HAL.out.call HV.out HVL.out (HHR.out H[i] (List.getElem_mem hik)) (HHV.out H[i] (List.getElem_mem hik)))
      have HST : Hid (∀ y, (∃ j, ∃ h : j < H.length, j < i + 1 ∧ H[j] = y) → (y = H[i] ∨ ∃ j, ∃ h : j < H.length, j < i ∧ H[j] = y)) := hid (fun y hy => by
        obtain ⟨j, h, hj, e⟩ := hy
        by_cases e2 : j = i
        · subst e2; exact Or.inl e.symm
        · exact Or.inr ⟨j, h, by omega, e⟩)
      clear hce
      generalize H[i] = y at hc HCA HST
      go_wp2_with (first | (go_at_call 85; refine HCA.out.mono ?_; rintro e w4 ⟨v', rfl, hal4⟩; have HA4 := hid (hal4.weak HST.out); clear hal4))
      go_roundg (q - (i + 1))
      case measure => omega
      case rel => exact ⟨i + 1, _, rfl, by omega, rfl, by go_num, HA4.out⟩
    · have hi1 : ¬ (i : Int) < (q : Int) := by omega
      have HA1 : Hid (Al V w (fun y => y ∈ H) v5 wr) := hid (HAL.out.weak (fun y hy => by
        obtain ⟨j, h, e⟩ := List.getElem_of_mem hy
        exact ⟨j, h, by have := HQ.out; omega, e⟩))
      clear HAL
      go_upto_if 23 with (first | (go_at_call 25; refine (HRI.out _).mono ?_; rintro e w4 ⟨rfl, hb4⟩; have HA4 := hid (HA1.out.below hb4); clear hb4))
      clear HA1 hi hil hi1
      go_cut [5] from 23 (fun s5 wc => ∃ v5, v5 = s5 ∧ Al V w (fun y => y ∈ H ∨ (y = t ∧ Tm.deep t ≠ 0)) v5 wc)
      case first =>
        by_cases hd : Tm.deep t = 0
        · have hd2 : (Tm.deep t != 0) = false := by simpa using hd
          rw [hd2]
          go_wp2_with fail
          go_meet
          case rel => exact ⟨_, rfl, HA4.out.weak (fun y hy => by
            rcases hy with h | h
            · exact h
            · exact absurd hd h.2)⟩
        · have hd2 : (Tm.deep t != 0) = true := by simpa using hd
          rw [hd2]
          have HCA := hid (HA4.out.call HV.out HVL.out hd (HTV.out hd))
          go_wp2_with (first | (go_at_call 85; refine HCA.out.mono ?_; rintro e w5 ⟨v', rfl, hal5⟩; have HA5 := hid hal5; clear hal5))
          go_meet
          case rel => exact ⟨_, rfl, HA5.out.weak (fun y hy => by
            rcases hy with h | h
            · exact Or.inr h
            · exact Or.inl h.1)⟩
      case rest =>
        clear HA4
        obtain ⟨v5, rfl, hal⟩ := hcut
        have HAL := hid hal
        clear hal
        obtain ⟨A, hrow, hwr⟩ := HAL.out.row
        have HRA := hid hrow
        have HBA := hid HAL.out.gw
        have HAH : Hid (∀ x ∈ H, x ∈ A) := hid (fun x hx => hwr.here x (Or.inl hx))
        have HAT : Hid (Tm.deep t ≠ 0 → t ∈ A) := hid (fun h => hwr.here t (Or.inr ⟨rfl, h⟩))
        have HAV : Hid (∀ x ∈ A, x ∈ V) := hid (fun x hx => (hwr.inn x hx).elim (fun a => by cases a) id)
        have HAN : Hid (∀ x ∈ A, ∀ y, Nx x y → y ∈ A) := hid (fun x hx y hy => hwr.new x hx (by simp) y hy)
        have HND := hid hwr.nodup
        have HALN : Hid (A.length ≤ 400000) := hid (Nat.le_trans (length_sub hwr.nodup HAV.out) HVL.out)
        clear hrow hwr HAL
        have HAR : Hid (∀ x ∈ A, Tm.deep x ≠ 0) := hid (fun x hx => HVR.out x (HAV.out x hx))
        obtain ⟨aa, ka, rfl⟩ := own_shape HRA.out
        obtain ⟨w2, rfl⟩ : ∃ w2, w2 = wc := ⟨_, rfl⟩
        obtain ⟨am0, km0, w5, hrun, hown5, hb5⟩ := append_all w2 (.slice ah H.length ch) H (texts_below HH.out HBA.out) (by have := HQ.out; omega)
        rw [← HQ.out] at hrun
        have HRUN := hid hrun
        have HM5 : Hid (Mw H A w w2 (.slice aa A.length ka) (.slice am0 H.length km0) H w5) := hid ⟨hown5, Mg.start H A, hb5⟩
        clear hrun hown5 hb5
        have HAC : Hid (∀ i (h : i < A.length), ∃ g, aa = some ⟨g, 0, none⟩ ∧ ∀ W, Below w2.heap.size w2 W → W.cell? ⟨g, i, none⟩ = some (St A[i])) := hid (fun i h => by
          obtain ⟨g, kc', hv, _, hg2, hcs⟩ := row_cells HRA.out (by omega)
          cases hv
          exact ⟨g, rfl, fun W hb => (hb.cell (p := ⟨g, i, none⟩) hg2).trans (hcs i h)⟩)
        obtain ⟨a, ha⟩ : ∃ a, a = A.length := ⟨_, rfl⟩
        have HAA := hid ha
        have hab : a ≤ 400000 := by rw [ha]; exact HALN.out
        rw [← ha]
        clear ha
        go_wp2_with (first | (at_builtin; refine wpList_append_run rfl (.tmp 27) (.tmp 28) 22 rfl (.slice none 0 0) (.slice ah q ch) (.slice am0 q km0) w5 rfl rfl HRUN.out ?_))
        go_loopg [7, 8, 9] (2 * a + 1) (fun gg s7 s8 _s9 wr => ∃ (mo : Bool) (am : Option Addr) (km : Nat) (M : List Bs), s7 = .slice am M.length km ∧ s8 = .bool mo ∧ gg = 2 * ((q + a) - M.length) + (if mo then 1 else 0) ∧ Mw H A w w2 (.slice aa A.length ka) (.slice am M.length km) M wr ∧ (mo = false → Done A M))
        case atStart => exact ⟨true, am0, km0, H, by rw [HQ.out], rfl, by have := HQ.out; simp; omega, HM5.out, fun h => (by cases h)⟩
        case round =>
          clear HM5
          obtain ⟨mo, am, km, M0, rfl, rfl, rfl, hmw, hdo⟩ := hrel
          have HMW := hid hmw
          have HDO := hid hdo
          clear hmw hdo
          have HLEN : Hid (∀ M, Mg H A M → M.length ≤ q + a) := hid (fun M h => by have := h.len; have := HQ.out; have := HAA.out; omega)
          cases mo
          · go_wp2_with fail
            go_ret
            exact ⟨am, km, M0, rfl, own_texts HMW.out.row, ⟨⟨A, HMW.out.mg, HAH.out, HAT.out, HAR.out, HAN.out, HDO.out (by trivial)⟩, by have := HLEN.out M0 HMW.out.mg; omega⟩, below_two HBA.out (below_low HMW.out.bel HBA.out.size)⟩
          · go_wp2_with fail
            go_loopg [7, 8, 9] a (fun gg s7 s8 s9 wr => ∃ (i : Nat) (mo : Bool) (am : Option Addr) (km : Nat) (M : List Bs), i ≤ a ∧ gg = a - i ∧ s7 = .slice am M.length km ∧ s8 = .bool mo ∧ s9 = .int .i64 (i : Int) ∧ M0.length ≤ M.length ∧ (mo = true → M0.length < M.length) ∧ (mo = false → M = M0 ∧ ∀ j (h : j < A.length), j < i → (A[j] ∈ M0 → ∀ p ∈ partsR M0 A[j], p ∈ M0) ∧ (A[j] ∉ M0 → makesR M0 A[j] = false)) ∧ Mw H A w w2 (.slice aa A.length ka) (.slice am M.length km) M wr)
            case atStart => exact ⟨0, false, am, km, M0, by omega, by omega, rfl, rfl, rfl, Nat.le_refl _, fun h => (by cases h), fun _ => ⟨rfl, fun j _ h => by omega⟩, HMW.out⟩
            case round =>
              clear HMW HDO
              obtain ⟨i, mo, am, km, M, hi, rfl, rfl, rfl, rfl, hle, hmt, hmf, hmw⟩ := hrel
              have HMW := hid hmw
              have HMT := hid hmt
              have HMF := hid hmf
              clear hmw hmt hmf
              have hMl : M.length ≤ 401000 := by have := HLEN.out M HMW.out.mg; omega
              by_cases hil : i < a
              · have hi1 : (i : Int) < (a : Int) := by omega
                have hik : i < A.length := by rw [← HAA.out]; exact hil
                obtain ⟨g, hao, hce⟩ := HAC.out i hik
                subst hao
                have HCE := hid hce
                have HXR := hid (HAR.out A[i] (List.getElem_mem hik))
                have HXA : Hid (A[i] ∈ A) := hid (List.getElem_mem hik)
                have HST : Hid (mo = false → ((A[i] ∈ M0 → ∀ p ∈ partsR M0 A[i], p ∈ M0) ∧ (A[i] ∉ M0 → makesR M0 A[i] = false)) → M = M0 ∧ ∀ j (h : j < A.length), j < i + 1 → (A[j] ∈ M0 → ∀ p ∈ partsR M0 A[j], p ∈ M0) ∧ (A[j] ∉ M0 → makesR M0 A[j] = false)) := hid (fun hm hx => ⟨(HMF.out hm).1, fun j hj hji => by
                  by_cases e : j = i
                  · subst e; exact hx
                  · exact (HMF.out hm).2 j hj (by omega)⟩)
                generalize A[i] = y at hce HCE HXR HXA HST
                have hc1 := hce wr HMW.out.bel
                clear hce
                have HHA := hid (has_any wr am km M y (own_texts HMW.out.row) (by omega))
                by_cases hin : y ∈ M
                · rw [decide_eq_true hin] at HHA
                  have HIN := hid hin
                  clear hin
                  have HOD := hid (opened_any wr am km M y (own_texts HMW.out.row) (by omega) HXR.out)
                  have HPA : Hid (∀ p ∈ partsR M y, p ∈ A ∧ Can (fun x => x ∈ H) p) := hid (fun p hp => ⟨HAN.out y HXA.out p (parts_nx hp), parts_can HMW.out.mg.can HIN.out HXR.out p hp⟩)
                  go_wp2_with (first | (go_at_call 65; refine HHA.out.mono ?_; rintro e w6 ⟨rfl, hw6⟩; obtain rfl := hw6.symm; clear hw6))
                  refine HOD.out.mono ?_
                  rintro e w7 ⟨n, rfl, hn, hb7⟩
                  have HM7 := hid (HMW.out.below hb7)
                  have HN := hid hn
                  have hc2 := HCE.out w7 HM7.out.bel
                  clear hb7 hn HOD hc1
                  by_cases hn0 : n = 0
                  · subst hn0
                    go_wp2_with fail
                    go_roundg (a - (i + 1))
                    case measure => omega
                    case rel => exact ⟨i + 1, mo, am, km, M, by omega, rfl, rfl, rfl, by go_num, hle, HMT.out, fun hm => HST.out hm (by
                      have e := (HMF.out hm).1
                      subst e
                      exact ⟨fun _ => HN.out.1 (by trivial), fun h => absurd HIN.out h⟩), HM7.out⟩
                  · have hn1 : (0 : Int) < (n : Int) := by omega
                    have HOE := hid (open_any3 w7 w2.heap.size (.slice am M.length km) M y HM7.out.row HM7.out.bel.size (by omega) HXR.out)
                    have HAD := hid (Mg.addL (partsR M y) M HMW.out.mg HPA.out)
                    have HEX : Hid (∃ p ∈ partsR M y, p ∉ M) := hid (Classical.byContradiction fun h => hn0 (HN.out.2 (fun p hp => Classical.byContradiction fun h2 => h ⟨p, hp, h2⟩)))
                    generalize addL M (partsR M y) = M2 at HOE HAD
                    go_wp2_with (first | (go_at_call 87; refine HOE.out.mono ?_; rintro e w8 ⟨v', rfl, hown8, hg8⟩; have HM8 := hid (HM7.out.gw hg8 hown8 HAD.out.1); clear hown8 hg8))
                    obtain ⟨am2, km2, hv2⟩ := own_shape HM8.out.row
                    subst hv2
                    go_roundg (a - (i + 1))
                    case measure => omega
                    case rel => exact ⟨i + 1, true, am2, km2, M2, by omega, rfl, rfl, rfl, by go_num, by have := HAD.out.2.1; omega, fun _ => by have := HAD.out.2.2 HEX.out; omega, fun h => (by cases h), HM8.out⟩
                · rw [decide_eq_false hin] at HHA
                  have HIN := hid hin
                  clear hin
                  have HMK := hid (dmakes_any wr am km M y (own_texts HMW.out.row) (by omega) HXR.out)
                  cases hmk : makesR M y
                  · rw [hmk] at HMK
                    have HMKF := hid hmk
                    clear hmk
                    go_wp2_with (first | (go_at_call 65; refine HHA.out.mono ?_; rintro e w6 ⟨rfl, hw6⟩; obtain rfl := hw6.symm; clear hw6) | (go_at_call 88; refine HMK.out.mono ?_; rintro e w7 ⟨rfl, hb7⟩; have HM7 := hid (HMW.out.below hb7); clear hb7))
                    go_roundg (a - (i + 1))
                    case measure => omega
                    case rel => exact ⟨i + 1, mo, am, km, M, by omega, rfl, rfl, rfl, by go_num, hle, HMT.out, fun hm => HST.out hm (by
                      have e := (HMF.out hm).1
                      subst e
                      exact ⟨fun h => absurd h HIN.out, fun _ => HMKF.out⟩), HM7.out⟩
                  · rw [hmk] at HMK
                    have HCN := hid (makes_can HMW.out.mg.can HXR.out hmk)
                    clear hmk
                    go_wp2_with (first | (go_at_call 65; refine HHA.out.mono ?_; rintro e w6 ⟨rfl, hw6⟩; obtain rfl := hw6.symm; clear hw6))
                    refine HMK.out.mono ?_
                    rintro e w7 ⟨rfl, hb7⟩
                    have HM7 := hid (HMW.out.below hb7)
                    have hc2 := HCE.out w7 HM7.out.bel
                    clear hb7 hc1
                    obtain ⟨am2, km2, w8, hrun, hown8, hg8⟩ := append_gw w7 w2.heap.size (.slice am M.length km) M y HM7.out.row (by omega) HM7.out.bel.size
                    have HRUN := hid hrun
                    have HM8 : Hid (Mw H A w w2 _ (.slice am2 (M.length + 1) km2) (M ++ [y]) w8) := hid (HM7.out.gw hg8 hown8 (HMW.out.mg.add HXA.out HIN.out HCN.out))
                    clear hrun hown8 hg8
                    go_wp2_with (first | (at_builtin; refine wpList_append_run rfl (.tmp 62) (.tmp 67) 22 rfl (.slice am M.length km) (.slice (some ⟨w7.heap.size, 0, none⟩) 1 1) (.slice am2 (M.length + 1) km2) w8 rfl rfl HRUN.out ?_))
                    go_roundg (a - (i + 1))
                    case measure => omega
                    case rel => exact ⟨i + 1, true, am2, km2, M ++ [y], by omega, rfl, by simp, rfl, by go_num, by simp; omega, fun _ => by simp; omega, fun h => (by cases h), by simpa using HM8.out⟩
              · have hi1 : ¬ (i : Int) < (a : Int) := by omega
                go_wp2_with fail
                go_roundg (2 * ((q + a) - M.length) + (if mo then 1 else 0))
                case measure =>
                  have := HLEN.out M HMW.out.mg
                  cases mo
                  · have := (HMF.out rfl).1
                    subst this
                    simp
                  · have := HMT.out rfl
                    simp
                    omega
                case rel => exact ⟨mo, am, km, M, rfl, rfl, rfl, HMW.out, fun hm => by
                  obtain ⟨rfl, hall⟩ := HMF.out hm
                  refine ⟨fun x hx hxM => ?_, fun x hx hxM => ?_⟩
                  · obtain ⟨j, hj, rfl⟩ := List.getElem_of_mem hx
                    exact (hall j hj (by have := HAA.out; omega)).1 hxM
                  · obtain ⟨j, hj, rfl⟩ := List.getElem_of_mem hx
                    exact (hall j hj (by have := HAA.out; omega)).2 hxM⟩
end Go.Proofs.YtfnnhekjeobicaaGreatDoor

/- ref03.Knows. -/
namespace Go.Proofs.YtfnnhekjeobicaaGreatDoor
open Go.RowKit Go.Maps Go.WideElems

/-- a universe for what was heard and one more -/
theorem uni_within {H : List Bs} (hH : ∀ x ∈ H, Tm.deep x ≠ 0) (hs : lens H ≤ 100000) (t : Bs) : ∃ V : List Bs, (∀ x ∈ V, ∀ y, Nx x y → y ∈ V) ∧ V.length ≤ 400000 ∧ (∀ x ∈ V, Tm.deep x ≠ 0) ∧ (∀ x ∈ H, x ∈ V) ∧ (Tm.deep t ≠ 0 → t ∈ V) := by
  by_cases hd : Tm.deep t = 0
  · obtain ⟨V, h1, h2, h3⟩ := withinV_of hH
    refine ⟨V.filter (fun x => Tm.deep x != 0), fun x hx y hy => ?_, ?_, fun x hx => ?_, fun x hx => ?_, fun h => absurd hd h⟩
    · rw [List.mem_filter] at hx ⊢
      exact ⟨h2 x hx.1 y hy, by simpa using hy.less.1⟩
    · refine Nat.le_trans (List.length_filter_le _ _) ?_
      unfold lens at hs
      omega
    · simpa using (List.mem_filter.1 hx).2
    · exact List.mem_filter.2 ⟨h1 x hx, by simpa using hH x hx⟩
  · obtain ⟨V, h1, h2, h3⟩ := withinV_of (L := t :: H) (fun x hx => by
      rcases List.mem_cons.1 hx with rfl | hx
      · exact hd
      · exact hH x hx)
    refine ⟨V.filter (fun x => Tm.deep x != 0), fun x hx y hy => ?_, ?_, fun x hx => ?_, fun x hx => ?_, fun _ => ?_⟩
    · rw [List.mem_filter] at hx ⊢
      exact ⟨h2 x hx.1 y hy, by simpa using hy.less.1⟩
    · refine Nat.le_trans (List.length_filter_le _ _) ?_
      have hl := (Tm.deep_is hd).2
      unfold lens at hs
      simp only [List.map_cons, List.sum_cons] at h3
      omega
    · simpa using (List.mem_filter.1 hx).2
    · exact List.mem_filter.2 ⟨h1 x (by simp [hx]), by simpa using hH x hx⟩
    · exact List.mem_filter.2 ⟨h1 t (by simp), by simpa using hd⟩
set_option maxRecDepth 100000 in
set_option maxHeartbeats 4000000 in
theorem dknows_any (w : World) (ah : Option Addr) (ch : Nat) (H : List Bs) (t : Bs) (hH : Texts w (.slice ah H.length ch) H) (hHl : H.length ≤ 1000) (hHr : ∀ x ∈ H, Tm.deep x ≠ 0) (hHs : lens H ≤ 100000) {U : List Bs} {w0 : World} {p : Nat} {o : Option Nat} {N : NM} {hd : List Bs} (hm : Mi U hd w0 p o N) (hq : ∀ x, x ∈ hd ↔ x ∈ H) :
    Calls Tryz.prog 46 #[.slice ah H.length ch, St t] w fun e w' => e = .returned (.bool (mkF N t)) ∧ Below w.heap.size w w' := by
  have HRI := hid (fun W => rright_any t W)
  by_cases ht : Tm.deep t = 0
  · have hmk : mkF N t = false := by
      cases h : mkF N t with
      | false => rfl
      | true => exact absurd ht (hm.mind.full.mk_right h)
    rw [hmk]
    rw [show (Tm.deep t != 0) = false by simpa using ht] at HRI
    clear hm hq hH hHl hHr hHs ht hmk
    go_enter Tryz.func46, Tryz.ntmps46
    go_wp2_with (first | (go_at_call 25; refine (HRI.out _).mono ?_; rintro e w1 ⟨rfl, hb1⟩; have HB1 := hid hb1; clear hb1))
    go_ret
    exact ⟨rfl, HB1.out⟩
  · obtain ⟨V, hV, hVl, hVr, hHV, htV⟩ := uni_within hHr hHs t
    have HMD := hid (fun W (hb : Below w.heap.size w W) => made_any W ah ch H V t (texts_below hH hb) hHl hHr hV hVl hVr hHV htV)
    have HME : Hid (∀ M, MadeR H t M → decide (t ∈ M) = mkF N t) := hid (fun M h => by
      rw [Bool.eq_iff_iff, decide_eq_true_iff]
      exact h.mem ht hm hq)
    rw [show (Tm.deep t != 0) = true by simpa using ht] at HRI
    clear hm hq hH hHr hHs ht hV hVl hVr hHV htV
    obtain ⟨q, hq⟩ : ∃ q, q = H.length := ⟨_, rfl⟩
    rw [← hq] at HMD ⊢
    clear hq hHl
    go_enter Tryz.func46, Tryz.ntmps46
    go_wp2_with (first | (go_at_call 25; refine (HRI.out _).mono ?_; rintro e w1 ⟨rfl, hb1⟩; have HB1 := hid hb1; clear hb1))
    refine (HMD.out _ HB1.out).mono ?_
    rintro e w2 ⟨am, km, M, rfl, htx, hmr, hb2⟩
    have HB2 := hid (two_below HB1.out hb2)
    have HHA := hid (has_any w2 am km M t htx (by have := hmr.few; omega))
    rw [HME.out M hmr] at HHA
    clear htx hmr hb2
    go_wp2_with (first | (go_at_call 65; refine HHA.out.mono ?_; rintro e w3 ⟨rfl, hw3⟩; obtain rfl := hw3.symm; clear hw3))
    go_ret
    exact ⟨rfl, HB2.out⟩
end Go.Proofs.YtfnnhekjeobicaaGreatDoor
