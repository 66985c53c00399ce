/- slices.pdqsortOrdered of numbers. -/
import Derived.Test.YtcmbijckhcckpaaBrkB
import Derived.Sort.LotB
import Derived.Sort.LotD1
import Derived.Sort.LotD3
namespace Go.Proofs.Ytcmbijckhcckpaa
open Go.RowKit Go.Sort

/-- what a call of the sort is to leave -/
def Srt (w : World) (g a b : Nat) (d : Array Int) (w' : World) : Prop := ∃ d', PermIn a b d d' ∧ SortedIn ltInt a b d' ∧ AtU w g d' w'
/-- whoever sorts [a', b') of dk has sorted [a, b) of d -/
def Ends (a b : Nat) (d : Array Int) (a' b' : Nat) (dk : Array Int) : Prop := ∀ R, PermIn a' b' dk R → SortedIn ltInt a' b' R → PermIn a b d R ∧ SortedIn ltInt a b R
theorem Ends.perm {a b a' b' : Nat} {d dk dn : Array Int} (h : Ends a b d a' b' dk) (hp : PermIn a' b' dk dn) : Ends a b d a' b' dn := fun R h1 h2 => h R (permIn_trans _ _ _ _ _ hp h1) h2
theorem Ends.srt {w w' : World} {g a b a' b' : Nat} {d dk R : Array Int} (h : Ends a b d a' b' dk) (hp : PermIn a' b' dk R) (hs : SortedIn ltInt a' b' R) (hA : AtU w g R w') : Srt w g a b d w' := ⟨R, (h R hp hs).1, (h R hp hs).2, hA⟩
theorem AtU.drewN {w wr : World} {g n : Nat} {d : Array Int} (h : AtU w g d wr) : AtU w g d (wr.drewN n) := ⟨h.holds, ⟨h.below.os, h.below.tape, h.below.output, h.below.size, h.below.block⟩⟩

set_option maxRecDepth 100000 in
set_option maxHeartbeats 16000000 in
theorem pdq_any : ∀ (N : Nat) (w : World) (g c a b limit : Nat) (d : Array Int), b - a < N → Holds (Value.int .u64) w g 0 d → g < w.heap.size → a ≤ b → b ≤ d.size → d.size ≤ 100 → limit ≤ 100 → Go.Sort.Below ltInt a b d →
    Calls Try.prog 39 #[.slice (some ⟨g, 0, none⟩) d.size c, .int .i64 (a : Int), .int .i64 (b : Int), .int .i64 (limit : Int)] w fun e w' => e = .returned (.tuple #[]) ∧ Srt w g a b d w' := by
  intro N
  induction N with
  | zero => intro _ _ _ _ _ _ _ h; exact absurd h (Nat.not_lt_zero _)
  | succ N ih =>
    intro w g c a b limit d hN hH hg hab hb hsz hlim hB
    have HIH := hid ih
    clear ih
    have HH := hid hH
    have HB := hid hB
    obtain ⟨s, hs⟩ : ∃ s, s = d.size := ⟨_, rfl⟩
    rw [← hs] at hb hsz
    rw [← hs]
    have HS := hid hs
    clear hH hB hs
    go_enter Try.func39, Try.ntmps39
    go_wp2_with fail
    go_loopg [1, 2, 3, 8, 9] (b - a) (fun k s1 s2 s3 s8 s9 wr => ∃ (a' b' lim : Nat) (wb wp : Bool) (dk : Array Int), s1 = .int .i64 (a' : Int) ∧ s2 = .int .i64 (b' : Int) ∧ s3 = .int .i64 (lim : Int) ∧ s8 = .bool wb ∧ s9 = .bool wp ∧ a' ≤ b' ∧ b' ≤ s ∧ b' - a' ≤ k ∧ k ≤ b - a ∧ lim ≤ 100 ∧ dk.size = s ∧ Go.Sort.Below ltInt a' b' dk ∧ AtU w g dk wr ∧ Ends a b d a' b' dk)
    case atStart => exact ⟨a, b, limit, true, true, d, rfl, rfl, rfl, rfl, rfl, hab, hb, Nat.le_refl _, Nat.le_refl _, hlim, HS.out.symm, HB.out, AtU.self HH.out, fun R h1 h2 => ⟨h1, h2⟩⟩
    case round =>
      clear HB HH hab hb hlim
      obtain ⟨a', b', lim, wb, wp, dk, rfl, rfl, rfl, rfl, rfl, hab', hb', hk, hkN, hlim, hds, hBel, hAt, hEnd⟩ := hrel
      have HDS := hid hds
      have HBL := hid hBel
      have HAT := hid hAt
      have HEN := hid hEnd
      clear hds hBel hAt hEnd
      by_cases h12 : b' - a' ≤ 12
      · have h12z : (b' : Int) - (a' : Int) ≤ 12 := by omega
        have HC := hid (ins_any wr g c a' b' dk HAT.out.holds hab' (by rw [HDS.out]; exact hb') (by rw [HDS.out]; exact hsz))
        rw [HDS.out] at HC
        have HI := hid (insertionSort_holds (lt := ltInt) swo_ltInt dk a' b' hab' (by rw [HDS.out]; exact hb'))
        go_wp2_with (go_at_call 43; refine HC.out.mono ?_; rintro e w1 ⟨rfl, n, hw1⟩; have HW1 := hid hw1; clear hw1)
        refine bodyPost_ret (results_none rfl _ _ _) rfl ?_
        exact ⟨rfl, HEN.out.srt HI.out.1 HI.out.2 (HAT.out.put HI.out.1.1 HW1.out)⟩
      · have h12z : ¬ ((b' : Int) - (a' : Int) ≤ 12) := by omega
        by_cases hl0 : lim = 0
        · subst hl0
          have HC := hid (heap_any wr g c a' b' dk HAT.out.holds (by omega) (by rw [HDS.out]; exact hb') (by rw [HDS.out]; exact hsz))
          rw [HDS.out] at HC
          have HI := hid (heapSort_holds (lt := ltInt) swo_ltInt dk a' b' hab' (by rw [HDS.out]; exact hb'))
          go_wp2_with (go_at_call 44; refine HC.out.mono ?_; rintro e w1 ⟨rfl, n, hw1⟩; have HW1 := hid hw1; clear hw1)
          refine bodyPost_ret (results_none rfl _ _ _) rfl ?_
          exact ⟨rfl, HEN.out.srt HI.out.1 HI.out.2 (HAT.out.put HI.out.1.1 HW1.out)⟩
        · have hl0z : ¬ ((lim : Int) = 0) := by omega
          go_upto_if 35 with fail
          go_cut [3] from 19 to 133 (fun v3 wc => ∃ (lim2 : Nat) (d1 : Array Int), v3 = .int .i64 (lim2 : Int) ∧ lim2 ≤ 100 ∧ PermIn a' b' dk d1 ∧ AtU w g d1 wc)
          case first =>
            cases wb
            · have HC := hid (brk_any wr g c a' b' dk HAT.out.holds (by have := HAT.out.size; omega) (by omega) (by rw [HDS.out]; exact hb') (by rw [HDS.out]; exact hsz))
              rw [HDS.out] at HC
              obtain ⟨l1, rfl⟩ : ∃ l1, lim = l1 + 1 := ⟨lim - 1, by omega⟩
              go_wp2_with (go_at_call 45; refine HC.out.mono ?_; rintro e w1 ⟨rfl, d1, hp1, hA1⟩)
              have HP1 := hid hp1
              have HA1 := hid hA1
              clear hp1 hA1
              go_meet
              case rel => exact ⟨l1, d1, by go_num, by omega, HP1.out, HAT.out.trans HA1.out HP1.out.1⟩
            · go_wp2_with fail
              go_meet
              case rel => exact ⟨lim, dk, rfl, hlim, permIn_refl _ _ _, HAT.out⟩
          case rest =>
            obtain ⟨lim2, d1, rfl, hlim2, hp1, hA1⟩ := hcut
            have HP1 := hid hp1
            have HA1 := hid hA1
            clear hp1 hA1
            have HD1 : Hid (d1.size = s) := hid (by rw [HP1.out.1]; exact HDS.out)
            have HC := hid (piv_any wc g c a' b' d1 HA1.out.holds (by have := HA1.out.size; omega) (by omega) (by rw [HD1.out]; exact hb') (by rw [HD1.out]; exact hsz))
            rw [HD1.out] at HC
            have hpv := choosePivot_holds ltInt d1 a' b' (by omega)
            generalize Sort.choosePivot ltInt d1 a' b' = pc at HC hpv
            obtain ⟨pv, ht⟩ := pc
            simp only [] at HC hpv
            generalize hintN ht = hh at HC
            clear ht
            go_upto_if 50 with (go_at_call 46; refine HC.out.mono ?_; rintro e w2 ⟨rfl, hb2⟩; have HB2 := hid hb2; clear hb2)
            have HA2 := hid (HA1.out.other hg HB2.out)
            clear HC HB2 HA1
            go_cut [11, 12] from 19 to 133 (fun v11 v12 wc => ∃ (pv : Nat) (hh : Int) (d2 : Array Int), v11 = .int .i64 (pv : Int) ∧ v12 = .int .i64 hh ∧ a' ≤ pv ∧ pv < b' ∧ PermIn a' b' dk d2 ∧ AtU w g d2 wc)
            case first =>
              by_cases hh2 : hh = 2
              · subst hh2
                have HC := hid (rev_any w2 g c a' b' d1 HA2.out.holds (by omega) (by rw [HD1.out]; exact hb') (by rw [HD1.out]; exact hsz))
                rw [HD1.out] at HC
                have HR := hid (reverseRange_holds d1 a' b' (by omega) (by rw [HD1.out]; exact hb'))
                obtain ⟨pw, hpw⟩ : ∃ pw, pw = (b' - 1) - (pv - a') := ⟨_, rfl⟩
                have hpw1 : (b' : Int) - 1 - ((pv : Int) - (a' : Int)) = (pw : Int) := by omega
                have hpw2 : a' ≤ pw ∧ pw < b' := by omega
                clear hpw
                go_wp2_with (go_at_call 47; refine HC.out.mono ?_; rintro e w3 ⟨rfl, n, hw3⟩; have HW3 := hid hw3; clear hw3)
                go_meet
                case rel => exact ⟨pw, 1, Sort.reverseRange d1 a' b', by first | rfl | (rw [hpw1]), rfl, hpw2.1, hpw2.2, permIn_trans _ _ _ _ _ HP1.out HR.out, HA2.out.put HR.out.1 HW3.out⟩
              · go_wp2_with fail
                go_meet
                case rel => exact ⟨pv, hh, d1, rfl, rfl, hpv.1, hpv.2, HP1.out, HA2.out⟩
            case rest =>
              clear HP1 HD1 HA2 hpv hh pv d1
              obtain ⟨pv, hh, d2, rfl, rfl, hpv1, hpv2, hp2, hA2⟩ := hcut
              have HP2 := hid hp2
              have HA2 := hid hA2
              clear hp2 hA2
              go_upto_region 15 with fail
              go_cut [68] from 19 to 133 (fun v68 wx => ∃ bb : Bool, v68 = .bool bb ∧ AtU w g d2 wx)
              case first =>
                by_cases hh1 : hh = 1
                · subst hh1
                  cases wb <;> cases wp
                  all_goals go_wp2_with fail
                  all_goals go_meet
                  all_goals exact ⟨_, rfl, HA2.out⟩
                · have hh3 : (hh == 1) = false := by simpa using hh1
                  cases wb <;> cases wp
                  all_goals go_wp2_with fail
                  all_goals go_meet
                  all_goals exact ⟨_, rfl, HA2.out⟩
              case rest =>
                clear HA2
                obtain ⟨bb, rfl, hA2⟩ := hcut
                have HA2 := hid hA2
                have HD2 : Hid (d2.size = s) := hid (by rw [HP2.out.1]; exact HDS.out)
                have HB2 : Hid (Go.Sort.Below ltInt a' b' d2) := hid (HBL.out.perm (by rw [HDS.out]; exact hb') HP2.out)
                clear hA2
                go_upto_if 68 with fail
                go_cut [] from 19 to 133 (fun wx => ∃ d3 : Array Int, PermIn a' b' dk d3 ∧ AtU w g d3 wx)
                case first =>
                  cases bb
                  · go_wp2_with fail
                    go_meet
                    case rel => exact ⟨d2, HP2.out, HA2.out⟩
                  · have HC := hid (pis_any wc g c a' b' d2 HA2.out.holds (by omega) (by rw [HD2.out]; exact hb') (by rw [HD2.out]; exact hsz))
                    rw [HD2.out] at HC
                    have HR := hid (partialInsertionSort_holds (lt := ltInt) swo_ltInt d2 a' b' (by omega) (by rw [HD2.out]; exact hb') HB2.out)
                    generalize Sort.partialInsertionSort ltInt d2 a' b' = pr at HC HR
                    obtain ⟨d3, yes⟩ := pr
                    simp only [] at HC HR
                    cases yes
                    · go_wp2_with (go_at_call 48; refine HC.out.mono ?_; rintro e w3 ⟨rfl, n, hw3⟩; have HW3 := hid hw3; clear hw3)
                      go_meet
                      case rel => exact ⟨d3, permIn_trans _ _ _ _ _ HP2.out HR.out.1, HA2.out.put HR.out.1.1 HW3.out⟩
                    · go_wp2_with (go_at_call 48; refine HC.out.mono ?_; rintro e w3 ⟨rfl, n, hw3⟩; have HW3 := hid hw3; clear hw3)
                      refine bodyPost_ret (results_none rfl _ _ _) rfl ?_
                      exact ⟨rfl, HEN.out.srt (permIn_trans _ _ _ _ _ HP2.out HR.out.1) (HR.out.2 (by trivial)) (HA2.out.put HR.out.1.1 HW3.out)⟩
                case rest =>
                  clear HP2 HD2 HB2 HA2 bb d2
                  obtain ⟨d3, hp3, hA3⟩ := hcut
                  have HP3 := hid hp3
                  have HA3 := hid hA3
                  have HD3 : Hid (d3.size = s) := hid (by rw [hp3.1]; exact HDS.out)
                  have HB3 : Hid (Go.Sort.Below ltInt a' b' d3) := hid (HBL.out.perm (by rw [HDS.out]; exact hb') hp3)
                  have HE3 := hid (HEN.out.perm hp3)
                  clear hp3 hA3 HEN HBL
                  go_upto_region 17 with fail
                  go_cut [87] from 19 to 133 (fun v87 wx => ∃ bb : Bool, v87 = .bool bb ∧ (bb = true → 0 < a' ∧ ltInt d3[a' - 1]! d3[pv]! = false) ∧ AtU w g d3 wx)
                  case first =>
                    by_cases ha0 : a' = 0
                    · subst ha0
                      go_quiet (fail)
                      go_wp2_with fail
                      go_meet
                      case rel => exact ⟨_, rfl, fun h => (by cases h), HA3.out.drewN⟩
                    · obtain ⟨t, rfl⟩ : ∃ t, a' = t + 1 := ⟨a' - 1, by omega⟩
                      have ha1 : (0 : Int) < (t : Int) + 1 := by omega
                      have hk1 : IntKind.i64.wrap (((t + 1 : Nat) : Int) - 1) = (t : Int) := by rw [IntKind.wrap_i64]; omega
                      obtain ⟨hc1, hf1⟩ := HA3.out.holds t (by rw [HD3.out]; omega)
                      obtain ⟨hc2, hf2⟩ := HA3.out.holds pv (by rw [HD3.out]; omega)
                      rw [Nat.zero_add] at hc1 hf1 hc2 hf2
                      have HLS := hid (fun W => less_int d3[t]! d3[pv]! W)
                      have HNL := hid (fun (h : ¬ d3[t]! < d3[pv]!) => (decide_eq_false h : ltInt d3[t]! d3[pv]! = false))
                      generalize hx : d3[t]! = x at hc1 HLS
                      generalize hy : d3[pv]! = y at hc2 HLS
                      have HX := hid hx
                      have HY := hid hy
                      clear hx hy
                      by_cases hxy : x < y
                      · rw [decide_eq_true hxy] at HLS
                        go_quiet (first | (go_at_call 41; refine Calls.quiet_of_same (HLS.out _)))
                        go_wp2_with fail
                        go_meet
                        case rel => exact ⟨_, rfl, fun h => (by cases h), HA3.out.drewN⟩
                      · rw [decide_eq_false hxy] at HLS
                        go_quiet (first | (go_at_call 41; refine Calls.quiet_of_same (HLS.out _)))
                        go_wp2_with fail
                        go_meet
                        case rel => exact ⟨_, rfl, fun _ => ⟨by omega, HNL.out (by rw [HX.out, HY.out]; exact hxy)⟩, HA3.out.drewN⟩
                  case rest =>
                    clear HA3
                    obtain ⟨bb, rfl, hbb, hA3⟩ := hcut
                    have HA3 := hid hA3
                    have HBB := hid hbb
                    clear hA3 hbb
                    cases bb
                    · have HC := hid (part_any wc g c a' b' pv d3 HA3.out.holds (by omega) ⟨hpv1, hpv2⟩ (by rw [HD3.out]; exact hb') (by rw [HD3.out]; exact hsz))
                      rw [HD3.out] at HC
                      have HR : Hid (∀ mid ap d4, Sort.partition ltInt d3 a' b' pv = (mid, ap, d4) → _) := hid (fun mid ap d4 hx => round_part (lt := ltInt) swo_ltInt (partition_holds ltInt) (mid := mid) (ap := ap) (d4 := d4) hpv1 hpv2 (by rw [HD3.out]; exact hb') HB3.out hx)
                      generalize Sort.partition ltInt d3 a' b' pv = pr at HC HR
                      obtain ⟨mid, ap, d4⟩ := pr
                      simp only [] at HC
                      obtain ⟨hm1, hm2, hs4, hB4, hB5, hL, hRt⟩ := HR.out mid ap d4 rfl
                      have HS4 : Hid (d4.size = s) := hid (hs4.trans HD3.out)
                      have HS43 := hid hs4
                      have HB4 := hid hB4
                      have HB5 := hid hB5
                      have HL := hid hL
                      have HRT := hid hRt
                      clear HR hs4 hB4 hB5 hL hRt HBB
                      by_cases hlr : mid - a' < b' - mid
                      · have hlr1 : (mid : Int) - (a' : Int) < (b' : Int) - (mid : Int) := by omega
                        have HC2 : Hid (∀ W, AtU w g d4 W → Calls Try.prog 39 #[.slice (some ⟨g, 0, none⟩) s c, .int .i64 (a' : Int), .int .i64 (mid : Int), .int .i64 (lim2 : Int)] W fun e w' => e = .returned (.tuple #[]) ∧ Srt W g a' mid d4 w') := hid (fun W hW => by
                          have h := HIH.out W g c a' mid lim2 d4 (by omega) hW.holds (by have := hW.size; omega) hm1 (by rw [HS4.out]; omega) (by rw [HS4.out]; exact hsz) hlim2 HB4.out
                          rw [HS4.out] at h
                          exact h)
                        go_wp2_with (first | (go_at_call 50; refine HC.out.mono ?_; rintro e w4 ⟨rfl, n, hw4⟩; have HW4 := hid (HA3.out.put HS43.out hw4); clear hw4) | (go_at_call 39; refine (HC2.out _ HW4.out).mono ?_; rintro e w5 ⟨rfl, h5⟩; have HW5 := hid h5; clear h5))
                        obtain ⟨d5, hp5, hs5, hA5⟩ := HW5.out
                        have HA5 := hid (HW4.out.trans hA5 hp5.1)
                        have HX := hid (HL.out d5 hp5 hs5)
                        have HS5 : Hid (d5.size = s) := hid (hp5.1.trans HS4.out)
                        clear hp5 hs5 hA5
                        go_roundg (b' - (mid + 1))
                        case measure => omega
                        case rel => exact ⟨mid + 1, b', lim2, _, _, d5, by go_num, rfl, rfl, rfl, rfl, by omega, hb', by omega, by omega, hlim2, HS5.out, HX.out.1, HA5.out, fun R h1 h2 => HE3.out R (HX.out.2 R h1 h2).1 (HX.out.2 R h1 h2).2⟩
                      · have hlr1 : ¬ (mid : Int) - (a' : Int) < (b' : Int) - (mid : Int) := by omega
                        have HC2 : Hid (∀ W, AtU w g d4 W → Calls Try.prog 39 #[.slice (some ⟨g, 0, none⟩) s c, .int .i64 ((mid : Int) + 1), .int .i64 (b' : Int), .int .i64 (lim2 : Int)] W fun e w' => e = .returned (.tuple #[]) ∧ Srt W g (mid + 1) b' d4 w') := hid (fun W hW => by
                          have h := HIH.out W g c (mid + 1) b' lim2 d4 (by omega) hW.holds (by have := hW.size; omega) (by omega) (by rw [HS4.out]; omega) (by rw [HS4.out]; exact hsz) hlim2 HB5.out
                          rw [HS4.out] at h
                          exact h)
                        go_wp2_with (first | (go_at_call 50; refine HC.out.mono ?_; rintro e w4 ⟨rfl, n, hw4⟩; have HW4 := hid (HA3.out.put HS43.out hw4); clear hw4) | (go_at_call 39; refine (HC2.out _ HW4.out).mono ?_; rintro e w5 ⟨rfl, h5⟩; have HW5 := hid h5; clear h5))
                        obtain ⟨d5, hp5, hs5, hA5⟩ := HW5.out
                        have HA5 := hid (HW4.out.trans hA5 hp5.1)
                        have HX := hid (HRT.out d5 hp5 hs5)
                        have HS5 : Hid (d5.size = s) := hid (hp5.1.trans HS4.out)
                        clear hp5 hs5 hA5
                        go_roundg (mid - a')
                        case measure => omega
                        case rel => exact ⟨a', mid, lim2, _, _, d5, rfl, rfl, rfl, rfl, rfl, by omega, by omega, by omega, by omega, hlim2, HS5.out, HX.out.1, HA5.out, fun R h1 h2 => HE3.out R (HX.out.2 R h1 h2).1 (HX.out.2 R h1 h2).2⟩
                    · have HC := hid (parteq_any wc g c a' b' pv d3 HA3.out.holds (by omega) ⟨hpv1, hpv2⟩ (by rw [HD3.out]; exact hb') (by rw [HD3.out]; exact hsz))
                      rw [HD3.out] at HC
                      have HR : Hid (∀ mid d4, Sort.partitionEqual ltInt d3 a' b' pv = (mid, d4) → _) := hid (fun mid d4 hx => round_eq (lt := ltInt) swo_ltInt (partitionEqual_holds ltInt) (mid := mid) (d4 := d4) (HBB.out rfl).1 hpv1 hpv2 (by rw [HD3.out]; exact hb') HB3.out (HBB.out rfl).2 hx)
                      generalize Sort.partitionEqual ltInt d3 a' b' pv = pr at HC HR
                      obtain ⟨mid, d4⟩ := pr
                      simp only [] at HC
                      obtain ⟨hm1, hm2, hs4, hB4, hL⟩ := HR.out mid d4 rfl
                      have HS4 : Hid (d4.size = s) := hid (hs4.trans HD3.out)
                      have HS43 := hid hs4
                      have HB4 := hid hB4
                      have HL := hid hL
                      clear HR hs4 hB4 hL HBB
                      go_wp2_with (first | (go_at_call 49; refine HC.out.mono ?_; rintro e w4 ⟨rfl, n, hw4⟩; have HW4 := hid (HA3.out.put HS43.out hw4); clear hw4))
                      go_roundg (b' - mid)
                      case measure => omega
                      case rel => exact ⟨mid, b', lim2, wb, wp, d4, rfl, rfl, rfl, rfl, rfl, hm2, hb', by omega, by omega, hlim2, HS4.out, HB4.out, HW4.out, fun R h1 h2 => HE3.out R (HL.out R h1 h2).1 (HL.out R h1 h2).2⟩
end Go.Proofs.Ytcmbijckhcckpaa
