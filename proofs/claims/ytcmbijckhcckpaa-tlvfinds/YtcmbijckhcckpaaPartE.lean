/- slices.partitionEqualOrdered of numbers. -/
import Derived.Test.YtcmbijckhcckpaaPart
namespace Go.Proofs.Ytcmbijckhcckpaa
open Go.RowKit Go.Sort

theorem eloop_stop {d : Array Int} {a i j i2 j2 : Nat} (hi : i2 = scanUp (fun x => !ltInt d[a]! x) d j i) (hj : j2 = scanDown (fun x => ltInt d[a]! x) d i2 j) (h : i2 > j2) : partEqLoop ltInt a i j d = (i2, d) := by
  rw [partEqLoop_eq, ← hi, ← hj, if_pos h]
theorem eloop_go {d : Array Int} {a i j i2 j2 : Nat} (hi : i2 = scanUp (fun x => !ltInt d[a]! x) d j i) (hj : j2 = scanDown (fun x => ltInt d[a]! x) d i2 j) (h : ¬ i2 > j2) : partEqLoop ltInt a i j d = partEqLoop ltInt a (i2 + 1) (j2 - 1) (swp d i2 j2) := by
  rw [partEqLoop_eq, ← hi, ← hj, if_neg h]
set_option maxRecDepth 100000 in
set_option maxHeartbeats 8000000 in
theorem parteq_any (w : World) (g c a b pv : Nat) (d : Array Int) (hH : Holds (Value.int .u64) w g 0 d) (hab : a + 1 < b) (hp : a ≤ pv ∧ pv < b) (hb : b ≤ d.size) (hsz : d.size ≤ 100) :
    Calls Try.prog 49 #[.slice (some ⟨g, 0, none⟩) d.size c, .int .i64 (a : Int), .int .i64 (b : Int), .int .i64 (pv : Int)] w fun e w' =>
      e = .returned (.int .i64 ((Sort.partitionEqual ltInt d a b pv).1 : Int)) ∧ ∃ n, w' = putRow (Value.int .u64) (Sort.ahead w n) g 0 (Sort.partitionEqual ltInt d a b pv).2 := by
  have HH := hid hH
  obtain ⟨s, hs⟩ : ∃ s, s = d.size := ⟨_, rfl⟩
  obtain ⟨hc3, hf3⟩ := half_swap (w := w) (wr := w) (n := 0) (d := d) (dk := d) (a := a) (j := pv) hH rfl (putRow_self _ _ _ _ _ hH).symm (by omega) (by omega) rfl
  rw [← hs] at hb hsz
  rw [← hs]
  have HS := hid hs
  have hpv := hp.2
  obtain ⟨hc1, hf1⟩ := hH a (by omega)
  obtain ⟨hc2, hf2⟩ := hH pv (by omega)
  rw [Nat.zero_add] at hc1 hf1 hc2 hf2
  obtain ⟨x, hx⟩ : ∃ x, x = d[a]! := ⟨_, rfl⟩
  obtain ⟨y, hy⟩ : ∃ y, y = d[pv]! := ⟨_, rfl⟩
  rw [← hx] at hc1
  rw [← hy] at hc2 hc3 hf3
  have HSW : Hid (((w.setCell ⟨g, a, none⟩ (.int .u64 y)).setCell ⟨g, pv, none⟩ (.int .u64 x)).drew = putRow (Value.int .u64) (Sort.ahead w 1) g 0 (swp d a pv)) := hid (by
    have h := putRow_swp (Value.int .u64) w g 0 d a pv (by omega) (by omega)
    rw [putRow_self _ _ _ _ _ hH, ← hx, ← hy, Nat.zero_add, Nat.zero_add] at h
    rw [h]
    rfl)
  have HSD : Hid ((swp d a pv).size = s) := hid (by rw [size_swp, hs])
  clear hH hs hx hy hp
  obtain ⟨b1, rfl⟩ : ∃ k, b = k + 1 := ⟨b - 1, by omega⟩
  have hb1 : IntKind.i64.wrap (((b1 + 1 : Nat) : Int) - 1) = (b1 : Int) := by rw [IntKind.wrap_i64]; omega
  obtain ⟨rr, hrr⟩ : ∃ r, r = Sort.partitionEqual ltInt d a (b1 + 1) pv := ⟨_, rfl⟩
  rw [← hrr]
  unfold Sort.partitionEqual at hrr
  rw [Nat.add_sub_cancel] at hrr
  have HRR := hid hrr
  clear hrr
  go_enter Try.func49, Try.ntmps49
  go_wp2_with fail
  go_region
  all_goals go_upto_block 0 with fail
  generalize hw1 : World.drew _ = w1 at HSW
  generalize swp d a pv = d1 at HSW HSD HRR
  have HCE := hid (cells_any HH.out HS.out HSD.out)
  clear hw1 hc1 hc2 hc3 hf1 hf2 hf3 hb1
  go_wp2_with fail
  go_loopg [9, 10] (b1 - a) (fun gg v9 v10 wr => ∃ (ii jj n : Nat) (dk : Array Int), v9 = .int .i64 (ii : Int) ∧ v10 = .int .i64 (jj : Int) ∧ gg = jj + 1 - ii ∧ a + 1 ≤ ii ∧ ii ≤ b1 + 1 ∧ jj ≤ b1 ∧ dk.size = s ∧ wr = putRow (Value.int .u64) (Sort.ahead w n) g 0 dk ∧ partEqLoop ltInt a ii jj dk = rr)
  case atStart => exact ⟨a + 1, b1, 1, d1, by go_num, rfl, by omega, by omega, by omega, by omega, HSD.out, HSW.out, HRR.out.symm⟩
  case round =>
    clear HSW HSD HCE HRR
    obtain ⟨ii, jj, n, dk, rfl, rfl, rfl, hai, hib, hjb, hsk, hwr, hO⟩ := hrel
    have HO := hid hO
    have HW := hid hwr
    have HSK := hid hsk
    have HCK := hid (cells_any HH.out HS.out hsk)
    clear hO hwr hsk
    go_upto_block 2 with fail
    obtain ⟨i2, hi2⟩ : ∃ i, i = scanUp (fun x => !ltInt dk[a]! x) dk jj (ii) := ⟨_, rfl⟩
    have HIi2 := hid hi2
    clear hi2
    go_cut [9] from 29 to 45 (fun v9 wc => ∃ n, v9 = .int .i64 (i2 : Int) ∧ a + 1 ≤ i2 ∧ i2 ≤ b1 + 1 ∧ wc = putRow (Value.int .u64) (Sort.ahead w n) g 0 dk)
    case first =>
      go_wp2_with fail
      go_loopg [9] (jj + 1 - (ii)) (fun gg v9 wr => ∃ (i n : Nat), v9 = .int .i64 (i : Int) ∧ gg = jj + 1 - i ∧ a + 1 ≤ i ∧ i ≤ b1 + 1 ∧ wr = putRow (Value.int .u64) (Sort.ahead w n) g 0 dk ∧ i2 = scanUp (fun x => !ltInt dk[a]! x) dk jj i)
      case atStart => exact ⟨ii, n, rfl, rfl, by omega, by omega, HW.out, HIi2.out⟩
      case round =>
        obtain ⟨i, n, rfl, rfl, hai, hib, hwr, hI⟩ := hrel
        have HW := hid hwr
        have HI := hid hI
        obtain ⟨hc1, hf1⟩ := HCK.out wr n hwr a (by omega)
        clear hwr hI
        by_cases hij : i ≤ jj
        · have hij1 : (i : Int) ≤ (jj : Int) := by omega
          obtain ⟨hc2, hf2⟩ := HCK.out wr n HW.out i (by omega)
          have HLS := hid (fun W => less_int dk[a]! dk[i]! W)
          have HGO := hid (fun (h : ¬ dk[a]! < dk[i]!) => up_go (p := (fun x => !ltInt dk[a]! x)) (d := dk) hij (by show (!decide _) = true; rw [decide_eq_false h]; rfl))
          have HST := hid (fun (h : dk[a]! < dk[i]!) => up_stop (p := (fun x => !ltInt dk[a]! x)) (d := dk) (j := jj) (i := i) (Or.inr (by show (!decide _) = false; rw [decide_eq_true h]; rfl)))
          generalize dk[i]! = x at hc2 HLS HGO HST
          obtain ⟨y, hy⟩ : ∃ y, y = dk[a]! := ⟨_, rfl⟩
          rw [← hy] at hc1 HLS
          have HY := hid hy
          clear hy
          by_cases hxy : ¬ y < x
          · rw [decide_eq_false hxy] at HLS
            go_wp2_with fail
            go_quiet (first | (go_at_call 41; refine Calls.quiet_of_same (HLS.out _)))
            go_wp2_with fail
            go_roundg (jj + 1 - (i + 1))
            case measure => omega
            case rel => exact ⟨i + 1, n + nq, by go_num, rfl, by omega, by omega, by rw [HW.out]; exact putRow_drewN _ _ _ _ _ _ _, by rw [HI.out]; exact HGO.out (by rw [← HY.out]; exact hxy)⟩
          · replace hxy : y < x := Decidable.not_not.1 hxy
            rw [decide_eq_true hxy] at HLS
            go_wp2_with fail
            go_quiet (first | (go_at_call 41; refine Calls.quiet_of_same (HLS.out _)))
            go_wp2_with fail
            have HE := hid (HI.out.trans (HST.out (by rw [← HY.out]; exact hxy)))
            go_meet
            case rel => exact ⟨n + nq, by rw [HE.out], by rw [HE.out]; exact hai, by rw [HE.out]; exact hib, by rw [HW.out]; exact putRow_drewN _ _ _ _ _ _ _⟩
        · have hij1 : ¬ (i : Int) ≤ (jj : Int) := by omega
          go_wp2_with fail
          go_quiet (fail)
          go_wp2_with fail
          have HE := hid (HI.out.trans (up_stop (p := (fun x => !ltInt dk[a]! x)) (Or.inl hij)))
          go_meet
          case rel => exact ⟨n + nq, by rw [HE.out], by rw [HE.out]; exact hai, by rw [HE.out]; exact hib, by rw [HW.out]; exact putRow_drewN _ _ _ _ _ _ _⟩
    case rest =>
      obtain ⟨n3, rfl, hi3, hi4, hwc⟩ := hcut
      have HW3 := hid hwc
      clear hwc HW
      go_upto_block 4 with fail
      obtain ⟨j2, hj2⟩ : ∃ j, j = scanDown (fun x => ltInt dk[a]! x) dk i2 jj := ⟨_, rfl⟩
      have HJj2 := hid hj2
      clear hj2
      go_cut [10] from 46 to 61 (fun v10 wc => ∃ n, v10 = .int .i64 (j2 : Int) ∧ j2 ≤ jj ∧ wc = putRow (Value.int .u64) (Sort.ahead w n) g 0 dk)
      case first =>
        go_wp2_with fail
        go_loopg [10] jj (fun gg v10 wr => ∃ (j n : Nat), v10 = .int .i64 (j : Int) ∧ j = gg ∧ j ≤ jj ∧ wr = putRow (Value.int .u64) (Sort.ahead w n) g 0 dk ∧ j2 = scanDown (fun x => ltInt dk[a]! x) dk i2 j)
        case atStart => exact ⟨jj, n3, rfl, rfl, by omega, HW3.out, HJj2.out⟩
        case round =>
          obtain ⟨j, n, rfl, rfl, hjj, hwr, hI⟩ := hrel
          have HW := hid hwr
          have HI := hid hI
          obtain ⟨hc1, hf1⟩ := HCK.out wr n hwr a (by omega)
          clear hwr hI
          by_cases hij : i2 ≤ j
          · obtain ⟨t, rfl⟩ : ∃ t, j = t + 1 := ⟨j - 1, by omega⟩
            have hij1 : (i2 : Int) ≤ (t : Int) + 1 := by omega
            have hij2 : (i2 : Int) ≤ ((t + 1 : Nat) : Int) := by omega
            have hk1 : IntKind.i64.wrap (((t + 1 : Nat) : Int) - 1) = (t : Int) := by rw [IntKind.wrap_i64]; omega
            obtain ⟨hc2, hf2⟩ := HCK.out wr n HW.out (t + 1) (by omega)
            have HLS := hid (fun W => less_int dk[a]! dk[t + 1]! W)
            have HGO := hid (fun (h : dk[a]! < dk[t + 1]!) => down_go (p := (fun x => ltInt dk[a]! x)) (d := dk) hij (decide_eq_true h))
            have HST := hid (fun (h : ¬ dk[a]! < dk[t + 1]!) => down_stop (p := (fun x => ltInt dk[a]! x)) (d := dk) (i := i2) (j := t + 1) (Or.inr (decide_eq_false h)))
            generalize dk[t + 1]! = x at hc2 HLS HGO HST
            obtain ⟨y, hy⟩ : ∃ y, y = dk[a]! := ⟨_, rfl⟩
            rw [← hy] at hc1 HLS
            have HY := hid hy
            clear hy
            by_cases hxy : ¬ y < x
            · rw [decide_eq_false hxy] at HLS
              go_wp2_with fail
              go_quiet (first | (go_at_call 41; refine Calls.quiet_of_same (HLS.out _)))
              go_wp2_with fail
              have HE := hid (HI.out.trans (HST.out (by rw [← HY.out]; exact hxy)))
              go_meet
              case rel => exact ⟨n + nq, by rw [HE.out]; rfl, by rw [HE.out]; exact hjj, by rw [HW.out]; exact putRow_drewN _ _ _ _ _ _ _⟩
            · replace hxy : y < x := Decidable.not_not.1 hxy
              rw [decide_eq_true hxy] at HLS
              go_wp2_with fail
              go_quiet (first | (go_at_call 41; refine Calls.quiet_of_same (HLS.out _)))
              go_wp2_with fail
              go_roundg t
              case measure => omega
              case rel => exact ⟨t, n + nq, rfl, rfl, by omega, by rw [HW.out]; exact putRow_drewN _ _ _ _ _ _ _, by rw [HI.out]; exact HGO.out (by rw [← HY.out]; exact hxy)⟩
          · have hij1 : ¬ (i2 : Int) ≤ (j : Int) := by omega
            go_wp2_with fail
            go_quiet (fail)
            go_wp2_with fail
            have HE := hid (HI.out.trans (down_stop (p := (fun x => ltInt dk[a]! x)) (Or.inl hij)))
            go_meet
            case rel => exact ⟨n + nq, by rw [HE.out], by rw [HE.out]; exact hjj, by rw [HW.out]; exact putRow_drewN _ _ _ _ _ _ _⟩
      case rest =>
        obtain ⟨n4, rfl, hj3, hwc⟩ := hcut
        have HW4 := hid hwc
        clear hwc HW3
        by_cases hgt2 : i2 > j2
        · have hgt3 : (j2 : Int) < (i2 : Int) := by omega
          have HL := hid (HO.out.symm.trans (eloop_stop HIi2.out HJj2.out hgt2))
          go_wp2_with fail
          go_ret
          exact ⟨by rw [HL.out]; rfl, n4, by rw [HL.out]; exact HW4.out⟩
        · have hgt3 : ¬ (j2 : Int) < (i2 : Int) := by omega
          obtain ⟨t2, ht2⟩ : ∃ t, t = j2 - 1 := ⟨_, rfl⟩
          have hk2 : IntKind.i64.wrap ((j2 : Int) - 1) = (t2 : Int) := by rw [IntKind.wrap_i64]; omega
          have HL := hid (HO.out.symm.trans (eloop_go HIi2.out HJj2.out hgt2))
          rw [← ht2] at HL
          have HT2 := hid ht2
          clear ht2
          obtain ⟨hc1, hf1⟩ := HCK.out wc n4 HW4.out i2 (by omega)
          obtain ⟨hc2, hf2⟩ := HCK.out wc n4 HW4.out j2 (by omega)
          obtain ⟨hc3, hf3⟩ := half_swap HH.out (by rw [HSK.out]; exact HS.out) HW4.out (a := i2) (j := j2) (by rw [HSK.out]; omega) (by rw [HSK.out]; omega) rfl
          have HSW : Hid (((wc.setCell ⟨g, i2, none⟩ (.int .u64 dk[j2]!)).setCell ⟨g, j2, none⟩ (.int .u64 dk[i2]!)).drew = putRow (Value.int .u64) (Sort.ahead w (n4 + 1)) g 0 (swp dk i2 j2)) := hid (by
            have h := putRow_swp (Value.int .u64) (Sort.ahead w n4) g 0 dk i2 j2 (by rw [HSK.out]; omega) (by rw [HSK.out]; omega)
            rw [← HW4.out, Nat.zero_add, Nat.zero_add] at h
            rw [h, putRow_drew, ahead_drew])
          generalize dk[i2]! = x at hc1 HSW
          generalize dk[j2]! = y at hc2 hc3 hf3 HSW
          go_wp2_with fail
          go_region
          all_goals go_wp2_with fail
          go_roundg (t2 + 1 - (i2 + 1))
          case measure =>
            have h8 := HT2.out
            have h9 := scanUp_ge (fun x => !ltInt dk[a]! x) dk jj ii
            rw [← HIi2.out] at h9
            omega
          case rel => exact ⟨i2 + 1, t2, n4 + 1, swp dk i2 j2, by go_num, rfl, rfl, by omega, by omega, by have := HT2.out; omega, by rw [size_swp]; exact HSK.out, HSW.out, HL.out.symm⟩
end Go.Proofs.Ytcmbijckhcckpaa
