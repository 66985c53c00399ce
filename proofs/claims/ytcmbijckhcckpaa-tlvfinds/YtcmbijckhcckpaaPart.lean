/- slices.partitionOrdered of numbers. -/
import Derived.Test.YtcmbijckhcckpaaHeap
import Derived.Deep.CutBlock
import Derived.Sort.LotC
namespace Go.Proofs.Ytcmbijckhcckpaa
open Go.RowKit Go.Sort

theorem up_go {p : Int → Bool} {d : Array Int} {j i : Nat} (h : i ≤ j) (hp : p d[i]! = true) : scanUp p d j i = scanUp p d j (i + 1) := by rw [scanUp, if_pos (by rw [decide_eq_true h, hp]; rfl)]
theorem up_stop {p : Int → Bool} {d : Array Int} {j i : Nat} (h : ¬ i ≤ j ∨ p d[i]! = false) : scanUp p d j i = i := by
  rw [scanUp, if_neg]
  rcases h with h | h
  · rw [decide_eq_false h, Bool.false_and]; decide
  · rw [h, Bool.and_false]; decide
theorem down_go {p : Int → Bool} {d : Array Int} {i j : Nat} (h : i ≤ j + 1) (hp : p d[j + 1]! = true) : scanDown p d i (j + 1) = scanDown p d i j := by rw [scanDown, if_pos (by rw [decide_eq_true h, hp]; rfl)]
theorem down_stop {p : Int → Bool} {d : Array Int} {i j : Nat} (h : ¬ i ≤ j ∨ p d[j]! = false) : scanDown p d i j = j := by
  cases j with
  | zero => rfl
  | succ j =>
    rw [scanDown, if_neg]
    rcases h with h | h
    · rw [decide_eq_false h, Bool.false_and]; decide
    · rw [h, Bool.and_false]; decide
theorem part_true {d d1 : Array Int} {a b1 pv i j : Nat} (h1 : swp d a pv = d1) (hi : i = scanUp (fun x => ltInt x d1[a]!) d1 b1 (a + 1)) (hj : j = scanDown (fun x => !ltInt x d1[a]!) d1 i b1) (h : i > j) : Sort.partition ltInt d a (b1 + 1) pv = (j, true, swp d1 j a) := by
  unfold Sort.partition
  simp only [Nat.add_sub_cancel, h1, ← hi, ← hj, if_pos h]
theorem part_false {d d1 : Array Int} {a b1 pv i j : Nat} (h1 : swp d a pv = d1) (hi : i = scanUp (fun x => ltInt x d1[a]!) d1 b1 (a + 1)) (hj : j = scanDown (fun x => !ltInt x d1[a]!) d1 i b1) (h : ¬ i > j) {r : Nat × Array Int} (hr : partLoop ltInt a (i + 1) (j - 1) (swp d1 i j) = r) : Sort.partition ltInt d a (b1 + 1) pv = (r.1, false, swp r.2 r.1 a) := by
  unfold Sort.partition
  simp only [Nat.add_sub_cancel, h1, ← hi, ← hj, if_neg h, hr]
theorem ploop_stop {d : Array Int} {a i j i2 j2 : Nat} (hi : i2 = scanUp (fun x => ltInt x d[a]!) d j i) (hj : j2 = scanDown (fun x => !ltInt x d[a]!) d i2 j) (h : i2 > j2) : partLoop ltInt a i j d = (j2, d) := by
  rw [partLoop_eq, ← hi, ← hj, if_pos h]
theorem ploop_go {d : Array Int} {a i j i2 j2 : Nat} (hi : i2 = scanUp (fun x => ltInt x d[a]!) d j i) (hj : j2 = scanDown (fun x => !ltInt x d[a]!) d i2 j) (h : ¬ i2 > j2) : partLoop ltInt a i j d = partLoop ltInt a (i2 + 1) (j2 - 1) (swp d i2 j2) := by
  rw [partLoop_eq, ← hi, ← hj, if_neg h]
theorem cells_any {w : World} {g s : Nat} {d dk : Array Int} (hH : Holds (Value.int .u64) w g 0 d) (hs : s = d.size) (hk : dk.size = s) : ∀ W n, W = putRow (Value.int .u64) (Sort.ahead w n) g 0 dk → ∀ t, t < s → W.cell? ⟨g, t, none⟩ = some (.int .u64 dk[t]!) ∧ W.frozen? ⟨g, t, none⟩ = false := by
  intro W n hW t ht
  rw [hW]
  have := holds_putRow (Value.int .u64) (Sort.ahead w n) g 0 d dk (holds_ahead _ _ _ _ _ _ hH) (by rw [hk, hs]) t (by omega)
  simpa using this
set_option maxRecDepth 100000 in
set_option maxHeartbeats 8000000 in
theorem part_any (w : World) (g c a b pv : Nat) (d : Array Int) (hH : Holds (Value.int .u64) w g 0 d) (hab : a + 1 < b) (hp : a ≤ pv ∧ pv < b) (hb : b ≤ d.size) (hsz : d.size ≤ 100) :
    Calls Try.prog 50 #[.slice (some ⟨g, 0, none⟩) d.size c, .int .i64 (a : Int), .int .i64 (b : Int), .int .i64 (pv : Int)] w fun e w' =>
      e = .returned (.tuple #[.int .i64 ((Sort.partition ltInt d a b pv).1 : Int), .bool (Sort.partition ltInt d a b pv).2.1]) ∧ ∃ n, w' = putRow (Value.int .u64) (Sort.ahead w n) g 0 (Sort.partition ltInt d a b pv).2.2 := by
  have HH := hid hH
  obtain ⟨s, hs⟩ : ∃ s, s = d.size := ⟨_, rfl⟩
  obtain ⟨hc3, hf3⟩ := half_swap (w := w) (wr := w) (n := 0) (d := d) (dk := d) (a := a) (j := pv) hH rfl (putRow_self _ _ _ _ _ hH).symm (by omega) (by omega) rfl
  rw [← hs] at hb hsz
  rw [← hs]
  have HS := hid hs
  have hpv := hp.2
  obtain ⟨hc1, hf1⟩ := hH a (by omega)
  obtain ⟨hc2, hf2⟩ := hH pv (by omega)
  rw [Nat.zero_add] at hc1 hf1 hc2 hf2
  obtain ⟨x, hx⟩ : ∃ x, x = d[a]! := ⟨_, rfl⟩
  obtain ⟨y, hy⟩ : ∃ y, y = d[pv]! := ⟨_, rfl⟩
  rw [← hx] at hc1
  rw [← hy] at hc2 hc3 hf3
  have HSW : Hid (((w.setCell ⟨g, a, none⟩ (.int .u64 y)).setCell ⟨g, pv, none⟩ (.int .u64 x)).drew = putRow (Value.int .u64) (Sort.ahead w 1) g 0 (swp d a pv)) := hid (by
    have h := putRow_swp (Value.int .u64) w g 0 d a pv (by omega) (by omega)
    rw [putRow_self _ _ _ _ _ hH, ← hx, ← hy, Nat.zero_add, Nat.zero_add] at h
    rw [h]
    rfl)
  have HSD : Hid ((swp d a pv).size = s) := hid (by rw [size_swp, hs])
  clear hH hs hx hy hp
  obtain ⟨b1, rfl⟩ : ∃ k, b = k + 1 := ⟨b - 1, by omega⟩
  have hb1 : IntKind.i64.wrap (((b1 + 1 : Nat) : Int) - 1) = (b1 : Int) := by rw [IntKind.wrap_i64]; omega
  obtain ⟨rr, hrr⟩ : ∃ r, r = Sort.partition ltInt d a (b1 + 1) pv := ⟨_, rfl⟩
  rw [← hrr]
  have HRR := hid hrr
  clear hrr
  go_enter Try.func50, Try.ntmps50
  go_wp2_with fail
  go_region
  all_goals go_upto_block 0 with fail
  generalize hw1 : World.drew _ = w1 at HSW
  generalize hd1 : swp d a pv = d1 at HSW HSD
  have HD1 := hid hd1
  have HCE := hid (cells_any HH.out HS.out HSD.out)
  clear hw1 hd1 hc1 hc2 hc3 hf1 hf2 hf3 hb1
  obtain ⟨i1, hi1⟩ : ∃ i, i = scanUp (fun x => ltInt x d1[a]!) d1 b1 (a + 1) := ⟨_, rfl⟩
  have HIi1 := hid hi1
  clear hi1
  go_cut [10] from 30 to 45 (fun v10 wc => ∃ n, v10 = .int .i64 (i1 : Int) ∧ a + 1 ≤ i1 ∧ i1 ≤ b1 + 1 ∧ wc = putRow (Value.int .u64) (Sort.ahead w n) g 0 d1)
  case first =>
    go_wp2_with fail
    go_loopg [10] (b1 + 1 - (a + 1)) (fun gg v10 wr => ∃ (i n : Nat), v10 = .int .i64 (i : Int) ∧ gg = b1 + 1 - i ∧ a + 1 ≤ i ∧ i ≤ b1 + 1 ∧ wr = putRow (Value.int .u64) (Sort.ahead w n) g 0 d1 ∧ i1 = scanUp (fun x => ltInt x d1[a]!) d1 b1 i)
    case atStart => exact ⟨a + 1, 1, by go_num, by omega, by omega, by omega, HSW.out, HIi1.out⟩
    case round =>
      obtain ⟨i, n, rfl, rfl, hai, hib, hwr, hI⟩ := hrel
      have HW := hid hwr
      have HI := hid hI
      obtain ⟨hc1, hf1⟩ := HCE.out wr n hwr a (by omega)
      clear hwr hI
      by_cases hij : i ≤ b1
      · have hij1 : (i : Int) ≤ (b1 : Int) := by omega
        obtain ⟨hc2, hf2⟩ := HCE.out wr n HW.out i (by omega)
        have HLS := hid (fun W => less_int d1[i]! d1[a]! W)
        have HGO := hid (fun (h : d1[i]! < d1[a]!) => up_go (p := (fun x => ltInt x d1[a]!)) (d := d1) hij (decide_eq_true h))
        have HST := hid (fun (h : ¬ d1[i]! < d1[a]!) => up_stop (p := (fun x => ltInt x d1[a]!)) (d := d1) (j := b1) (i := i) (Or.inr (decide_eq_false h)))
        generalize d1[i]! = x at hc2 HLS HGO HST
        obtain ⟨y, hy⟩ : ∃ y, y = d1[a]! := ⟨_, rfl⟩
        rw [← hy] at hc1 HLS
        have HY := hid hy
        clear hy
        by_cases hxy : x < y
        · rw [decide_eq_true hxy] at HLS
          go_wp2_with fail
          go_quiet (first | (go_at_call 41; refine Calls.quiet_of_same (HLS.out _)))
          go_wp2_with fail
          go_roundg (b1 + 1 - (i + 1))
          case measure => omega
          case rel => exact ⟨i + 1, n + nq, by go_num, rfl, by omega, by omega, by rw [HW.out]; exact putRow_drewN _ _ _ _ _ _ _, by rw [HI.out]; exact HGO.out (by rw [← HY.out]; exact hxy)⟩
        · rw [decide_eq_false hxy] at HLS
          go_wp2_with fail
          go_quiet (first | (go_at_call 41; refine Calls.quiet_of_same (HLS.out _)))
          go_wp2_with fail
          have HE := hid (HI.out.trans (HST.out (by rw [← HY.out]; exact hxy)))
          go_meet
          case rel => exact ⟨n + nq, by rw [HE.out], by rw [HE.out]; exact hai, by rw [HE.out]; exact hib, by rw [HW.out]; exact putRow_drewN _ _ _ _ _ _ _⟩
      · have hij1 : ¬ (i : Int) ≤ (b1 : Int) := by omega
        go_wp2_with fail
        go_quiet (fail)
        go_wp2_with fail
        have HE := hid (HI.out.trans (up_stop (p := (fun x => ltInt x d1[a]!)) (Or.inl hij)))
        go_meet
        case rel => exact ⟨n + nq, by rw [HE.out], by rw [HE.out]; exact hai, by rw [HE.out]; exact hib, by rw [HW.out]; exact putRow_drewN _ _ _ _ _ _ _⟩
  case rest =>
    obtain ⟨n1, rfl, hi1, hi2, hwc⟩ := hcut
    have HW1 := hid hwc
    clear hwc HSW
    go_upto_block 2 with fail
    obtain ⟨j1, hj1⟩ : ∃ j, j = scanDown (fun x => !ltInt x d1[a]!) d1 i1 b1 := ⟨_, rfl⟩
    have HJj1 := hid hj1
    clear hj1
    go_cut [11] from 46 to 62 (fun v11 wc => ∃ n, v11 = .int .i64 (j1 : Int) ∧ j1 ≤ b1 ∧ wc = putRow (Value.int .u64) (Sort.ahead w n) g 0 d1)
    case first =>
      go_wp2_with fail
      go_loopg [11] b1 (fun gg v11 wr => ∃ (j n : Nat), v11 = .int .i64 (j : Int) ∧ j = gg ∧ j ≤ b1 ∧ wr = putRow (Value.int .u64) (Sort.ahead w n) g 0 d1 ∧ j1 = scanDown (fun x => !ltInt x d1[a]!) d1 i1 j)
      case atStart => exact ⟨b1, n1, rfl, rfl, by omega, HW1.out, HJj1.out⟩
      case round =>
        obtain ⟨j, n, rfl, rfl, hjj, hwr, hI⟩ := hrel
        have HW := hid hwr
        have HI := hid hI
        obtain ⟨hc1, hf1⟩ := HCE.out wr n hwr a (by omega)
        clear hwr hI
        by_cases hij : i1 ≤ j
        · obtain ⟨t, rfl⟩ : ∃ t, j = t + 1 := ⟨j - 1, by omega⟩
          have hij1 : (i1 : Int) ≤ (t : Int) + 1 := by omega
          have hij2 : (i1 : Int) ≤ ((t + 1 : Nat) : Int) := by omega
          have hk1 : IntKind.i64.wrap (((t + 1 : Nat) : Int) - 1) = (t : Int) := by rw [IntKind.wrap_i64]; omega
          obtain ⟨hc2, hf2⟩ := HCE.out wr n HW.out (t + 1) (by omega)
          have HLS := hid (fun W => less_int d1[t + 1]! d1[a]! W)
          have HGO := hid (fun (h : ¬ d1[t + 1]! < d1[a]!) => down_go (p := (fun x => !ltInt x d1[a]!)) (d := d1) hij (by show (!decide _) = true; rw [decide_eq_false h]; rfl))
          have HST := hid (fun (h : d1[t + 1]! < d1[a]!) => down_stop (p := (fun x => !ltInt x d1[a]!)) (d := d1) (i := i1) (j := t + 1) (Or.inr (by show (!decide _) = false; rw [decide_eq_true h]; rfl)))
          generalize d1[t + 1]! = x at hc2 HLS HGO HST
          obtain ⟨y, hy⟩ : ∃ y, y = d1[a]! := ⟨_, rfl⟩
          rw [← hy] at hc1 HLS
          have HY := hid hy
          clear hy
          by_cases hxy : x < y
          · rw [decide_eq_true hxy] at HLS
            go_wp2_with fail
            go_quiet (first | (go_at_call 41; refine Calls.quiet_of_same (HLS.out _)))
            go_wp2_with fail
            have HE := hid (HI.out.trans (HST.out (by rw [← HY.out]; exact hxy)))
            go_meet
            case rel => exact ⟨n + nq, by rw [HE.out]; rfl, by rw [HE.out]; exact hjj, by rw [HW.out]; exact putRow_drewN _ _ _ _ _ _ _⟩
          · rw [decide_eq_false hxy] at HLS
            go_wp2_with fail
            go_quiet (first | (go_at_call 41; refine Calls.quiet_of_same (HLS.out _)))
            go_wp2_with fail
            go_roundg t
            case measure => omega
            case rel => exact ⟨t, n + nq, rfl, rfl, by omega, by rw [HW.out]; exact putRow_drewN _ _ _ _ _ _ _, by rw [HI.out]; exact HGO.out (by rw [← HY.out]; exact hxy)⟩
        · have hij1 : ¬ (i1 : Int) ≤ (j : Int) := by omega
          go_wp2_with fail
          go_quiet (fail)
          go_wp2_with fail
          have HE := hid (HI.out.trans (down_stop (p := (fun x => !ltInt x d1[a]!)) (Or.inl hij)))
          go_meet
          case rel => exact ⟨n + nq, by rw [HE.out], by rw [HE.out]; exact hjj, by rw [HW.out]; exact putRow_drewN _ _ _ _ _ _ _⟩
    case rest =>
      obtain ⟨n2, rfl, hj1, hwc⟩ := hcut
      have HW2 := hid hwc
      clear hwc HW1
      by_cases hgt : i1 > j1
      · have hgt1 : (j1 : Int) < (i1 : Int) := by omega
        obtain ⟨hc1, hf1⟩ := HCE.out wc n2 HW2.out j1 (by omega)
        obtain ⟨hc2, hf2⟩ := HCE.out wc n2 HW2.out a (by omega)
        obtain ⟨hc3, hf3⟩ := half_swap HH.out (by rw [HSD.out]; exact HS.out) HW2.out (a := j1) (j := a) (by rw [HSD.out]; omega) (by rw [HSD.out]; omega) rfl
        have HSW : Hid (((wc.setCell ⟨g, j1, none⟩ (.int .u64 d1[a]!)).setCell ⟨g, a, none⟩ (.int .u64 d1[j1]!)).drew = putRow (Value.int .u64) (Sort.ahead w (n2 + 1)) g 0 (swp d1 j1 a)) := hid (by
          have h := putRow_swp (Value.int .u64) (Sort.ahead w n2) g 0 d1 j1 a (by rw [HSD.out]; omega) (by rw [HSD.out]; omega)
          rw [← HW2.out, Nat.zero_add, Nat.zero_add] at h
          rw [h, putRow_drew, ahead_drew])
        generalize d1[j1]! = x at hc1 HSW
        generalize d1[a]! = y at hc2 hc3 hf3 HSW
        go_wp2_with fail
        go_region
        all_goals go_wp2_with fail
        have HE := hid (part_true HD1.out HIi1.out HJj1.out hgt)
        go_ret2
        exact ⟨by rw [HRR.out, HE.out]; rfl, n2 + 1, by rw [HRR.out, HE.out]; exact HSW.out⟩
      · have hgt1 : ¬ (j1 : Int) < (i1 : Int) := by omega
        obtain ⟨t1, ht1⟩ : ∃ t, t = j1 - 1 := ⟨_, rfl⟩
        have hk1 : IntKind.i64.wrap ((j1 : Int) - 1) = (t1 : Int) := by rw [IntKind.wrap_i64]; omega
        have HT1 := hid ht1
        clear ht1
        obtain ⟨hc1, hf1⟩ := HCE.out wc n2 HW2.out i1 (by omega)
        obtain ⟨hc2, hf2⟩ := HCE.out wc n2 HW2.out j1 (by omega)
        obtain ⟨hc3, hf3⟩ := half_swap HH.out (by rw [HSD.out]; exact HS.out) HW2.out (a := i1) (j := j1) (by rw [HSD.out]; omega) (by rw [HSD.out]; omega) rfl
        have HSW : Hid (((wc.setCell ⟨g, i1, none⟩ (.int .u64 d1[j1]!)).setCell ⟨g, j1, none⟩ (.int .u64 d1[i1]!)).drew = putRow (Value.int .u64) (Sort.ahead w (n2 + 1)) g 0 (swp d1 i1 j1)) := hid (by
          have h := putRow_swp (Value.int .u64) (Sort.ahead w n2) g 0 d1 i1 j1 (by rw [HSD.out]; omega) (by rw [HSD.out]; omega)
          rw [← HW2.out, Nat.zero_add, Nat.zero_add] at h
          rw [h, putRow_drew, ahead_drew])
        generalize d1[i1]! = x at hc1 HSW
        generalize d1[j1]! = y at hc2 hc3 hf3 HSW
        go_wp2_with fail
        go_region
        all_goals go_upto_block 4 with fail
        obtain ⟨r, hr⟩ : ∃ r, partLoop ltInt a (i1 + 1) (j1 - 1) (swp d1 i1 j1) = r := ⟨_, rfl⟩
        have HE := hid (part_false HD1.out HIi1.out HJj1.out hgt hr)
        have HR := hid hr
        have HSE : Hid ((swp d1 i1 j1).size = s) := hid (by rw [size_swp]; exact HSD.out)
        rw [← HT1.out] at hr
        have HRT := hid hr
        generalize swp d1 i1 j1 = d2 at HSW HRT HSE
        generalize World.drew _ = w2 at HSW
        clear hr hc1 hc2 hc3 hf1 hf2 hf3 hk1 HIi1 HJj1 HR
        go_wp2_with fail
        go_loopg [10, 11] (t1 - i1) (fun gg v10 v11 wr => ∃ (ii jj n : Nat) (dk : Array Int), v10 = .int .i64 (ii : Int) ∧ v11 = .int .i64 (jj : Int) ∧ gg = jj + 1 - ii ∧ a + 1 ≤ ii ∧ ii ≤ b1 + 1 ∧ jj ≤ b1 ∧ dk.size = s ∧ wr = putRow (Value.int .u64) (Sort.ahead w n) g 0 dk ∧ partLoop ltInt a ii jj dk = r)
        case atStart => exact ⟨i1 + 1, t1, n2 + 1, d2, by go_num, rfl, by have := HT1.out; omega, by omega, by omega, by have := HT1.out; omega, HSE.out, HSW.out, HRT.out⟩
        case round =>
          clear HSW HRT HSE
          obtain ⟨ii, jj, n, dk, rfl, rfl, rfl, hai, hib, hjb, hsk, hwr, hO⟩ := hrel
          have HO := hid hO
          have HW := hid hwr
          have HSK := hid hsk
          have HCK := hid (cells_any HH.out HS.out hsk)
          clear hO hwr hsk
          go_upto_block 6 with fail
          obtain ⟨i2, hi2⟩ : ∃ i, i = scanUp (fun x => ltInt x dk[a]!) dk jj (ii) := ⟨_, rfl⟩
          have HIi2 := hid hi2
          clear hi2
          go_cut [10] from 99 to 114 (fun v10 wc => ∃ n, v10 = .int .i64 (i2 : Int) ∧ a + 1 ≤ i2 ∧ i2 ≤ b1 + 1 ∧ wc = putRow (Value.int .u64) (Sort.ahead w n) g 0 dk)
          case first =>
            go_wp2_with fail
            go_loopg [10] (jj + 1 - (ii)) (fun gg v10 wr => ∃ (i n : Nat), v10 = .int .i64 (i : Int) ∧ gg = jj + 1 - i ∧ a + 1 ≤ i ∧ i ≤ b1 + 1 ∧ wr = putRow (Value.int .u64) (Sort.ahead w n) g 0 dk ∧ i2 = scanUp (fun x => ltInt x dk[a]!) dk jj i)
            case atStart => exact ⟨ii, n, rfl, rfl, by omega, by omega, HW.out, HIi2.out⟩
            case round =>
              obtain ⟨i, n, rfl, rfl, hai, hib, hwr, hI⟩ := hrel
              have HW := hid hwr
              have HI := hid hI
              obtain ⟨hc1, hf1⟩ := HCK.out wr n hwr a (by omega)
              clear hwr hI
              by_cases hij : i ≤ jj
              · have hij1 : (i : Int) ≤ (jj : Int) := by omega
                obtain ⟨hc2, hf2⟩ := HCK.out wr n HW.out i (by omega)
                have HLS := hid (fun W => less_int dk[i]! dk[a]! W)
                have HGO := hid (fun (h : dk[i]! < dk[a]!) => up_go (p := (fun x => ltInt x dk[a]!)) (d := dk) hij (decide_eq_true h))
                have HST := hid (fun (h : ¬ dk[i]! < dk[a]!) => up_stop (p := (fun x => ltInt x dk[a]!)) (d := dk) (j := jj) (i := i) (Or.inr (decide_eq_false h)))
                generalize dk[i]! = x at hc2 HLS HGO HST
                obtain ⟨y, hy⟩ : ∃ y, y = dk[a]! := ⟨_, rfl⟩
                rw [← hy] at hc1 HLS
                have HY := hid hy
                clear hy
                by_cases hxy : x < y
                · rw [decide_eq_true hxy] at HLS
                  go_wp2_with fail
                  go_quiet (first | (go_at_call 41; refine Calls.quiet_of_same (HLS.out _)))
                  go_wp2_with fail
                  go_roundg (jj + 1 - (i + 1))
                  case measure => omega
                  case rel => exact ⟨i + 1, n + nq, by go_num, rfl, by omega, by omega, by rw [HW.out]; exact putRow_drewN _ _ _ _ _ _ _, by rw [HI.out]; exact HGO.out (by rw [← HY.out]; exact hxy)⟩
                · rw [decide_eq_false hxy] at HLS
                  go_wp2_with fail
                  go_quiet (first | (go_at_call 41; refine Calls.quiet_of_same (HLS.out _)))
                  go_wp2_with fail
                  have HE := hid (HI.out.trans (HST.out (by rw [← HY.out]; exact hxy)))
                  go_meet
                  case rel => exact ⟨n + nq, by rw [HE.out], by rw [HE.out]; exact hai, by rw [HE.out]; exact hib, by rw [HW.out]; exact putRow_drewN _ _ _ _ _ _ _⟩
              · have hij1 : ¬ (i : Int) ≤ (jj : Int) := by omega
                go_wp2_with fail
                go_quiet (fail)
                go_wp2_with fail
                have HE := hid (HI.out.trans (up_stop (p := (fun x => ltInt x dk[a]!)) (Or.inl hij)))
                go_meet
                case rel => exact ⟨n + nq, by rw [HE.out], by rw [HE.out]; exact hai, by rw [HE.out]; exact hib, by rw [HW.out]; exact putRow_drewN _ _ _ _ _ _ _⟩
          case rest =>
            obtain ⟨n3, rfl, hi3, hi4, hwc⟩ := hcut
            have HW3 := hid hwc
            clear hwc HW
            go_upto_block 8 with fail
            obtain ⟨j2, hj2⟩ : ∃ j, j = scanDown (fun x => !ltInt x dk[a]!) dk i2 jj := ⟨_, rfl⟩
            have HJj2 := hid hj2
            clear hj2
            go_cut [11] from 115 to 131 (fun v11 wc => ∃ n, v11 = .int .i64 (j2 : Int) ∧ j2 ≤ jj ∧ wc = putRow (Value.int .u64) (Sort.ahead w n) g 0 dk)
            case first =>
              go_wp2_with fail
              go_loopg [11] jj (fun gg v11 wr => ∃ (j n : Nat), v11 = .int .i64 (j : Int) ∧ j = gg ∧ j ≤ jj ∧ wr = putRow (Value.int .u64) (Sort.ahead w n) g 0 dk ∧ j2 = scanDown (fun x => !ltInt x dk[a]!) dk i2 j)
              case atStart => exact ⟨jj, n3, rfl, rfl, by omega, HW3.out, HJj2.out⟩
              case round =>
                obtain ⟨j, n, rfl, rfl, hjj, hwr, hI⟩ := hrel
                have HW := hid hwr
                have HI := hid hI
                obtain ⟨hc1, hf1⟩ := HCK.out wr n hwr a (by omega)
                clear hwr hI
                by_cases hij : i2 ≤ j
                · obtain ⟨t, rfl⟩ : ∃ t, j = t + 1 := ⟨j - 1, by omega⟩
                  have hij1 : (i2 : Int) ≤ (t : Int) + 1 := by omega
                  have hij2 : (i2 : Int) ≤ ((t + 1 : Nat) : Int) := by omega
                  have hk1 : IntKind.i64.wrap (((t + 1 : Nat) : Int) - 1) = (t : Int) := by rw [IntKind.wrap_i64]; omega
                  obtain ⟨hc2, hf2⟩ := HCK.out wr n HW.out (t + 1) (by omega)
                  have HLS := hid (fun W => less_int dk[t + 1]! dk[a]! W)
                  have HGO := hid (fun (h : ¬ dk[t + 1]! < dk[a]!) => down_go (p := (fun x => !ltInt x dk[a]!)) (d := dk) hij (by show (!decide _) = true; rw [decide_eq_false h]; rfl))
                  have HST := hid (fun (h : dk[t + 1]! < dk[a]!) => down_stop (p := (fun x => !ltInt x dk[a]!)) (d := dk) (i := i2) (j := t + 1) (Or.inr (by show (!decide _) = false; rw [decide_eq_true h]; rfl)))
                  generalize dk[t + 1]! = x at hc2 HLS HGO HST
                  obtain ⟨y, hy⟩ : ∃ y, y = dk[a]! := ⟨_, rfl⟩
                  rw [← hy] at hc1 HLS
                  have HY := hid hy
                  clear hy
                  by_cases hxy : x < y
                  · rw [decide_eq_true hxy] at HLS
                    go_wp2_with fail
                    go_quiet (first | (go_at_call 41; refine Calls.quiet_of_same (HLS.out _)))
                    go_wp2_with fail
                    have HE := hid (HI.out.trans (HST.out (by rw [← HY.out]; exact hxy)))
                    go_meet
                    case rel => exact ⟨n + nq, by rw [HE.out]; rfl, by rw [HE.out]; exact hjj, by rw [HW.out]; exact putRow_drewN _ _ _ _ _ _ _⟩
                  · rw [decide_eq_false hxy] at HLS
                    go_wp2_with fail
                    go_quiet (first | (go_at_call 41; refine Calls.quiet_of_same (HLS.out _)))
                    go_wp2_with fail
                    go_roundg t
                    case measure => omega
                    case rel => exact ⟨t, n + nq, rfl, rfl, by omega, by rw [HW.out]; exact putRow_drewN _ _ _ _ _ _ _, by rw [HI.out]; exact HGO.out (by rw [← HY.out]; exact hxy)⟩
                · have hij1 : ¬ (i2 : Int) ≤ (j : Int) := by omega
                  go_wp2_with fail
                  go_quiet (fail)
                  go_wp2_with fail
                  have HE := hid (HI.out.trans (down_stop (p := (fun x => !ltInt x dk[a]!)) (Or.inl hij)))
                  go_meet
                  case rel => exact ⟨n + nq, by rw [HE.out], by rw [HE.out]; exact hjj, by rw [HW.out]; exact putRow_drewN _ _ _ _ _ _ _⟩
            case rest =>
              obtain ⟨n4, rfl, hj3, hwc⟩ := hcut
              have HW4 := hid hwc
              clear hwc HW3
              by_cases hgt2 : i2 > j2
              · have hgt3 : (j2 : Int) < (i2 : Int) := by omega
                have HL := hid (HO.out.symm.trans (ploop_stop HIi2.out HJj2.out hgt2))
                obtain ⟨hc1, hf1⟩ := HCK.out wc n4 HW4.out j2 (by omega)
                obtain ⟨hc2, hf2⟩ := HCK.out wc n4 HW4.out a (by omega)
                obtain ⟨hc3, hf3⟩ := half_swap HH.out (by rw [HSK.out]; exact HS.out) HW4.out (a := j2) (j := a) (by rw [HSK.out]; omega) (by rw [HSK.out]; omega) rfl
                have HSW : Hid (((wc.setCell ⟨g, j2, none⟩ (.int .u64 dk[a]!)).setCell ⟨g, a, none⟩ (.int .u64 dk[j2]!)).drew = putRow (Value.int .u64) (Sort.ahead w (n4 + 1)) g 0 (swp dk j2 a)) := hid (by
                  have h := putRow_swp (Value.int .u64) (Sort.ahead w n4) g 0 dk j2 a (by rw [HSK.out]; omega) (by rw [HSK.out]; omega)
                  rw [← HW4.out, Nat.zero_add, Nat.zero_add] at h
                  rw [h, putRow_drew, ahead_drew])
                generalize dk[j2]! = x at hc1 HSW
                generalize dk[a]! = y at hc2 hc3 hf3 HSW
                go_wp2_with fail
                go_region
                all_goals go_wp2_with fail
                go_ret2
                exact ⟨by rw [HRR.out, HE.out, HL.out]; rfl, n4 + 1, by rw [HRR.out, HE.out, HL.out]; exact HSW.out⟩
              · have hgt3 : ¬ (j2 : Int) < (i2 : Int) := by omega
                obtain ⟨t2, ht2⟩ : ∃ t, t = j2 - 1 := ⟨_, rfl⟩
                have hk2 : IntKind.i64.wrap ((j2 : Int) - 1) = (t2 : Int) := by rw [IntKind.wrap_i64]; omega
                have HL := hid (HO.out.symm.trans (ploop_go HIi2.out HJj2.out hgt2))
                rw [← ht2] at HL
                have HT2 := hid ht2
                clear ht2
                obtain ⟨hc1, hf1⟩ := HCK.out wc n4 HW4.out i2 (by omega)
                obtain ⟨hc2, hf2⟩ := HCK.out wc n4 HW4.out j2 (by omega)
                obtain ⟨hc3, hf3⟩ := half_swap HH.out (by rw [HSK.out]; exact HS.out) HW4.out (a := i2) (j := j2) (by rw [HSK.out]; omega) (by rw [HSK.out]; omega) rfl
                have HSW : Hid (((wc.setCell ⟨g, i2, none⟩ (.int .u64 dk[j2]!)).setCell ⟨g, j2, none⟩ (.int .u64 dk[i2]!)).drew = putRow (Value.int .u64) (Sort.ahead w (n4 + 1)) g 0 (swp dk i2 j2)) := hid (by
                  have h := putRow_swp (Value.int .u64) (Sort.ahead w n4) g 0 dk i2 j2 (by rw [HSK.out]; omega) (by rw [HSK.out]; omega)
                  rw [← HW4.out, Nat.zero_add, Nat.zero_add] at h
                  rw [h, putRow_drew, ahead_drew])
                generalize dk[i2]! = x at hc1 HSW
                generalize dk[j2]! = y at hc2 hc3 hf3 HSW
                go_wp2_with fail
                go_region
                all_goals go_wp2_with fail
                go_roundg (t2 + 1 - (i2 + 1))
                case measure =>
                  have h8 := HT2.out
                  have h9 := scanUp_ge (fun x => ltInt x dk[a]!) dk jj ii
                  rw [← HIi2.out] at h9
                  omega
                case rel => exact ⟨i2 + 1, t2, n4 + 1, swp dk i2 j2, by go_num, rfl, rfl, by omega, by omega, by have := HT2.out; omega, by rw [size_swp]; exact HSK.out, HSW.out, HL.out.symm⟩
end Go.Proofs.Ytcmbijckhcckpaa
