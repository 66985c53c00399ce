/- slices.partialInsertionSortOrdered of numbers. -/
import Derived.Test.YtcmbijckhcckpaaPartE
import Derived.Deep.Cut
import Derived.Deep.CutRange
import Derived.Sort.LotA
namespace Go.Proofs.Ytcmbijckhcckpaa
open Go.RowKit Go.Sort

theorem sc_go {d : Array Int} {b i : Nat} (h : i < b) (hp : ltInt d[i]! d[i - 1]! = false) : scanSorted ltInt d b i = scanSorted ltInt d b (i + 1) := by rw [scanSorted, if_pos (by rw [decide_eq_true h, hp]; rfl)]
theorem sc_stop {d : Array Int} {b i : Nat} (h : ¬ i < b ∨ ltInt d[i]! d[i - 1]! = true) : scanSorted ltInt d b i = i := by
  rw [scanSorted, if_neg]
  rcases h with h | h
  · rw [decide_eq_false h, Bool.false_and]; decide
  · rw [h]; simp
theorem sd_go {d : Array Int} {j : Nat} (h : ltInt d[j + 1]! d[j]! = true) : shiftDown ltInt (j + 1) d = shiftDown ltInt j (Sort.swp d (j + 1) j) := by rw [shiftDown, h]; rfl
theorem sd_stop {d : Array Int} {j : Nat} (h : j = 0 ∨ ltInt d[j]! d[j - 1]! = false) : shiftDown ltInt j d = d := by
  cases j with
  | zero => rfl
  | succ j =>
    rcases h with h | h
    · cases h
    · rw [Nat.add_sub_cancel] at h
      rw [shiftDown, h]; rfl
theorem su_go {d : Array Int} {b j : Nat} (hb : j < b) (h : ltInt d[j]! d[j - 1]! = true) : shiftUp ltInt b j d = shiftUp ltInt b (j + 1) (Sort.swp d j (j - 1)) := by rw [shiftUp, if_pos hb, h]; rfl
theorem su_stop {d : Array Int} {b j : Nat} (h : ¬ j < b ∨ ltInt d[j]! d[j - 1]! = false) : shiftUp ltInt b j d = d := by
  rw [shiftUp]
  rcases h with h | h
  · rw [if_neg h]
  · rw [h]; simp
theorem sd_size (j : Nat) : ∀ d : Array Int, (shiftDown ltInt j d).size = d.size := by
  induction j with
  | zero => intro d; rfl
  | succ j ih =>
    intro d
    rw [shiftDown]
    split
    · rfl
    · rw [ih, size_swp]
set_option maxRecDepth 100000 in
set_option maxHeartbeats 8000000 in
theorem pis_any (w : World) (g c a b : Nat) (d : Array Int) (hH : Holds (Value.int .u64) w g 0 d) (hab : a < b) (hb : b ≤ d.size) (hsz : d.size ≤ 100) :
    Calls Try.prog 48 #[.slice (some ⟨g, 0, none⟩) d.size c, .int .i64 (a : Int), .int .i64 (b : Int)] w fun e w' =>
      e = .returned (.bool (Sort.partialInsertionSort ltInt d a b).2) ∧ ∃ n, w' = putRow (Value.int .u64) (Sort.ahead w n) g 0 (Sort.partialInsertionSort ltInt d a b).1 := by
  have HH := hid hH
  obtain ⟨s, hs⟩ : ∃ s, s = d.size := ⟨_, rfl⟩
  rw [← hs] at hb hsz
  rw [← hs]
  have HS := hid hs
  clear hH hs
  obtain ⟨rr, hrr⟩ : ∃ r, r = Sort.partialInsertionSort ltInt d a b := ⟨_, rfl⟩
  rw [← hrr]
  have HRR : Hid (partialIns ltInt a b 5 (a + 1) d = rr) := hid (by rw [hrr]; rfl)
  clear hrr
  go_enter Try.func48, Try.ntmps48
  go_wp2_with fail
  go_loopg [7, 8, 9, 10] 5 (fun gg v7 v8 _v9 _v10 wr => ∃ (q i j n : Nat) (dk : Array Int), q = gg ∧ v7 = .int .i64 (i : Int) ∧ v8 = .int .i64 (j : Int) ∧ q + j = 5 ∧ a + 1 ≤ i ∧ i ≤ b ∧ dk.size = s ∧ wr = putRow (Value.int .u64) (Sort.ahead w n) g 0 dk ∧ partialIns ltInt a b q i dk = rr)
  case atStart => exact ⟨5, a + 1, 0, 0, d, rfl, by go_num, rfl, rfl, by omega, by omega, HS.out.symm, (putRow_self _ _ _ _ _ HH.out).symm, HRR.out⟩
  case round =>
    clear HRR
    obtain ⟨q, ii, jj, n, dk, rfl, rfl, rfl, hgj, hai, hib, hsk, hwr, hO⟩ := hrel
    have HO := hid hO
    have HW := hid hwr
    have HSK := hid hsk
    have HCK := hid (cells_any HH.out HS.out hsk)
    clear hO hwr hsk
    by_cases hj5 : 5 ≤ jj
    · have hj6 : ¬ (jj : Int) < 5 := by omega
      obtain rfl : q = 0 := by omega
      go_wp2_with fail
      go_ret
      exact ⟨by rw [← HO.out]; rfl, n, by rw [← HO.out, HW.out]; rfl⟩
    · have hj6 : (jj : Int) < 5 := by omega
      obtain ⟨q1, rfl⟩ : ∃ k, q = k + 1 := ⟨q - 1, by omega⟩
      go_upto_block 2 with fail
      obtain ⟨i2, hi2⟩ : ∃ i, i = scanSorted ltInt dk b ii := ⟨_, rfl⟩
      have HI2 := hid hi2
      clear hi2
      go_cut [7] from 17 to 34 (fun v7 wc => ∃ n, v7 = .int .i64 (i2 : Int) ∧ a + 1 ≤ i2 ∧ i2 ≤ b ∧ wc = putRow (Value.int .u64) (Sort.ahead w n) g 0 dk)
      case first =>
        go_wp2_with fail
        go_loopg [7] (b - ii) (fun gg v7 wr => ∃ (i n : Nat), v7 = .int .i64 (i : Int) ∧ gg = b - i ∧ a + 1 ≤ i ∧ i ≤ b ∧ wr = putRow (Value.int .u64) (Sort.ahead w n) g 0 dk ∧ i2 = scanSorted ltInt dk b i)
        case atStart => exact ⟨ii, n, rfl, rfl, hai, hib, HW.out, HI2.out⟩
        case round =>
          clear HI2 HW HO n hai hib hj6 hj5
          obtain ⟨i, n, rfl, rfl, hai, hib, hwr, hI⟩ := hrel
          have HW := hid hwr
          have HI := hid hI
          clear hwr hI
          by_cases hij : i < b
          · obtain ⟨k, rfl⟩ : ∃ k, i = k + 1 := ⟨i - 1, by omega⟩
            have hij1 : (k : Int) + 1 < (b : Int) := by omega
            have hij2 : ((k + 1 : Nat) : Int) < (b : Int) := by omega
            have hk1 : IntKind.i64.wrap (((k + 1 : Nat) : Int) - 1) = (k : Int) := by rw [IntKind.wrap_i64]; omega
            obtain ⟨hc1, hf1⟩ := HCK.out wr n HW.out (k + 1) (by omega)
            obtain ⟨hc2, hf2⟩ := HCK.out wr n HW.out k (by omega)
            have HLS := hid (fun W => less_int dk[k + 1]! dk[k]! W)
            have HGO := hid (fun (h : ¬ dk[k + 1]! < dk[k]!) => sc_go (d := dk) hij (decide_eq_false h))
            have HST := hid (fun (h : dk[k + 1]! < dk[k]!) => sc_stop (d := dk) (b := b) (i := k + 1) (Or.inr (decide_eq_true h)))
            generalize dk[k + 1]! = x at hc1 HLS HGO HST
            generalize dk[k]! = y at hc2 HLS HGO HST
            by_cases hxy : x < y
            · rw [decide_eq_true hxy] at HLS
              go_wp2_with fail
              go_quiet (first | (go_at_call 41; refine Calls.quiet_of_same (HLS.out _)))
              go_wp2_with fail
              have HE := hid (HI.out.trans (HST.out hxy))
              go_meet
              case rel => exact ⟨n + nq, by rw [HE.out]; rfl, by rw [HE.out]; exact hai, by rw [HE.out]; exact hib, by rw [HW.out]; exact putRow_drewN _ _ _ _ _ _ _⟩
            · rw [decide_eq_false hxy] at HLS
              go_wp2_with fail
              go_quiet (first | (go_at_call 41; refine Calls.quiet_of_same (HLS.out _)))
              go_wp2_with fail
              go_roundg (b - (k + 1 + 1))
              case measure => omega
              case rel => exact ⟨k + 1 + 1, n + nq, by go_num, rfl, by omega, by omega, by rw [HW.out]; exact putRow_drewN _ _ _ _ _ _ _, by rw [HI.out]; exact HGO.out hxy⟩
          · have hij1 : ¬ (i : Int) < (b : Int) := by omega
            go_wp2_with fail
            go_quiet (fail)
            go_wp2_with fail
            have HE := hid (HI.out.trans (sc_stop (Or.inl hij)))
            go_meet
            case rel => exact ⟨n + nq, by rw [HE.out], by rw [HE.out]; exact hai, by rw [HE.out]; exact hib, by rw [HW.out]; exact putRow_drewN _ _ _ _ _ _ _⟩
      case rest =>
        clear HW n
        obtain ⟨n, rfl, hai2, hib2, hwr⟩ := hcut
        have HW := hid hwr
        clear hwr
        rw [partialIns_succ, ← HI2.out] at HO
        by_cases hib3 : i2 = b
        · subst hib3
          rw [if_pos rfl] at HO
          go_wp2_with fail
          go_ret
          exact ⟨by rw [← HO.out]; rfl, n, by rw [← HO.out, HW.out]⟩
        · rw [if_neg hib3] at HO
          have hib4 : ¬ (i2 : Int) = (b : Int) := by omega
          by_cases h50 : b - a < 50
          · rw [if_pos h50] at HO
            have h51 : (b : Int) - (a : Int) < 50 := by omega
            go_wp2_with fail
            go_ret
            exact ⟨by rw [← HO.out]; rfl, n, by rw [← HO.out, HW.out]⟩
          · rw [if_neg h50] at HO
            have h51 : ¬ (b : Int) - (a : Int) < 50 := by omega
            obtain ⟨k, rfl⟩ : ∃ k, i2 = k + 1 := ⟨i2 - 1, by omega⟩
            have hk1 : IntKind.i64.wrap (((k + 1 : Nat) : Int) - 1) = (k : Int) := by rw [IntKind.wrap_i64]; omega
            rw [Nat.add_sub_cancel] at HO
            obtain ⟨hc1, hf1⟩ := HCK.out wc n HW.out (k + 1) (by omega)
            obtain ⟨hc2, hf2⟩ := HCK.out wc n HW.out k (by omega)
            obtain ⟨hc3, hf3⟩ := half_swap HH.out (by rw [HSK.out]; exact HS.out) HW.out (a := k + 1) (j := k) (by rw [HSK.out]; omega) (by rw [HSK.out]; omega) rfl
            have HSW : Hid (((wc.setCell ⟨g, k + 1, none⟩ (.int .u64 dk[k]!)).setCell ⟨g, k, none⟩ (.int .u64 dk[k + 1]!)).drew = putRow (Value.int .u64) (Sort.ahead w (n + 1)) g 0 (Sort.swp dk (k + 1) k)) := hid (by
              have h := putRow_swp (Value.int .u64) (Sort.ahead w n) g 0 dk (k + 1) k (by rw [HSK.out]; omega) (by rw [HSK.out]; omega)
              rw [← HW.out, Nat.zero_add, Nat.zero_add] at h
              rw [h, putRow_drew, ahead_drew])
            have HSE : Hid ((Sort.swp dk (k + 1) k).size = s) := hid (by rw [size_swp]; exact HSK.out)
            generalize dk[k + 1]! = x at hc1 HSW
            generalize dk[k]! = y at hc2 hc3 hf3 HSW
            generalize Sort.swp dk (k + 1) k = d1 at HO HSW HSE
            go_wp2_with fail
            go_region
            all_goals go_upto_if 61 with fail
            generalize World.drew _ = w1 at HSW
            clear hc1 hc2 hc3 hf1 hf2 hf3 hk1 HCK HSK HW
            obtain ⟨d2, hd2⟩ : ∃ d2, d2 = fixDown ltInt a (k + 1) d1 := ⟨_, rfl⟩
            rw [← hd2] at HO
            have HD2 := hid hd2
            have HS2 : Hid (d2.size = s) := hid (by rw [hd2]; unfold fixDown; split; rw [sd_size]; exact HSE.out; exact HSE.out)
            clear hd2
            go_cut [9] from 13 to 132 (fun _v9 wc => ∃ n, wc = putRow (Value.int .u64) (Sort.ahead w n) g 0 d2)
            case first =>
              by_cases h2 : k + 1 - a ≥ 2
              · have h3 : (2 : Int) ≤ (k : Int) + 1 - (a : Int) := by omega
                rw [show decide ((2 : Int) ≤ (k : Int) + 1 - (a : Int)) = true from decide_eq_true h3]
                go_wp2_with fail
                go_loopg [9] k (fun gg v9 wr => ∃ (j m : Nat) (dj : Array Int), j = gg ∧ v9 = .int .i64 (j : Int) ∧ j ≤ k ∧ dj.size = s ∧ wr = putRow (Value.int .u64) (Sort.ahead w m) g 0 dj ∧ shiftDown ltInt j dj = d2)
                case atStart => exact ⟨k, n + 1, d1, rfl, by go_num, Nat.le_refl _, HSE.out, HSW.out, by rw [HD2.out]; unfold fixDown; rw [if_pos h2]; rfl⟩
                case round =>
                  clear HSW HSE HO HD2
                  obtain ⟨j, m, dj, rfl, rfl, hjk, hsj, hwr, hI⟩ := hrel
                  have HW := hid hwr
                  have HI := hid hI
                  have HSJ := hid hsj
                  have HCJ := hid (cells_any HH.out HS.out hsj)
                  clear hwr hI hsj
                  by_cases hj0 : j = 0
                  · subst hj0
                    have hj1 : ¬ (1 : Int) ≤ ((0 : Nat) : Int) := by decide
                    go_wp2_with fail
                    go_meet
                    case rel => exact ⟨m, by rw [HW.out, ← HI.out]; rfl⟩
                  · obtain ⟨t, rfl⟩ : ∃ t, j = t + 1 := ⟨j - 1, by omega⟩
                    have hj1 : (1 : Int) ≤ (t : Int) + 1 := by omega
                    have hj2 : (1 : Int) ≤ ((t + 1 : Nat) : Int) := by omega
                    have hk1 : IntKind.i64.wrap (((t + 1 : Nat) : Int) - 1) = (t : Int) := by rw [IntKind.wrap_i64]; omega
                    obtain ⟨hc1, hf1⟩ := HCJ.out wr m HW.out (t + 1) (by omega)
                    obtain ⟨hc2, hf2⟩ := HCJ.out wr m HW.out t (by omega)
                    obtain ⟨hc3, hf3⟩ := half_swap HH.out (by rw [HSJ.out]; exact HS.out) HW.out (a := t + 1) (j := t) (by rw [HSJ.out]; omega) (by rw [HSJ.out]; omega) rfl
                    have HSW : Hid (∀ q, (((wr.drewN q).setCell ⟨g, t + 1, none⟩ (.int .u64 dj[t]!)).setCell ⟨g, t, none⟩ (.int .u64 dj[t + 1]!)).drew = putRow (Value.int .u64) (Sort.ahead w (m + (q + 1))) g 0 (Sort.swp dj (t + 1) t)) := hid (fun q => by
                      have h := swap_worldA (Value.int .u64) w m (q + 1) g 0 dj (t + 1) t (by rw [HSJ.out]; omega) (by rw [HSJ.out]; omega)
                      rw [← HW.out, Nat.zero_add, Nat.zero_add] at h
                      exact h)
                    have HLS := hid (fun W => less_int dj[t + 1]! dj[t]! W)
                    generalize hx : dj[t + 1]! = x at hc1 HSW HLS
                    generalize hy : dj[t]! = y at hc2 hc3 hf3 HSW HLS
                    have HLT : Hid (x < y → ltInt dj[t + 1]! dj[t]! = true) := hid (fun h => by rw [hx, hy]; exact decide_eq_true h)
                    have HNL : Hid (¬ x < y → ltInt dj[t + 1]! dj[t + 1 - 1]! = false) := hid (fun h => by rw [Nat.add_sub_cancel, hx, hy]; exact decide_eq_false h)
                    clear hx hy
                    by_cases hxy : x < y
                    · rw [decide_eq_true hxy] at HLS
                      go_wp2_with fail
                      go_quiet (first | (go_at_call 41; refine Calls.quiet_of_same (HLS.out _)))
                      go_wp2_with fail
                      go_region
                      all_goals go_wp2_with fail
                      go_roundg t
                      case measure => omega
                      case rel => exact ⟨t, m + (nq + 1), Sort.swp dj (t + 1) t, rfl, by go_num, by omega, by rw [size_swp]; exact HSJ.out, HSW.out nq, by rw [← HI.out]; exact (sd_go (HLT.out hxy)).symm⟩
                    · rw [decide_eq_false hxy] at HLS
                      go_wp2_with fail
                      go_quiet (first | (go_at_call 41; refine Calls.quiet_of_same (HLS.out _)))
                      go_wp2_with fail
                      have HE := hid (HI.out.symm.trans (sd_stop (Or.inr (HNL.out hxy))))
                      go_meet
                      case rel => exact ⟨m + nq, by rw [HE.out, HW.out]; exact putRow_drewN _ _ _ _ _ _ _⟩
              · have h3 : ¬ (2 : Int) ≤ (k : Int) + 1 - (a : Int) := by omega
                go_wp2_with fail
                go_meet
                case rel => exact ⟨n + 1, by rw [HSW.out, HD2.out]; unfold fixDown; rw [if_neg h2]⟩
            case rest =>
              clear HSW HSE HD2
              obtain ⟨n2, hwr⟩ := hcut
              have HSW := hid hwr
              clear hwr
              go_upto_if 98 with fail
              obtain ⟨d3, hd3⟩ : ∃ d3, d3 = fixUp ltInt b (k + 1) d2 := ⟨_, rfl⟩
              rw [← hd3] at HO
              have HD3 := hid hd3
              clear hd3
              have hgj2 : q1 + (jj + 1) = 5 := by omega
              by_cases h2 : b - (k + 1) ≥ 2
              · have h3 : (2 : Int) ≤ (b : Int) - ((k : Int) + 1) := by omega
                rw [show decide ((2 : Int) ≤ (b : Int) - ((k : Int) + 1)) = true from decide_eq_true h3]
                go_wp2_with fail
                go_loopg [10] (b - (k + 2)) (fun gg v10 wr => ∃ (j m : Nat) (dj : Array Int), v10 = .int .i64 (j : Int) ∧ gg = b - j ∧ k + 2 ≤ j ∧ j ≤ b ∧ dj.size = s ∧ wr = putRow (Value.int .u64) (Sort.ahead w m) g 0 dj ∧ shiftUp ltInt b j dj = d3)
                case atStart => exact ⟨k + 2, n2, d2, by go_num, rfl, by omega, by omega, HS2.out, HSW.out, by rw [HD3.out]; unfold fixUp; rw [if_pos h2]⟩
                case round =>
                  clear HSW HS2 HD3
                  obtain ⟨j, m, dj, rfl, rfl, hkj, hjb, hsj, hwr, hI⟩ := hrel
                  have HW := hid hwr
                  have HI := hid hI
                  have HSJ := hid hsj
                  have HCJ := hid (cells_any HH.out HS.out hsj)
                  clear hwr hI hsj
                  by_cases hjb1 : j < b
                  · obtain ⟨t, rfl⟩ : ∃ t, j = t + 1 := ⟨j - 1, by omega⟩
                    have hj1 : (t : Int) + 1 < (b : Int) := by omega
                    have hj2 : ((t + 1 : Nat) : Int) < (b : Int) := by omega
                    have hk1 : IntKind.i64.wrap (((t + 1 : Nat) : Int) - 1) = (t : Int) := by rw [IntKind.wrap_i64]; omega
                    obtain ⟨hc1, hf1⟩ := HCJ.out wr m HW.out (t + 1) (by omega)
                    obtain ⟨hc2, hf2⟩ := HCJ.out wr m HW.out t (by omega)
                    obtain ⟨hc3, hf3⟩ := half_swap HH.out (by rw [HSJ.out]; exact HS.out) HW.out (a := t + 1) (j := t) (by rw [HSJ.out]; omega) (by rw [HSJ.out]; omega) rfl
                    have HSW : Hid (∀ q, (((wr.drewN q).setCell ⟨g, t + 1, none⟩ (.int .u64 dj[t]!)).setCell ⟨g, t, none⟩ (.int .u64 dj[t + 1]!)).drew = putRow (Value.int .u64) (Sort.ahead w (m + (q + 1))) g 0 (Sort.swp dj (t + 1) t)) := hid (fun q => by
                      have h := swap_worldA (Value.int .u64) w m (q + 1) g 0 dj (t + 1) t (by rw [HSJ.out]; omega) (by rw [HSJ.out]; omega)
                      rw [← HW.out, Nat.zero_add, Nat.zero_add] at h
                      exact h)
                    have HLS := hid (fun W => less_int dj[t + 1]! dj[t]! W)
                    generalize hx : dj[t + 1]! = x at hc1 HSW HLS
                    generalize hy : dj[t]! = y at hc2 hc3 hf3 HSW HLS
                    have HLT : Hid (x < y → ltInt dj[t + 1]! dj[t]! = true) := hid (fun h => by rw [hx, hy]; exact decide_eq_true h)
                    have HNL : Hid (¬ x < y → ltInt dj[t + 1]! dj[t + 1 - 1]! = false) := hid (fun h => by rw [Nat.add_sub_cancel, hx, hy]; exact decide_eq_false h)
                    clear hx hy
                    by_cases hxy : x < y
                    · rw [decide_eq_true hxy] at HLS
                      go_wp2_with fail
                      go_quiet (first | (go_at_call 41; refine Calls.quiet_of_same (HLS.out _)))
                      go_wp2_with fail
                      go_region
                      all_goals go_wp2_with fail
                      go_roundg (b - (t + 1 + 1))
                      case measure => omega
                      case rel => exact ⟨t + 1 + 1, m + (nq + 1), Sort.swp dj (t + 1) t, by go_num, rfl, by omega, by omega, by rw [size_swp]; exact HSJ.out, HSW.out nq, by rw [← HI.out]; exact (su_go hjb1 (HLT.out hxy)).symm⟩
                    · rw [decide_eq_false hxy] at HLS
                      go_wp2_with fail
                      go_quiet (first | (go_at_call 41; refine Calls.quiet_of_same (HLS.out _)))
                      go_wp2_with fail
                      have HE := hid (HI.out.symm.trans (su_stop (Or.inr (HNL.out hxy))))
                      go_roundg q1
                      case measure => omega
                      case rel => exact ⟨q1, k + 1, jj + 1, m + nq, dj, rfl, by go_num, by go_num, hgj2, by omega, by omega, HSJ.out, by rw [HW.out]; exact putRow_drewN _ _ _ _ _ _ _, by rw [← HE.out]; exact HO.out⟩
                  · have hj1 : ¬ (j : Int) < (b : Int) := by omega
                    go_wp2_with fail
                    have HE := hid (HI.out.symm.trans (su_stop (Or.inl hjb1)))
                    go_roundg q1
                    case measure => omega
                    case rel => exact ⟨q1, k + 1, jj + 1, m, dj, rfl, by go_num, by go_num, hgj2, by omega, by omega, HSJ.out, HW.out, by rw [← HE.out]; exact HO.out⟩
              · have h3 : ¬ (2 : Int) ≤ (b : Int) - ((k : Int) + 1) := by omega
                go_wp2_with fail
                have HE : Hid (d3 = d2) := hid (by rw [HD3.out]; unfold fixUp; rw [if_neg h2])
                go_roundg q1
                case measure => omega
                case rel => exact ⟨q1, k + 1, jj + 1, n2, d2, rfl, by go_num, by go_num, hgj2, by omega, by omega, HS2.out, HSW.out, by rw [← HE.out]; exact HO.out⟩
end Go.Proofs.Ytcmbijckhcckpaa
