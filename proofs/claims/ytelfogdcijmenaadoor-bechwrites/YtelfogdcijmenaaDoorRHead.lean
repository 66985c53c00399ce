/- The document's heads. -/
import Derived.Test.YtelfogdcijmenaaDoorEnc
namespace Go.Proofs.YtelfogdcijmenaaDoor
open Go.RowKit

def badB (c : UInt8) : Bool := outB c || capB c
theorem any_bad (h : Bs) : h.any badB = (h.any outB || h.any capB) := by
  induction h with
  | nil => rfl
  | cons c h ih =>
    simp only [List.any_cons, ih, badB]
    cases outB c <;> cases capB c <;> cases h.any outB <;> cases h.any capB <;> rfl
set_option maxRecDepth 100000 in
set_option maxHeartbeats 2000000 in
theorem rhead_any (h : Bs) (w : World) (hm : h.length ≤ 140737488355328) : Calls Tryd.prog 26 #[St h] w fun e w' => e = .returned (.bool (fitB h && !h.any badB)) ∧ w' = w := by
  have hs := st_size h
  obtain ⟨R, hR⟩ : ∃ R, R = (fitB h && !h.any badB) := ⟨_, rfl⟩
  rw [← hR]
  have HR := hid hR
  obtain ⟨n, hn⟩ : ∃ n, n = h.length := ⟨_, rfl⟩
  rw [← hn] at hs hm
  have HN := hid hn
  have HF : Hid (fitB h = (decide ((1 : Int) ≤ n) && decide ((n : Int) ≤ 83))) := hid (by unfold fitB; rw [← hn]; congr 1 <;> (apply decide_eq_decide.2; omega))
  clear hn hR
  go_enter Tryd.func26, Tryd.ntmps26
  go_wp2_with fail
  go_loop [3] (fun v3 => ∃ k : Nat, k ≤ n ∧ v3 = .int .i64 (k : Int) ∧ Hid ((h.take k).any badB = false)) (fun v3 => n - (intOf v3).toNat)
  case atStart => exact ⟨0, by omega, rfl, hid rfl⟩
  case round =>
    obtain ⟨k, hk, rfl, hf⟩ := hrel
    by_cases hkn : k < n
    · have hk1 : (k : Int) < (n : Int) := by omega
      have hks : k < h.length := by rw [← HN.out]; exact hkn
      have HT := hid (any_take_succ badB h k hks)
      have hget : (⟨h.toArray⟩ : ByteArray)[k]'(by rw [hs]; exact hkn) = h[k] := rfl
      rw [hf.out, Bool.false_or] at HT
      generalize h[k] = x at *
      have HBD : Hid (badB x = (decide (x.toNat < 33) || decide (126 < x.toNat) || (decide (65 ≤ x.toNat) && decide (x.toNat ≤ 90)))) := hid rfl
      have hx8 := x.toNat_lt
      clear hf
      by_cases h33 : x.toNat < 33
      · have e1 : (x.toNat : Int) < 33 := by omega
        go_wp2_with fail
        go_ret
        refine ⟨?_, rfl⟩
        rw [HR.out, any_of_take (by rw [HT.out, HBD.out]; simp [h33])]
        simp
      · have e1 : ¬ (x.toNat : Int) < 33 := by omega
        by_cases h126 : 126 < x.toNat
        · have e2 : (126 : Int) < x.toNat := by omega
          go_wp2_with fail
          go_ret
          refine ⟨?_, rfl⟩
          rw [HR.out, any_of_take (by rw [HT.out, HBD.out]; simp [h126])]
          simp
        · have e2 : ¬ (126 : Int) < x.toNat := by omega
          by_cases h65 : 65 ≤ x.toNat
          · have e3 : (65 : Int) ≤ x.toNat := by omega
            by_cases h90 : x.toNat ≤ 90
            · have e4 : (x.toNat : Int) ≤ 90 := by omega
              go_wp2_with fail
              go_ret
              refine ⟨?_, rfl⟩
              rw [HR.out, any_of_take (by rw [HT.out, HBD.out]; simp [h65, h90])]
              simp
            · have e4 : ¬ (x.toNat : Int) ≤ 90 := by omega
              have HX : Hid ((h.take (k + 1)).any badB = false) := hid (by rw [HT.out, HBD.out]; simp [h33, h126, h90])
              go_wp2_with fail
              go_round
              case rel => exact ⟨k + 1, by omega, by go_num, HX⟩
              case measure => simp [intOf]; omega
          · have e3 : ¬ (65 : Int) ≤ x.toNat := by omega
            have HX : Hid ((h.take (k + 1)).any badB = false) := hid (by rw [HT.out, HBD.out]; simp [h33, h126, h65])
            go_wp2_with fail
            go_round
            case rel => exact ⟨k + 1, by omega, by go_num, HX⟩
            case measure => simp [intOf]; omega
    · have hk1 : ¬ (k : Int) < (n : Int) := by omega
      have hf2 := hf.out
      rw [List.take_of_length_le (by rw [← HN.out]; omega)] at hf2
      have HRR : Hid (R = (decide ((1 : Int) ≤ n) && decide ((n : Int) ≤ 83))) := hid (by rw [HR.out, hf2, HF.out]; simp)
      clear hf2 hf HF HR
      by_cases h1 : 1 ≤ n
      · have e1 : (1 : Int) ≤ n := by omega
        by_cases h2 : n ≤ 83
        · have e2 : (n : Int) ≤ 83 := by omega
          go_wp2_with fail
          go_ret
          exact ⟨by rw [HRR.out]; simp; omega, rfl⟩
        · have e2 : ¬ (n : Int) ≤ 83 := by omega
          go_wp2_with fail
          go_ret
          exact ⟨by rw [HRR.out]; simp; omega, rfl⟩
      · have e1 : ¬ (1 : Int) ≤ n := by omega
        go_wp2_with fail
        go_ret
        exact ⟨by rw [HRR.out]; simp; omega, rfl⟩
set_option maxRecDepth 100000 in
set_option maxHeartbeats 2000000 in
theorem rheads_any (h : Bs) (w : World) (hm : h.length ≤ 1000000) : Calls Tryd.prog 27 #[St h] w fun e w' => ∃ ao cap, e = .returned (.slice ao (headW h).length cap) ∧ w'.ownsRow w.heap.size 5 1 (.slice ao (headW h).length cap) (headW h).length (bcs (headW h)) ∧ Below w.heap.size w w' := by
  have hs := st_size h
  obtain ⟨n, hn⟩ : ∃ n, n = h.length := ⟨_, rfl⟩
  rw [← hn] at hs hm
  have HN := hid hn
  have HHL : Hid ((headW h).length = 2 * n + 1) := hid (by rw [head_len, hn])
  rw [HHL.out]
  clear hn
  go_enter Tryd.func27, Tryd.ntmps27
  go_wp2_with fail
  go_loopg [3, 4] n (fun gg v3 v4 wr => ∃ (i : Nat) (a3 : Option Addr) (c3 : Nat), i ≤ n ∧ gg = n - i ∧ v4 = .int .i64 (i : Int) ∧ v3 = .slice a3 i c3 ∧ wr.ownsRow w.heap.size 5 1 (.slice a3 i c3) i (bcs ((h.take i).map hiC)) ∧ Below w.heap.size w wr)
  case atStart => exact ⟨0, none, 0, by omega, by omega, rfl, rfl, own_none _ _, Below.refl _ _⟩
  case round =>
    obtain ⟨i, a3, c3, hi, rfl, rfl, rfl, ho3, hbel⟩ := hrel
    by_cases hin : i < n
    · have hi1 : (i : Int) < (n : Int) := by omega
      have hih : i < h.length := by rw [← HN.out]; exact hin
      have HMH := hid (map_take_succ hiC h i hih)
      have hget : (⟨h.toArray⟩ : ByteArray)[i]'(by rw [hs]; exact hin) = h[i] := rfl
      generalize h[i] = x at *
      have hil : i = ((h.take i).map hiC).length := by simp; omega
      obtain ⟨a5, c5, w5, hr5, ho5, hg5, hp5⟩ := append_one ho3 (hiC x) _ (hiC_int x) hil (by omega) hbel.size
      have HB5 := hid (one_below hbel ho3 hg5 hbel.size)
      have HO5 := hid ho5
      have HR5 := hid hr5
      clear ho3 hbel hr5 ho5 hg5 hp5 hil
      go_wp2_with (first | (at_builtin; refine wpList_append_run rfl _ _ 22 rfl _ _ (.slice a5 (i + 1) c5) w5 rfl rfl HR5.out ?_) | fail)
      go_roundg (n - (i + 1))
      case measure => omega
      case rel => exact ⟨i + 1, a5, c5, by omega, rfl, by go_num, rfl, by rw [HMH.out]; exact HO5.out, HB5.out⟩
    · have hi1 : ¬ (i : Int) < (n : Int) := by omega
      have hin' : i = n := by omega
      subst hin'
      rw [List.take_of_length_le (by rw [← HN.out]; omega)] at ho3
      obtain ⟨a5, c5, w5, hr5, ho5, hg5, hp5⟩ := append_one ho3 0 0 rfl (by simp [← HN.out]) (by omega) hbel.size
      have HB5 := hid (one_below hbel ho3 hg5 hbel.size)
      have HO5 := hid ho5
      have HR5 := hid hr5
      obtain ⟨wx, rfl⟩ : ∃ wx, wx = wr := ⟨_, rfl⟩
      clear ho3 hbel hr5 ho5 hg5 hp5
      go_wp2_with (first | (at_builtin; refine wpList_append_run rfl _ _ 22 rfl _ _ (.slice a5 (i + 1) c5) w5 rfl rfl HR5.out ?_) | fail)
      clear HR5
      go_loopg [3, 5] i (fun gg v3 v5 wr => ∃ (j : Nat) (a3 : Option Addr) (c3 : Nat), j ≤ i ∧ gg = i - j ∧ v5 = .int .i64 (j : Int) ∧ v3 = .slice a3 (i + 1 + j) c3 ∧ wr.ownsRow w.heap.size 5 1 (.slice a3 (i + 1 + j) c3) (i + 1 + j) (bcs ((h.map hiC ++ [0]) ++ (h.take j).map loC)) ∧ Below w.heap.size w wr)
      case atStart => exact ⟨0, a5, c5, by omega, by omega, rfl, rfl, by simpa using HO5.out, HB5.out⟩
      case round =>
        obtain ⟨j, a3, c3, hj, rfl, rfl, rfl, ho3, hbel⟩ := hrel
        clear HO5 HB5
        by_cases hjn : j < i
        · have hj1 : (j : Int) < (i : Int) := by omega
          have hjh : j < h.length := by rw [← HN.out]; exact hjn
          have HMH := hid (map_take_succ loC h j hjh)
          have hget : (⟨h.toArray⟩ : ByteArray)[j]'(by rw [hs]; exact hjn) = h[j] := rfl
          generalize h[j] = x at *
          have hand := and31 x
          have hil : i + 1 + j = ((h.map hiC ++ [0]) ++ (h.take j).map loC).length := by simp [← HN.out]; omega
          obtain ⟨a6, c6, w6, hr6, ho6, hg6, hp6⟩ := append_one ho3 (loC x) _ (loC_int x) hil (by omega) hbel.size
          have HB6 := hid (one_below hbel ho3 hg6 hbel.size)
          have HO6 := hid ho6
          have HR6 := hid hr6
          clear ho3 hbel hr6 ho6 hg6 hp6 hil
          go_wp2_with (first | (at_builtin; refine wpList_append_run rfl _ _ 22 rfl _ _ (.slice a6 (i + 1 + j + 1) c6) w6 rfl rfl HR6.out ?_) | fail)
          go_roundg (i - (j + 1))
          case measure => omega
          case rel => exact ⟨j + 1, a6, c6, by omega, rfl, by go_num, rfl, by rw [HMH.out, ← List.append_assoc]; exact HO6.out, HB6.out⟩
        · have hj1 : ¬ (j : Int) < (i : Int) := by omega
          have hjn' : j = i := by omega
          subst hjn'
          rw [List.take_of_length_le (by rw [← HN.out]; omega)] at ho3
          have HO3 := hid ho3
          have HBE := hid hbel
          clear ho3 hbel
          have e9 : j + 1 + j = 2 * j + 1 := by omega
          rw [e9] at HO3 ⊢
          go_wp2_with fail
          go_ret
          refine ⟨a3, c3, rfl, ?_, HBE.out⟩
          have h9 := HO3.out
          have : (h.map hiC ++ [0]) ++ h.map loC = headW h := by unfold headW; simp
          rw [this] at h9
          exact h9
end Go.Proofs.YtelfogdcijmenaaDoor
