/- Numbers, the document's side. -/
import Derived.Test.YtcmbijckhcckpaaGet
namespace Go.Proofs.Ytcmbijckhcckpaa
open Go.RowKit

/-- one byte more, that was just laid -/
theorem append_byte {w : World} {base : Nat} {v : Value} {xs : Bs} (c : Nat) (z : Int) (hz : z = ((UInt8.ofNat c).toNat : Int)) (hown : w.ownsRow base 5 1 v xs.length (bcs xs)) (hb : xs.length + 1 ≤ 140737488355328) (hbase : base ≤ w.heap.size) :
    ∃ ao cap w', (∀ ty, (Builtin.append_ #[23, 23] ty #[v, .slice (some ⟨w.heap.size, 0, none⟩) 1 1]).run Try.prog (w.alloc (.cells #[.int .u8 z] 5)) = .ok (.slice ao (xs.length + 1) cap) w') ∧ w'.ownsRow base 5 1 (.slice ao (xs.length + 1) cap) (xs ++ [UInt8.ofNat c]).length (bcs (xs ++ [UInt8.ofNat c])) ∧ w.grownBy w' v.ownBlock := by
  subst hz
  have hs := sl_new w [UInt8.ofNat c]
  obtain ⟨ao, cap, w', h1, h2, h3⟩ := append_bytes (hown.alloc _) hs (by simpa using hb) (by simp; omega)
  refine ⟨ao, cap, w', fun ty => by simpa [Lib.byteCells] using h1 ty, by simpa using h2, ⟨h3.os, h3.tape, h3.output, ?_, fun k hk hne => ?_⟩⟩
  · have := h3.size; simp at this; omega
  · rw [h3.block k (by simp; omega) hne]; exact Below.heap_alloc w _ k hk
theorem below_own {w0 w w' : World} {e : TypeId} {size : Nat} {v : Value} {n : Nat} {xs : List Value} (hb : Below w0.heap.size w0 w) (ho : w.ownsRow w0.heap.size e size v n xs) (hg : w.grownBy w' v.ownBlock) : Below w0.heap.size w0 w' := by
  have hs := hb.size
  refine ⟨hg.os.trans hb.os, hg.tape.trans hb.tape, hg.output.trans hb.output, Nat.le_trans hs hg.size, fun k hk => ?_⟩
  rw [hg.block k (by omega) (fun e => by have := (ho.lt k e.symm).1; omega)]
  exact hb.block k hk
theorem be_take (n K j : Nat) (h : j < K) : (be K n).take (j + 1) = (be K n).take j ++ [UInt8.ofNat (n / 256 ^ (K - 1 - j))] := by
  induction K generalizing j with
  | zero => omega
  | succ K ih =>
    cases j with
    | zero => simp [be]
    | succ j =>
      rw [be, List.take_succ_cons, List.take_succ_cons, ih j (by omega), List.cons_append]
      rw [show K + 1 - 1 - (j + 1) = K - 1 - j by omega]

set_option maxRecDepth 100000 in
set_option maxHeartbeats 2000000 in
theorem rput_0 (w : World) (n : Nat) (hn : n < 18446744073709551616) (h0 : n < 253) :
    Calls Try.prog 13 #[.int .u64 (n : Int)] w fun e w' => ∃ ao cap, e = .returned (.slice ao 1 cap) ∧ w'.ownsRow w.heap.size 5 1 (.slice ao 1 cap) 1 (bcs ([] ++ be 1 n)) ∧ Below w.heap.size w w' := by
  have a : (n : Int) < 253 := by omega
  have hN : (n : Int) < 18446744073709551616 := by omega
  have hN0 : 0 ≤ (n : Int) := by omega
  clear h0 hn
  have HOWN := hid (World.ownsRow_nil w w.heap.size 5 1)
  have HB1 := hid (Below.refl w.heap.size w)
  generalize hm : (n : Int) = m at *
  have HM := hid hm
  clear hm

  go_enter Try.func13, Try.ntmps13
  go_wp2_with fail
  go_loopg [5, 6] 1 (fun gg v5 v6 wr => ∃ (j : Nat) (ao : Option Addr) (cap : Nat), j ≤ 1 ∧ gg = 1 - j ∧ v6 = .int .i64 ((0 : Int) - (j : Int)) ∧ v5 = .slice ao (0 + j) cap ∧ wr.ownsRow w.heap.size 5 1 (.slice ao (0 + j) cap) ([] ++ (be 1 n).take j).length (bcs ([] ++ (be 1 n).take j)) ∧ Below w.heap.size w wr)
  case atStart => exact ⟨0, none, 0, by omega, by omega, rfl, rfl, HOWN.out, HB1.out⟩
  case round =>
    obtain ⟨j, ao, cap, hj, rfl, rfl, rfl, hown, hbel⟩ := hrel
    have HO := hid hown
    have HBE := hid hbel
    have HSZ := hid hbel.size
    clear hown hbel HOWN HB1 hN hN0 a
    by_cases hjK : j < 1
    · have hjj : j = 0 := by omega
      clear hj hjK
      rcases hjj with rfl
      · have HT : Hid ([] ++ (be 1 n).take 1 = ([] ++ (be 1 n).take 0) ++ [UInt8.ofNat (n / 1)]) := hid (by rw [be_take n 1 0 (by decide), List.append_assoc] <;> rfl)
        have hle : ([] ++ (be 1 n).take 0).length = 0 + 0 := by simp
        obtain ⟨ao2, cap2, w2, hrun, hown, hg⟩ := append_byte (n / 1) (m % 256) (by rw [Nat.div_one, bv0, HM.out]) HO.out (by rw [hle]; decide) HSZ.out
        have HRUN2 := hid hrun
        have HOW2 := hid hown
        have HB2 := hid (below_own HBE.out HO.out hg)
        rw [hle] at HRUN2 HOW2
        clear hrun hown hg hle
        go_wp2_with (first | (at_builtin; refine wpList_append_run rfl (.tmp 28) (.tmp 34) 23 rfl (.slice ao (0 + 0) cap) (.slice (some ⟨wr.heap.size, 0, none⟩) 1 1) (.slice ao2 (0 + 0 + 1) cap2) w2 rfl rfl HRUN2.out ?_) | fail)
        go_roundg (1 - 1)
        case measure => omega
        case rel => exact ⟨1, ao2, cap2, by omega, rfl, by go_num, rfl, by rw [HT.out]; exact HOW2.out, HB2.out⟩
    · have e : j = 1 := by omega
      subst e
      have hle : ([] ++ (be 1 n).take 1).length = 0 + 1 := by simp [be_len]
      have htk : (be 1 n).take 1 = be 1 n := List.take_of_length_le (by rw [be_len]; exact Nat.le_refl _)
      have HO2 := hid HO.out
      rw [hle, htk] at HO2
      clear hle htk hj hjK HO
      go_wp2_with fail
      go_ret
      exact ⟨ao, cap, rfl, HO2.out, HBE.out⟩

set_option maxRecDepth 100000 in
set_option maxHeartbeats 2000000 in
theorem rput_1 (w : World) (n : Nat) (hn : n < 18446744073709551616) (h0 : ¬ n < 253) (h1 : n < 65536) :
    Calls Try.prog 13 #[.int .u64 (n : Int)] w fun e w' => ∃ ao cap, e = .returned (.slice ao 3 cap) ∧ w'.ownsRow w.heap.size 5 1 (.slice ao 3 cap) 3 (bcs ([UInt8.ofNat 253] ++ be 2 n)) ∧ Below w.heap.size w w' := by
  have a : ¬ (n : Int) < 253 := by omega
  have b : (n : Int) < 65536 := by omega
  have hN : (n : Int) < 18446744073709551616 := by omega
  have hN0 : 0 ≤ (n : Int) := by omega
  clear h0 h1 hn
  obtain ⟨ao1, cap1, w1, hrun, hown, hg⟩ := append_byte (xs := []) 253 253 (by decide) (World.ownsRow_nil w w.heap.size 5 1) (by simp) (Nat.le_refl _)
  have HRUN := hid hrun
  have HOWN := hid hown
  have HB1 := hid (below_own (Below.refl _ w) (World.ownsRow_nil w w.heap.size 5 1) hg)
  clear hrun hown hg
  generalize hm : (n : Int) = m at *
  have HM := hid hm
  clear hm
  have HLT := hid b
  go_enter Try.func13, Try.ntmps13
  go_wp2_with (first | (at_builtin; refine wpList_append_run rfl (.tmp 18) (.tmp 20) 23 rfl (.slice none 0 0) (.slice (some ⟨w.heap.size, 0, none⟩) 1 1) (.slice ao1 1 cap1) w1 rfl rfl HRUN.out ?_) | fail)
  go_loopg [5, 6] 2 (fun gg v5 v6 wr => ∃ (j : Nat) (ao : Option Addr) (cap : Nat), j ≤ 2 ∧ gg = 2 - j ∧ v6 = .int .i64 ((1 : Int) - (j : Int)) ∧ v5 = .slice ao (1 + j) cap ∧ wr.ownsRow w.heap.size 5 1 (.slice ao (1 + j) cap) ([UInt8.ofNat 253] ++ (be 2 n).take j).length (bcs ([UInt8.ofNat 253] ++ (be 2 n).take j)) ∧ Below w.heap.size w wr)
  case atStart => exact ⟨0, ao1, cap1, by omega, by omega, rfl, rfl, HOWN.out, HB1.out⟩
  case round =>
    obtain ⟨j, ao, cap, hj, rfl, rfl, rfl, hown, hbel⟩ := hrel
    have HO := hid hown
    have HBE := hid hbel
    have HSZ := hid hbel.size
    clear hown hbel HOWN HB1 hN hN0 a b
    by_cases hjK : j < 2
    · have hjj : j = 0 ∨ j = 1 := by omega
      clear hj hjK
      rcases hjj with rfl | rfl
      · have HT : Hid ([UInt8.ofNat 253] ++ (be 2 n).take 1 = ([UInt8.ofNat 253] ++ (be 2 n).take 0) ++ [UInt8.ofNat (n / 256)]) := hid (by rw [be_take n 2 0 (by decide), List.append_assoc] <;> rfl)
        have hle : ([UInt8.ofNat 253] ++ (be 2 n).take 0).length = 1 + 0 := by simp
        obtain ⟨ao2, cap2, w2, hrun, hown, hg⟩ := append_byte (n / 256) (m / 256) (by have h9 := HLT.out; rw [bv, HM.out]; show m / 256 = m / 256 % 256; omega) HO.out (by rw [hle]; decide) HSZ.out
        have HRUN2 := hid hrun
        have HOW2 := hid hown
        have HB2 := hid (below_own HBE.out HO.out hg)
        rw [hle] at HRUN2 HOW2
        clear hrun hown hg hle
        go_wp2_with (first | (at_builtin; refine wpList_append_run rfl (.tmp 28) (.tmp 34) 23 rfl (.slice ao (1 + 0) cap) (.slice (some ⟨wr.heap.size, 0, none⟩) 1 1) (.slice ao2 (1 + 0 + 1) cap2) w2 rfl rfl HRUN2.out ?_) | fail)
        go_roundg (2 - 1)
        case measure => omega
        case rel => exact ⟨1, ao2, cap2, by omega, rfl, by go_num, rfl, by rw [HT.out]; exact HOW2.out, HB2.out⟩
      · have HT : Hid ([UInt8.ofNat 253] ++ (be 2 n).take 2 = ([UInt8.ofNat 253] ++ (be 2 n).take 1) ++ [UInt8.ofNat (n / 1)]) := hid (by rw [be_take n 2 1 (by decide), List.append_assoc] <;> rfl)
        have hle : ([UInt8.ofNat 253] ++ (be 2 n).take 1).length = 1 + 1 := by simp [be_len]
        obtain ⟨ao2, cap2, w2, hrun, hown, hg⟩ := append_byte (n / 1) (m % 256) (by rw [Nat.div_one, bv0, HM.out]) HO.out (by rw [hle]; decide) HSZ.out
        have HRUN2 := hid hrun
        have HOW2 := hid hown
        have HB2 := hid (below_own HBE.out HO.out hg)
        rw [hle] at HRUN2 HOW2
        clear hrun hown hg hle
        go_wp2_with (first | (at_builtin; refine wpList_append_run rfl (.tmp 28) (.tmp 34) 23 rfl (.slice ao (1 + 1) cap) (.slice (some ⟨wr.heap.size, 0, none⟩) 1 1) (.slice ao2 (1 + 1 + 1) cap2) w2 rfl rfl HRUN2.out ?_) | fail)
        go_roundg (2 - 2)
        case measure => omega
        case rel => exact ⟨2, ao2, cap2, by omega, rfl, by go_num, rfl, by rw [HT.out]; exact HOW2.out, HB2.out⟩
    · have e : j = 2 := by omega
      subst e
      have hle : ([UInt8.ofNat 253] ++ (be 2 n).take 2).length = 1 + 2 := by simp [be_len]
      have htk : (be 2 n).take 2 = be 2 n := List.take_of_length_le (by rw [be_len]; exact Nat.le_refl _)
      have HO2 := hid HO.out
      rw [hle, htk] at HO2
      clear hle htk hj hjK HO
      go_wp2_with fail
      go_ret
      exact ⟨ao, cap, rfl, HO2.out, HBE.out⟩

set_option maxRecDepth 100000 in
set_option maxHeartbeats 2000000 in
theorem rput_2 (w : World) (n : Nat) (hn : n < 18446744073709551616) (h0 : ¬ n < 65536) (h1 : n < 4294967296) :
    Calls Try.prog 13 #[.int .u64 (n : Int)] w fun e w' => ∃ ao cap, e = .returned (.slice ao 5 cap) ∧ w'.ownsRow w.heap.size 5 1 (.slice ao 5 cap) 5 (bcs ([UInt8.ofNat 254] ++ be 4 n)) ∧ Below w.heap.size w w' := by
  have a : ¬ (n : Int) < 65536 := by omega
  have b : (n : Int) < 4294967296 := by omega
  have hN : (n : Int) < 18446744073709551616 := by omega
  have hN0 : 0 ≤ (n : Int) := by omega
  clear h0 h1 hn
  obtain ⟨ao1, cap1, w1, hrun, hown, hg⟩ := append_byte (xs := []) 254 254 (by decide) (World.ownsRow_nil w w.heap.size 5 1) (by simp) (Nat.le_refl _)
  have HRUN := hid hrun
  have HOWN := hid hown
  have HB1 := hid (below_own (Below.refl _ w) (World.ownsRow_nil w w.heap.size 5 1) hg)
  clear hrun hown hg
  generalize hm : (n : Int) = m at *
  have HM := hid hm
  clear hm
  have HLT := hid b
  go_enter Try.func13, Try.ntmps13
  go_wp2_with (first | (at_builtin; refine wpList_append_run rfl (.tmp 18) (.tmp 20) 23 rfl (.slice none 0 0) (.slice (some ⟨w.heap.size, 0, none⟩) 1 1) (.slice ao1 1 cap1) w1 rfl rfl HRUN.out ?_) | fail)
  go_loopg [5, 6] 4 (fun gg v5 v6 wr => ∃ (j : Nat) (ao : Option Addr) (cap : Nat), j ≤ 4 ∧ gg = 4 - j ∧ v6 = .int .i64 ((3 : Int) - (j : Int)) ∧ v5 = .slice ao (1 + j) cap ∧ wr.ownsRow w.heap.size 5 1 (.slice ao (1 + j) cap) ([UInt8.ofNat 254] ++ (be 4 n).take j).length (bcs ([UInt8.ofNat 254] ++ (be 4 n).take j)) ∧ Below w.heap.size w wr)
  case atStart => exact ⟨0, ao1, cap1, by omega, by omega, rfl, rfl, HOWN.out, HB1.out⟩
  case round =>
    obtain ⟨j, ao, cap, hj, rfl, rfl, rfl, hown, hbel⟩ := hrel
    have HO := hid hown
    have HBE := hid hbel
    have HSZ := hid hbel.size
    clear hown hbel HOWN HB1 hN hN0 a b
    by_cases hjK : j < 4
    · have hjj : j = 0 ∨ j = 1 ∨ j = 2 ∨ j = 3 := by omega
      clear hj hjK
      rcases hjj with rfl | rfl | rfl | rfl
      · have HT : Hid ([UInt8.ofNat 254] ++ (be 4 n).take 1 = ([UInt8.ofNat 254] ++ (be 4 n).take 0) ++ [UInt8.ofNat (n / 16777216)]) := hid (by rw [be_take n 4 0 (by decide), List.append_assoc] <;> rfl)
        have hle : ([UInt8.ofNat 254] ++ (be 4 n).take 0).length = 1 + 0 := by simp
        obtain ⟨ao2, cap2, w2, hrun, hown, hg⟩ := append_byte (n / 16777216) (m / 16777216) (by have h9 := HLT.out; rw [bv, HM.out]; show m / 16777216 = m / 16777216 % 256; omega) HO.out (by rw [hle]; decide) HSZ.out
        have HRUN2 := hid hrun
        have HOW2 := hid hown
        have HB2 := hid (below_own HBE.out HO.out hg)
        rw [hle] at HRUN2 HOW2
        clear hrun hown hg hle
        go_wp2_with (first | (at_builtin; refine wpList_append_run rfl (.tmp 28) (.tmp 34) 23 rfl (.slice ao (1 + 0) cap) (.slice (some ⟨wr.heap.size, 0, none⟩) 1 1) (.slice ao2 (1 + 0 + 1) cap2) w2 rfl rfl HRUN2.out ?_) | fail)
        go_roundg (4 - 1)
        case measure => omega
        case rel => exact ⟨1, ao2, cap2, by omega, rfl, by go_num, rfl, by rw [HT.out]; exact HOW2.out, HB2.out⟩
      · have HT : Hid ([UInt8.ofNat 254] ++ (be 4 n).take 2 = ([UInt8.ofNat 254] ++ (be 4 n).take 1) ++ [UInt8.ofNat (n / 65536)]) := hid (by rw [be_take n 4 1 (by decide), List.append_assoc] <;> rfl)
        have hle : ([UInt8.ofNat 254] ++ (be 4 n).take 1).length = 1 + 1 := by simp [be_len]
        obtain ⟨ao2, cap2, w2, hrun, hown, hg⟩ := append_byte (n / 65536) (m / 65536 % 256) (by rw [bv, HM.out]; rfl) HO.out (by rw [hle]; decide) HSZ.out
        have HRUN2 := hid hrun
        have HOW2 := hid hown
        have HB2 := hid (below_own HBE.out HO.out hg)
        rw [hle] at HRUN2 HOW2
        clear hrun hown hg hle
        go_wp2_with (first | (at_builtin; refine wpList_append_run rfl (.tmp 28) (.tmp 34) 23 rfl (.slice ao (1 + 1) cap) (.slice (some ⟨wr.heap.size, 0, none⟩) 1 1) (.slice ao2 (1 + 1 + 1) cap2) w2 rfl rfl HRUN2.out ?_) | fail)
        go_roundg (4 - 2)
        case measure => omega
        case rel => exact ⟨2, ao2, cap2, by omega, rfl, by go_num, rfl, by rw [HT.out]; exact HOW2.out, HB2.out⟩
      · have HT : Hid ([UInt8.ofNat 254] ++ (be 4 n).take 3 = ([UInt8.ofNat 254] ++ (be 4 n).take 2) ++ [UInt8.ofNat (n / 256)]) := hid (by rw [be_take n 4 2 (by decide), List.append_assoc] <;> rfl)
        have hle : ([UInt8.ofNat 254] ++ (be 4 n).take 2).length = 1 + 2 := by simp [be_len]
        obtain ⟨ao2, cap2, w2, hrun, hown, hg⟩ := append_byte (n / 256) (m / 256 % 256) (by rw [bv, HM.out]; rfl) HO.out (by rw [hle]; decide) HSZ.out
        have HRUN2 := hid hrun
        have HOW2 := hid hown
        have HB2 := hid (below_own HBE.out HO.out hg)
        rw [hle] at HRUN2 HOW2
        clear hrun hown hg hle
        go_wp2_with (first | (at_builtin; refine wpList_append_run rfl (.tmp 28) (.tmp 34) 23 rfl (.slice ao (1 + 2) cap) (.slice (some ⟨wr.heap.size, 0, none⟩) 1 1) (.slice ao2 (1 + 2 + 1) cap2) w2 rfl rfl HRUN2.out ?_) | fail)
        go_roundg (4 - 3)
        case measure => omega
        case rel => exact ⟨3, ao2, cap2, by omega, rfl, by go_num, rfl, by rw [HT.out]; exact HOW2.out, HB2.out⟩
      · have HT : Hid ([UInt8.ofNat 254] ++ (be 4 n).take 4 = ([UInt8.ofNat 254] ++ (be 4 n).take 3) ++ [UInt8.ofNat (n / 1)]) := hid (by rw [be_take n 4 3 (by decide), List.append_assoc] <;> rfl)
        have hle : ([UInt8.ofNat 254] ++ (be 4 n).take 3).length = 1 + 3 := by simp [be_len]
        obtain ⟨ao2, cap2, w2, hrun, hown, hg⟩ := append_byte (n / 1) (m % 256) (by rw [Nat.div_one, bv0, HM.out]) HO.out (by rw [hle]; decide) HSZ.out
        have HRUN2 := hid hrun
        have HOW2 := hid hown
        have HB2 := hid (below_own HBE.out HO.out hg)
        rw [hle] at HRUN2 HOW2
        clear hrun hown hg hle
        go_wp2_with (first | (at_builtin; refine wpList_append_run rfl (.tmp 28) (.tmp 34) 23 rfl (.slice ao (1 + 3) cap) (.slice (some ⟨wr.heap.size, 0, none⟩) 1 1) (.slice ao2 (1 + 3 + 1) cap2) w2 rfl rfl HRUN2.out ?_) | fail)
        go_roundg (4 - 4)
        case measure => omega
        case rel => exact ⟨4, ao2, cap2, by omega, rfl, by go_num, rfl, by rw [HT.out]; exact HOW2.out, HB2.out⟩
    · have e : j = 4 := by omega
      subst e
      have hle : ([UInt8.ofNat 254] ++ (be 4 n).take 4).length = 1 + 4 := by simp [be_len]
      have htk : (be 4 n).take 4 = be 4 n := List.take_of_length_le (by rw [be_len]; exact Nat.le_refl _)
      have HO2 := hid HO.out
      rw [hle, htk] at HO2
      clear hle htk hj hjK HO
      go_wp2_with fail
      go_ret
      exact ⟨ao, cap, rfl, HO2.out, HBE.out⟩

set_option maxRecDepth 100000 in
set_option maxHeartbeats 2000000 in
theorem rput_3 (w : World) (n : Nat) (hn : n < 18446744073709551616) (h0 : ¬ n < 4294967296) :
    Calls Try.prog 13 #[.int .u64 (n : Int)] w fun e w' => ∃ ao cap, e = .returned (.slice ao 9 cap) ∧ w'.ownsRow w.heap.size 5 1 (.slice ao 9 cap) 9 (bcs ([UInt8.ofNat 255] ++ be 8 n)) ∧ Below w.heap.size w w' := by
  have a : ¬ (n : Int) < 4294967296 := by omega
  have hN : (n : Int) < 18446744073709551616 := by omega
  have hN0 : 0 ≤ (n : Int) := by omega
  clear h0 hn
  obtain ⟨ao1, cap1, w1, hrun, hown, hg⟩ := append_byte (xs := []) 255 255 (by decide) (World.ownsRow_nil w w.heap.size 5 1) (by simp) (Nat.le_refl _)
  have HRUN := hid hrun
  have HOWN := hid hown
  have HB1 := hid (below_own (Below.refl _ w) (World.ownsRow_nil w w.heap.size 5 1) hg)
  clear hrun hown hg
  generalize hm : (n : Int) = m at *
  have HM := hid hm
  clear hm

  go_enter Try.func13, Try.ntmps13
  go_wp2_with (first | (at_builtin; refine wpList_append_run rfl (.tmp 18) (.tmp 20) 23 rfl (.slice none 0 0) (.slice (some ⟨w.heap.size, 0, none⟩) 1 1) (.slice ao1 1 cap1) w1 rfl rfl HRUN.out ?_) | fail)
  go_loopg [5, 6] 8 (fun gg v5 v6 wr => ∃ (j : Nat) (ao : Option Addr) (cap : Nat), j ≤ 8 ∧ gg = 8 - j ∧ v6 = .int .i64 ((7 : Int) - (j : Int)) ∧ v5 = .slice ao (1 + j) cap ∧ wr.ownsRow w.heap.size 5 1 (.slice ao (1 + j) cap) ([UInt8.ofNat 255] ++ (be 8 n).take j).length (bcs ([UInt8.ofNat 255] ++ (be 8 n).take j)) ∧ Below w.heap.size w wr)
  case atStart => exact ⟨0, ao1, cap1, by omega, by omega, rfl, rfl, HOWN.out, HB1.out⟩
  case round =>
    obtain ⟨j, ao, cap, hj, rfl, rfl, rfl, hown, hbel⟩ := hrel
    have HO := hid hown
    have HBE := hid hbel
    have HSZ := hid hbel.size
    clear hown hbel HOWN HB1 hN hN0 a
    by_cases hjK : j < 8
    · have hjj : j = 0 ∨ j = 1 ∨ j = 2 ∨ j = 3 ∨ j = 4 ∨ j = 5 ∨ j = 6 ∨ j = 7 := by omega
      clear hj hjK
      rcases hjj with rfl | rfl | rfl | rfl | rfl | rfl | rfl | rfl
      · have HT : Hid ([UInt8.ofNat 255] ++ (be 8 n).take 1 = ([UInt8.ofNat 255] ++ (be 8 n).take 0) ++ [UInt8.ofNat (n / 72057594037927936)]) := hid (by rw [be_take n 8 0 (by decide), List.append_assoc] <;> rfl)
        have hle : ([UInt8.ofNat 255] ++ (be 8 n).take 0).length = 1 + 0 := by simp
        obtain ⟨ao2, cap2, w2, hrun, hown, hg⟩ := append_byte (n / 72057594037927936) (m / 72057594037927936 % 256) (by rw [bv, HM.out]; rfl) HO.out (by rw [hle]; decide) HSZ.out
        have HRUN2 := hid hrun
        have HOW2 := hid hown
        have HB2 := hid (below_own HBE.out HO.out hg)
        rw [hle] at HRUN2 HOW2
        clear hrun hown hg hle
        go_wp2_with (first | (at_builtin; refine wpList_append_run rfl (.tmp 28) (.tmp 34) 23 rfl (.slice ao (1 + 0) cap) (.slice (some ⟨wr.heap.size, 0, none⟩) 1 1) (.slice ao2 (1 + 0 + 1) cap2) w2 rfl rfl HRUN2.out ?_) | fail)
        go_roundg (8 - 1)
        case measure => omega
        case rel => exact ⟨1, ao2, cap2, by omega, rfl, by go_num, rfl, by rw [HT.out]; exact HOW2.out, HB2.out⟩
      · have HT : Hid ([UInt8.ofNat 255] ++ (be 8 n).take 2 = ([UInt8.ofNat 255] ++ (be 8 n).take 1) ++ [UInt8.ofNat (n / 281474976710656)]) := hid (by rw [be_take n 8 1 (by decide), List.append_assoc] <;> rfl)
        have hle : ([UInt8.ofNat 255] ++ (be 8 n).take 1).length = 1 + 1 := by simp [be_len]
        obtain ⟨ao2, cap2, w2, hrun, hown, hg⟩ := append_byte (n / 281474976710656) (m / 281474976710656 % 256) (by rw [bv, HM.out]; rfl) HO.out (by rw [hle]; decide) HSZ.out
        have HRUN2 := hid hrun
        have HOW2 := hid hown
        have HB2 := hid (below_own HBE.out HO.out hg)
        rw [hle] at HRUN2 HOW2
        clear hrun hown hg hle
        go_wp2_with (first | (at_builtin; refine wpList_append_run rfl (.tmp 28) (.tmp 34) 23 rfl (.slice ao (1 + 1) cap) (.slice (some ⟨wr.heap.size, 0, none⟩) 1 1) (.slice ao2 (1 + 1 + 1) cap2) w2 rfl rfl HRUN2.out ?_) | fail)
        go_roundg (8 - 2)
        case measure => omega
        case rel => exact ⟨2, ao2, cap2, by omega, rfl, by go_num, rfl, by rw [HT.out]; exact HOW2.out, HB2.out⟩
      · have HT : Hid ([UInt8.ofNat 255] ++ (be 8 n).take 3 = ([UInt8.ofNat 255] ++ (be 8 n).take 2) ++ [UInt8.ofNat (n / 1099511627776)]) := hid (by rw [be_take n 8 2 (by decide), List.append_assoc] <;> rfl)
        have hle : ([UInt8.ofNat 255] ++ (be 8 n).take 2).length = 1 + 2 := by simp [be_len]
        obtain ⟨ao2, cap2, w2, hrun, hown, hg⟩ := append_byte (n / 1099511627776) (m / 1099511627776 % 256) (by rw [bv, HM.out]; rfl) HO.out (by rw [hle]; decide) HSZ.out
        have HRUN2 := hid hrun
        have HOW2 := hid hown
        have HB2 := hid (below_own HBE.out HO.out hg)
        rw [hle] at HRUN2 HOW2
        clear hrun hown hg hle
        go_wp2_with (first | (at_builtin; refine wpList_append_run rfl (.tmp 28) (.tmp 34) 23 rfl (.slice ao (1 + 2) cap) (.slice (some ⟨wr.heap.size, 0, none⟩) 1 1) (.slice ao2 (1 + 2 + 1) cap2) w2 rfl rfl HRUN2.out ?_) | fail)
        go_roundg (8 - 3)
        case measure => omega
        case rel => exact ⟨3, ao2, cap2, by omega, rfl, by go_num, rfl, by rw [HT.out]; exact HOW2.out, HB2.out⟩
      · have HT : Hid ([UInt8.ofNat 255] ++ (be 8 n).take 4 = ([UInt8.ofNat 255] ++ (be 8 n).take 3) ++ [UInt8.ofNat (n / 4294967296)]) := hid (by rw [be_take n 8 3 (by decide), List.append_assoc] <;> rfl)
        have hle : ([UInt8.ofNat 255] ++ (be 8 n).take 3).length = 1 + 3 := by simp [be_len]
        obtain ⟨ao2, cap2, w2, hrun, hown, hg⟩ := append_byte (n / 4294967296) (m / 4294967296 % 256) (by rw [bv, HM.out]; rfl) HO.out (by rw [hle]; decide) HSZ.out
        have HRUN2 := hid hrun
        have HOW2 := hid hown
        have HB2 := hid (below_own HBE.out HO.out hg)
        rw [hle] at HRUN2 HOW2
        clear hrun hown hg hle
        go_wp2_with (first | (at_builtin; refine wpList_append_run rfl (.tmp 28) (.tmp 34) 23 rfl (.slice ao (1 + 3) cap) (.slice (some ⟨wr.heap.size, 0, none⟩) 1 1) (.slice ao2 (1 + 3 + 1) cap2) w2 rfl rfl HRUN2.out ?_) | fail)
        go_roundg (8 - 4)
        case measure => omega
        case rel => exact ⟨4, ao2, cap2, by omega, rfl, by go_num, rfl, by rw [HT.out]; exact HOW2.out, HB2.out⟩
      · have HT : Hid ([UInt8.ofNat 255] ++ (be 8 n).take 5 = ([UInt8.ofNat 255] ++ (be 8 n).take 4) ++ [UInt8.ofNat (n / 16777216)]) := hid (by rw [be_take n 8 4 (by decide), List.append_assoc] <;> rfl)
        have hle : ([UInt8.ofNat 255] ++ (be 8 n).take 4).length = 1 + 4 := by simp [be_len]
        obtain ⟨ao2, cap2, w2, hrun, hown, hg⟩ := append_byte (n / 16777216) (m / 16777216 % 256) (by rw [bv, HM.out]; rfl) HO.out (by rw [hle]; decide) HSZ.out
        have HRUN2 := hid hrun
        have HOW2 := hid hown
        have HB2 := hid (below_own HBE.out HO.out hg)
        rw [hle] at HRUN2 HOW2
        clear hrun hown hg hle
        go_wp2_with (first | (at_builtin; refine wpList_append_run rfl (.tmp 28) (.tmp 34) 23 rfl (.slice ao (1 + 4) cap) (.slice (some ⟨wr.heap.size, 0, none⟩) 1 1) (.slice ao2 (1 + 4 + 1) cap2) w2 rfl rfl HRUN2.out ?_) | fail)
        go_roundg (8 - 5)
        case measure => omega
        case rel => exact ⟨5, ao2, cap2, by omega, rfl, by go_num, rfl, by rw [HT.out]; exact HOW2.out, HB2.out⟩
      · have HT : Hid ([UInt8.ofNat 255] ++ (be 8 n).take 6 = ([UInt8.ofNat 255] ++ (be 8 n).take 5) ++ [UInt8.ofNat (n / 65536)]) := hid (by rw [be_take n 8 5 (by decide), List.append_assoc] <;> rfl)
        have hle : ([UInt8.ofNat 255] ++ (be 8 n).take 5).length = 1 + 5 := by simp [be_len]
        obtain ⟨ao2, cap2, w2, hrun, hown, hg⟩ := append_byte (n / 65536) (m / 65536 % 256) (by rw [bv, HM.out]; rfl) HO.out (by rw [hle]; decide) HSZ.out
        have HRUN2 := hid hrun
        have HOW2 := hid hown
        have HB2 := hid (below_own HBE.out HO.out hg)
        rw [hle] at HRUN2 HOW2
        clear hrun hown hg hle
        go_wp2_with (first | (at_builtin; refine wpList_append_run rfl (.tmp 28) (.tmp 34) 23 rfl (.slice ao (1 + 5) cap) (.slice (some ⟨wr.heap.size, 0, none⟩) 1 1) (.slice ao2 (1 + 5 + 1) cap2) w2 rfl rfl HRUN2.out ?_) | fail)
        go_roundg (8 - 6)
        case measure => omega
        case rel => exact ⟨6, ao2, cap2, by omega, rfl, by go_num, rfl, by rw [HT.out]; exact HOW2.out, HB2.out⟩
      · have HT : Hid ([UInt8.ofNat 255] ++ (be 8 n).take 7 = ([UInt8.ofNat 255] ++ (be 8 n).take 6) ++ [UInt8.ofNat (n / 256)]) := hid (by rw [be_take n 8 6 (by decide), List.append_assoc] <;> rfl)
        have hle : ([UInt8.ofNat 255] ++ (be 8 n).take 6).length = 1 + 6 := by simp [be_len]
        obtain ⟨ao2, cap2, w2, hrun, hown, hg⟩ := append_byte (n / 256) (m / 256 % 256) (by rw [bv, HM.out]; rfl) HO.out (by rw [hle]; decide) HSZ.out
        have HRUN2 := hid hrun
        have HOW2 := hid hown
        have HB2 := hid (below_own HBE.out HO.out hg)
        rw [hle] at HRUN2 HOW2
        clear hrun hown hg hle
        go_wp2_with (first | (at_builtin; refine wpList_append_run rfl (.tmp 28) (.tmp 34) 23 rfl (.slice ao (1 + 6) cap) (.slice (some ⟨wr.heap.size, 0, none⟩) 1 1) (.slice ao2 (1 + 6 + 1) cap2) w2 rfl rfl HRUN2.out ?_) | fail)
        go_roundg (8 - 7)
        case measure => omega
        case rel => exact ⟨7, ao2, cap2, by omega, rfl, by go_num, rfl, by rw [HT.out]; exact HOW2.out, HB2.out⟩
      · have HT : Hid ([UInt8.ofNat 255] ++ (be 8 n).take 8 = ([UInt8.ofNat 255] ++ (be 8 n).take 7) ++ [UInt8.ofNat (n / 1)]) := hid (by rw [be_take n 8 7 (by decide), List.append_assoc] <;> rfl)
        have hle : ([UInt8.ofNat 255] ++ (be 8 n).take 7).length = 1 + 7 := by simp [be_len]
        obtain ⟨ao2, cap2, w2, hrun, hown, hg⟩ := append_byte (n / 1) (m % 256) (by rw [Nat.div_one, bv0, HM.out]) HO.out (by rw [hle]; decide) HSZ.out
        have HRUN2 := hid hrun
        have HOW2 := hid hown
        have HB2 := hid (below_own HBE.out HO.out hg)
        rw [hle] at HRUN2 HOW2
        clear hrun hown hg hle
        go_wp2_with (first | (at_builtin; refine wpList_append_run rfl (.tmp 28) (.tmp 34) 23 rfl (.slice ao (1 + 7) cap) (.slice (some ⟨wr.heap.size, 0, none⟩) 1 1) (.slice ao2 (1 + 7 + 1) cap2) w2 rfl rfl HRUN2.out ?_) | fail)
        go_roundg (8 - 8)
        case measure => omega
        case rel => exact ⟨8, ao2, cap2, by omega, rfl, by go_num, rfl, by rw [HT.out]; exact HOW2.out, HB2.out⟩
    · have e : j = 8 := by omega
      subst e
      have hle : ([UInt8.ofNat 255] ++ (be 8 n).take 8).length = 1 + 8 := by simp [be_len]
      have htk : (be 8 n).take 8 = be 8 n := List.take_of_length_le (by rw [be_len]; exact Nat.le_refl _)
      have HO2 := hid HO.out
      rw [hle, htk] at HO2
      clear hle htk hj hjK HO
      go_wp2_with fail
      go_ret
      exact ⟨ao, cap, rfl, HO2.out, HBE.out⟩

theorem rput_any (n : Nat) (hn : n < 18446744073709551616) (w : World) :
    Calls Try.prog 13 #[.int .u64 (n : Int)] w fun e w' => ∃ ao cap, e = .returned (.slice ao (putB n).length cap) ∧ w'.ownsRow w.heap.size 5 1 (.slice ao (putB n).length cap) (putB n).length (bcs (putB n)) ∧ Below w.heap.size w w' := by
  rw [put_len]
  unfold putB
  by_cases h0 : n < 253
  · rw [formN_0 h0, if_pos rfl]
    have := rput_0 w n hn h0
    simpa [be, sizeN] using this
  · by_cases h1 : n < 65536
    · rw [formN_1 h0 h1, if_neg (by decide)]
      exact rput_1 w n hn h0 h1
    · by_cases h2 : n < 4294967296
      · rw [formN_2 h1 h2, if_neg (by decide)]
        exact rput_2 w n hn h1 h2
      · rw [formN_3 h2, if_neg (by decide)]
        exact rput_3 w n hn h2
end Go.Proofs.Ytcmbijckhcckpaa
