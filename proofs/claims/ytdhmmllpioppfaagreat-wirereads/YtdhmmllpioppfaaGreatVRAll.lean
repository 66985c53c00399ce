import Derived.Test.YtdhmmllpioppfaaGreatVGet
import Derived.Test.YtdhmmllpioppfaaGreatVSame
/- Numbers, the document's side. -/
namespace Go.Proofs.YtdhmmllpioppfaaGreat.V
open Go.RowKit

/-- one byte more, that was just laid -/
theorem append_byte {w : World} {base : Nat} {v : Value} {xs : Bs} (c : Nat) (z : Int) (hz : z = ((UInt8.ofNat c).toNat : Int)) (hown : w.ownsRow base 5 1 v xs.length (bcs xs)) (hb : xs.length + 1 ≤ 140737488355328) (hbase : base ≤ w.heap.size) :
    ∃ ao cap w', (∀ ty, (Builtin.append_ #[33, 33] ty #[v, .slice (some ⟨w.heap.size, 0, none⟩) 1 1]).run Tryz.prog (w.alloc (.cells #[.int .u8 z] 5)) = .ok (.slice ao (xs.length + 1) cap) w') ∧ w'.ownsRow base 5 1 (.slice ao (xs.length + 1) cap) (xs ++ [UInt8.ofNat c]).length (bcs (xs ++ [UInt8.ofNat c])) ∧ w.grownBy w' v.ownBlock := by
  subst hz
  have hs := sl_new w [UInt8.ofNat c]
  obtain ⟨ao, cap, w', h1, h2, h3⟩ := append_bytes (hown.alloc _) hs (by simpa using hb) (by simp; omega)
  refine ⟨ao, cap, w', fun ty => by simpa [Lib.byteCells] using h1 ty, by simpa using h2, ⟨h3.os, h3.tape, h3.output, ?_, fun k hk hne => ?_⟩⟩
  · have := h3.size; simp at this; omega
  · rw [h3.block k (by simp; omega) hne]; exact Below.heap_alloc w _ k hk
theorem below_own {w0 w w' : World} {e : TypeId} {size : Nat} {v : Value} {n : Nat} {xs : List Value} (hb : Below w0.heap.size w0 w) (ho : w.ownsRow w0.heap.size e size v n xs) (hg : w.grownBy w' v.ownBlock) : Below w0.heap.size w0 w' := by
  have hs := hb.size
  refine ⟨hg.os.trans hb.os, hg.tape.trans hb.tape, hg.output.trans hb.output, Nat.le_trans hs hg.size, fun k hk => ?_⟩
  rw [hg.block k (by omega) (fun e => by have := (ho.lt k e.symm).1; omega)]
  exact hb.block k hk
theorem be_take (n K j : Nat) (h : j < K) : (be K n).take (j + 1) = (be K n).take j ++ [UInt8.ofNat (n / 256 ^ (K - 1 - j))] := by
  induction K generalizing j with
  | zero => omega
  | succ K ih =>
    cases j with
    | zero => simp [be]
    | succ j =>
      rw [be, List.take_succ_cons, List.take_succ_cons, ih j (by omega), List.cons_append]
      rw [show K + 1 - 1 - (j + 1) = K - 1 - j by omega]

set_option maxRecDepth 100000 in
set_option maxHeartbeats 2000000 in
theorem rput_0 (w : World) (n : Nat) (hn : n < 18446744073709551616) (h0 : n < 253) :
    Calls Tryz.prog 23 #[.int .u64 (n : Int)] w fun e w' => ∃ ao cap, e = .returned (.slice ao 1 cap) ∧ w'.ownsRow w.heap.size 5 1 (.slice ao 1 cap) 1 (bcs ([] ++ be 1 n)) ∧ Below w.heap.size w w' := by
  have a : (n : Int) < 253 := by omega
  have hN : (n : Int) < 18446744073709551616 := by omega
  have hN0 : 0 ≤ (n : Int) := by omega
  clear h0 hn
  have HOWN := hid (World.ownsRow_nil w w.heap.size 5 1)
  have HB1 := hid (Below.refl w.heap.size w)
  generalize hm : (n : Int) = m at *
  have HM := hid hm
  clear hm

  go_enter Tryz.func23, Tryz.ntmps23
  go_wp2_with fail
  go_loopg [5, 6] 1 (fun gg v5 v6 wr => ∃ (j : Nat) (ao : Option Addr) (cap : Nat), j ≤ 1 ∧ gg = 1 - j ∧ v6 = .int .i64 ((0 : Int) - (j : Int)) ∧ v5 = .slice ao (0 + j) cap ∧ wr.ownsRow w.heap.size 5 1 (.slice ao (0 + j) cap) ([] ++ (be 1 n).take j).length (bcs ([] ++ (be 1 n).take j)) ∧ Below w.heap.size w wr)
  case atStart => exact ⟨0, none, 0, by omega, by omega, rfl, rfl, HOWN.out, HB1.out⟩
  case round =>
    obtain ⟨j, ao, cap, hj, rfl, rfl, rfl, hown, hbel⟩ := hrel
    have HO := hid hown
    have HBE := hid hbel
    have HSZ := hid hbel.size
    clear hown hbel HOWN HB1 hN hN0 a
    by_cases hjK : j < 1
    · have hjj : j = 0 := by omega
      clear hj hjK
      rcases hjj with rfl
      · have HT : Hid ([] ++ (be 1 n).take 1 = ([] ++ (be 1 n).take 0) ++ [UInt8.ofNat (n / 1)]) := hid (by rw [be_take n 1 0 (by decide), List.append_assoc] <;> rfl)
        have hle : ([] ++ (be 1 n).take 0).length = 0 + 0 := by simp
        obtain ⟨ao2, cap2, w2, hrun, hown, hg⟩ := append_byte (n / 1) (m % 256) (by rw [Nat.div_one, bv0, HM.out]) HO.out (by rw [hle]; decide) HSZ.out
        have HRUN2 := hid hrun
        have HOW2 := hid hown
        have HB2 := hid (below_own HBE.out HO.out hg)
        rw [hle] at HRUN2 HOW2
        clear hrun hown hg hle
        go_wp2_with (first | (at_builtin; refine wpList_append_run rfl (.tmp 28) (.tmp 34) 33 rfl (.slice ao (0 + 0) cap) (.slice (some ⟨wr.heap.size, 0, none⟩) 1 1) (.slice ao2 (0 + 0 + 1) cap2) w2 rfl rfl HRUN2.out ?_) | fail)
        go_roundg (1 - 1)
        case measure => omega
        case rel => exact ⟨1, ao2, cap2, by omega, rfl, by go_num, rfl, by rw [HT.out]; exact HOW2.out, HB2.out⟩
    · have e : j = 1 := by omega
      subst e
      have hle : ([] ++ (be 1 n).take 1).length = 0 + 1 := by simp [be_len]
      have htk : (be 1 n).take 1 = be 1 n := List.take_of_length_le (by rw [be_len]; exact Nat.le_refl _)
      have HO2 := hid HO.out
      rw [hle, htk] at HO2
      clear hle htk hj hjK HO
      go_wp2_with fail
      go_ret
      exact ⟨ao, cap, rfl, HO2.out, HBE.out⟩

set_option maxRecDepth 100000 in
set_option maxHeartbeats 2000000 in
theorem rput_1 (w : World) (n : Nat) (hn : n < 18446744073709551616) (h0 : ¬ n < 253) (h1 : n < 65536) :
    Calls Tryz.prog 23 #[.int .u64 (n : Int)] w fun e w' => ∃ ao cap, e = .returned (.slice ao 3 cap) ∧ w'.ownsRow w.heap.size 5 1 (.slice ao 3 cap) 3 (bcs ([UInt8.ofNat 253] ++ be 2 n)) ∧ Below w.heap.size w w' := by
  have a : ¬ (n : Int) < 253 := by omega
  have b : (n : Int) < 65536 := by omega
  have hN : (n : Int) < 18446744073709551616 := by omega
  have hN0 : 0 ≤ (n : Int) := by omega
  clear h0 h1 hn
  obtain ⟨ao1, cap1, w1, hrun, hown, hg⟩ := append_byte (xs := []) 253 253 (by decide) (World.ownsRow_nil w w.heap.size 5 1) (by simp) (Nat.le_refl _)
  have HRUN := hid hrun
  have HOWN := hid hown
  have HB1 := hid (below_own (Below.refl _ w) (World.ownsRow_nil w w.heap.size 5 1) hg)
  clear hrun hown hg
  generalize hm : (n : Int) = m at *
  have HM := hid hm
  clear hm
  have HLT := hid b
  go_enter Tryz.func23, Tryz.ntmps23
  go_wp2_with (first | (at_builtin; refine wpList_append_run rfl (.tmp 18) (.tmp 20) 33 rfl (.slice none 0 0) (.slice (some ⟨w.heap.size, 0, none⟩) 1 1) (.slice ao1 1 cap1) w1 rfl rfl HRUN.out ?_) | fail)
  go_loopg [5, 6] 2 (fun gg v5 v6 wr => ∃ (j : Nat) (ao : Option Addr) (cap : Nat), j ≤ 2 ∧ gg = 2 - j ∧ v6 = .int .i64 ((1 : Int) - (j : Int)) ∧ v5 = .slice ao (1 + j) cap ∧ wr.ownsRow w.heap.size 5 1 (.slice ao (1 + j) cap) ([UInt8.ofNat 253] ++ (be 2 n).take j).length (bcs ([UInt8.ofNat 253] ++ (be 2 n).take j)) ∧ Below w.heap.size w wr)
  case atStart => exact ⟨0, ao1, cap1, by omega, by omega, rfl, rfl, HOWN.out, HB1.out⟩
  case round =>
    obtain ⟨j, ao, cap, hj, rfl, rfl, rfl, hown, hbel⟩ := hrel
    have HO := hid hown
    have HBE := hid hbel
    have HSZ := hid hbel.size
    clear hown hbel HOWN HB1 hN hN0 a b
    by_cases hjK : j < 2
    · have hjj : j = 0 ∨ j = 1 := by omega
      clear hj hjK
      rcases hjj with rfl | rfl
      · have HT : Hid ([UInt8.ofNat 253] ++ (be 2 n).take 1 = ([UInt8.ofNat 253] ++ (be 2 n).take 0) ++ [UInt8.ofNat (n / 256)]) := hid (by rw [be_take n 2 0 (by decide), List.append_assoc] <;> rfl)
        have hle : ([UInt8.ofNat 253] ++ (be 2 n).take 0).length = 1 + 0 := by simp
        obtain ⟨ao2, cap2, w2, hrun, hown, hg⟩ := append_byte (n / 256) (m / 256) (by have h9 := HLT.out; rw [bv, HM.out]; show m / 256 = m / 256 % 256; omega) HO.out (by rw [hle]; decide) HSZ.out
        have HRUN2 := hid hrun
        have HOW2 := hid hown
        have HB2 := hid (below_own HBE.out HO.out hg)
        rw [hle] at HRUN2 HOW2
        clear hrun hown hg hle
        go_wp2_with (first | (at_builtin; refine wpList_append_run rfl (.tmp 28) (.tmp 34) 33 rfl (.slice ao (1 + 0) cap) (.slice (some ⟨wr.heap.size, 0, none⟩) 1 1) (.slice ao2 (1 + 0 + 1) cap2) w2 rfl rfl HRUN2.out ?_) | fail)
        go_roundg (2 - 1)
        case measure => omega
        case rel => exact ⟨1, ao2, cap2, by omega, rfl, by go_num, rfl, by rw [HT.out]; exact HOW2.out, HB2.out⟩
      · have HT : Hid ([UInt8.ofNat 253] ++ (be 2 n).take 2 = ([UInt8.ofNat 253] ++ (be 2 n).take 1) ++ [UInt8.ofNat (n / 1)]) := hid (by rw [be_take n 2 1 (by decide), List.append_assoc] <;> rfl)
        have hle : ([UInt8.ofNat 253] ++ (be 2 n).take 1).length = 1 + 1 := by simp [be_len]
        obtain ⟨ao2, cap2, w2, hrun, hown, hg⟩ := append_byte (n / 1) (m % 256) (by rw [Nat.div_one, bv0, HM.out]) HO.out (by rw [hle]; decide) HSZ.out
        have HRUN2 := hid hrun
        have HOW2 := hid hown
        have HB2 := hid (below_own HBE.out HO.out hg)
        rw [hle] at HRUN2 HOW2
        clear hrun hown hg hle
        go_wp2_with (first | (at_builtin; refine wpList_append_run rfl (.tmp 28) (.tmp 34) 33 rfl (.slice ao (1 + 1) cap) (.slice (some ⟨wr.heap.size, 0, none⟩) 1 1) (.slice ao2 (1 + 1 + 1) cap2) w2 rfl rfl HRUN2.out ?_) | fail)
        go_roundg (2 - 2)
        case measure => omega
        case rel => exact ⟨2, ao2, cap2, by omega, rfl, by go_num, rfl, by rw [HT.out]; exact HOW2.out, HB2.out⟩
    · have e : j = 2 := by omega
      subst e
      have hle : ([UInt8.ofNat 253] ++ (be 2 n).take 2).length = 1 + 2 := by simp [be_len]
      have htk : (be 2 n).take 2 = be 2 n := List.take_of_length_le (by rw [be_len]; exact Nat.le_refl _)
      have HO2 := hid HO.out
      rw [hle, htk] at HO2
      clear hle htk hj hjK HO
      go_wp2_with fail
      go_ret
      exact ⟨ao, cap, rfl, HO2.out, HBE.out⟩

set_option maxRecDepth 100000 in
set_option maxHeartbeats 2000000 in
theorem rput_2 (w : World) (n : Nat) (hn : n < 18446744073709551616) (h0 : ¬ n < 65536) (h1 : n < 4294967296) :
    Calls Tryz.prog 23 #[.int .u64 (n : Int)] w fun e w' => ∃ ao cap, e = .returned (.slice ao 5 cap) ∧ w'.ownsRow w.heap.size 5 1 (.slice ao 5 cap) 5 (bcs ([UInt8.ofNat 254] ++ be 4 n)) ∧ Below w.heap.size w w' := by
  have a : ¬ (n : Int) < 65536 := by omega
  have b : (n : Int) < 4294967296 := by omega
  have hN : (n : Int) < 18446744073709551616 := by omega
  have hN0 : 0 ≤ (n : Int) := by omega
  clear h0 h1 hn
  obtain ⟨ao1, cap1, w1, hrun, hown, hg⟩ := append_byte (xs := []) 254 254 (by decide) (World.ownsRow_nil w w.heap.size 5 1) (by simp) (Nat.le_refl _)
  have HRUN := hid hrun
  have HOWN := hid hown
  have HB1 := hid (below_own (Below.refl _ w) (World.ownsRow_nil w w.heap.size 5 1) hg)
  clear hrun hown hg
  generalize hm : (n : Int) = m at *
  have HM := hid hm
  clear hm
  have HLT := hid b
  go_enter Tryz.func23, Tryz.ntmps23
  go_wp2_with (first | (at_builtin; refine wpList_append_run rfl (.tmp 18) (.tmp 20) 33 rfl (.slice none 0 0) (.slice (some ⟨w.heap.size, 0, none⟩) 1 1) (.slice ao1 1 cap1) w1 rfl rfl HRUN.out ?_) | fail)
  go_loopg [5, 6] 4 (fun gg v5 v6 wr => ∃ (j : Nat) (ao : Option Addr) (cap : Nat), j ≤ 4 ∧ gg = 4 - j ∧ v6 = .int .i64 ((3 : Int) - (j : Int)) ∧ v5 = .slice ao (1 + j) cap ∧ wr.ownsRow w.heap.size 5 1 (.slice ao (1 + j) cap) ([UInt8.ofNat 254] ++ (be 4 n).take j).length (bcs ([UInt8.ofNat 254] ++ (be 4 n).take j)) ∧ Below w.heap.size w wr)
  case atStart => exact ⟨0, ao1, cap1, by omega, by omega, rfl, rfl, HOWN.out, HB1.out⟩
  case round =>
    obtain ⟨j, ao, cap, hj, rfl, rfl, rfl, hown, hbel⟩ := hrel
    have HO := hid hown
    have HBE := hid hbel
    have HSZ := hid hbel.size
    clear hown hbel HOWN HB1 hN hN0 a b
    by_cases hjK : j < 4
    · have hjj : j = 0 ∨ j = 1 ∨ j = 2 ∨ j = 3 := by omega
      clear hj hjK
      rcases hjj with rfl | rfl | rfl | rfl
      · have HT : Hid ([UInt8.ofNat 254] ++ (be 4 n).take 1 = ([UInt8.ofNat 254] ++ (be 4 n).take 0) ++ [UInt8.ofNat (n / 16777216)]) := hid (by rw [be_take n 4 0 (by decide), List.append_assoc] <;> rfl)
        have hle : ([UInt8.ofNat 254] ++ (be 4 n).take 0).length = 1 + 0 := by simp
        obtain ⟨ao2, cap2, w2, hrun, hown, hg⟩ := append_byte (n / 16777216) (m / 16777216) (by have h9 := HLT.out; rw [bv, HM.out]; show m / 16777216 = m / 16777216 % 256; omega) HO.out (by rw [hle]; decide) HSZ.out
        have HRUN2 := hid hrun
        have HOW2 := hid hown
        have HB2 := hid (below_own HBE.out HO.out hg)
        rw [hle] at HRUN2 HOW2
        clear hrun hown hg hle
        go_wp2_with (first | (at_builtin; refine wpList_append_run rfl (.tmp 28) (.tmp 34) 33 rfl (.slice ao (1 + 0) cap) (.slice (some ⟨wr.heap.size, 0, none⟩) 1 1) (.slice ao2 (1 + 0 + 1) cap2) w2 rfl rfl HRUN2.out ?_) | fail)
        go_roundg (4 - 1)
        case measure => omega
        case rel => exact ⟨1, ao2, cap2, by omega, rfl, by go_num, rfl, by rw [HT.out]; exact HOW2.out, HB2.out⟩
      · have HT : Hid ([UInt8.ofNat 254] ++ (be 4 n).take 2 = ([UInt8.ofNat 254] ++ (be 4 n).take 1) ++ [UInt8.ofNat (n / 65536)]) := hid (by rw [be_take n 4 1 (by decide), List.append_assoc] <;> rfl)
        have hle : ([UInt8.ofNat 254] ++ (be 4 n).take 1).length = 1 + 1 := by simp [be_len]
        obtain ⟨ao2, cap2, w2, hrun, hown, hg⟩ := append_byte (n / 65536) (m / 65536 % 256) (by rw [bv, HM.out]; rfl) HO.out (by rw [hle]; decide) HSZ.out
        have HRUN2 := hid hrun
        have HOW2 := hid hown
        have HB2 := hid (below_own HBE.out HO.out hg)
        rw [hle] at HRUN2 HOW2
        clear hrun hown hg hle
        go_wp2_with (first | (at_builtin; refine wpList_append_run rfl (.tmp 28) (.tmp 34) 33 rfl (.slice ao (1 + 1) cap) (.slice (some ⟨wr.heap.size, 0, none⟩) 1 1) (.slice ao2 (1 + 1 + 1) cap2) w2 rfl rfl HRUN2.out ?_) | fail)
        go_roundg (4 - 2)
        case measure => omega
        case rel => exact ⟨2, ao2, cap2, by omega, rfl, by go_num, rfl, by rw [HT.out]; exact HOW2.out, HB2.out⟩
      · have HT : Hid ([UInt8.ofNat 254] ++ (be 4 n).take 3 = ([UInt8.ofNat 254] ++ (be 4 n).take 2) ++ [UInt8.ofNat (n / 256)]) := hid (by rw [be_take n 4 2 (by decide), List.append_assoc] <;> rfl)
        have hle : ([UInt8.ofNat 254] ++ (be 4 n).take 2).length = 1 + 2 := by simp [be_len]
        obtain ⟨ao2, cap2, w2, hrun, hown, hg⟩ := append_byte (n / 256) (m / 256 % 256) (by rw [bv, HM.out]; rfl) HO.out (by rw [hle]; decide) HSZ.out
        have HRUN2 := hid hrun
        have HOW2 := hid hown
        have HB2 := hid (below_own HBE.out HO.out hg)
        rw [hle] at HRUN2 HOW2
        clear hrun hown hg hle
        go_wp2_with (first | (at_builtin; refine wpList_append_run rfl (.tmp 28) (.tmp 34) 33 rfl (.slice ao (1 + 2) cap) (.slice (some ⟨wr.heap.size, 0, none⟩) 1 1) (.slice ao2 (1 + 2 + 1) cap2) w2 rfl rfl HRUN2.out ?_) | fail)
        go_roundg (4 - 3)
        case measure => omega
        case rel => exact ⟨3, ao2, cap2, by omega, rfl, by go_num, rfl, by rw [HT.out]; exact HOW2.out, HB2.out⟩
      · have HT : Hid ([UInt8.ofNat 254] ++ (be 4 n).take 4 = ([UInt8.ofNat 254] ++ (be 4 n).take 3) ++ [UInt8.ofNat (n / 1)]) := hid (by rw [be_take n 4 3 (by decide), List.append_assoc] <;> rfl)
        have hle : ([UInt8.ofNat 254] ++ (be 4 n).take 3).length = 1 + 3 := by simp [be_len]
        obtain ⟨ao2, cap2, w2, hrun, hown, hg⟩ := append_byte (n / 1) (m % 256) (by rw [Nat.div_one, bv0, HM.out]) HO.out (by rw [hle]; decide) HSZ.out
        have HRUN2 := hid hrun
        have HOW2 := hid hown
        have HB2 := hid (below_own HBE.out HO.out hg)
        rw [hle] at HRUN2 HOW2
        clear hrun hown hg hle
        go_wp2_with (first | (at_builtin; refine wpList_append_run rfl (.tmp 28) (.tmp 34) 33 rfl (.slice ao (1 + 3) cap) (.slice (some ⟨wr.heap.size, 0, none⟩) 1 1) (.slice ao2 (1 + 3 + 1) cap2) w2 rfl rfl HRUN2.out ?_) | fail)
        go_roundg (4 - 4)
        case measure => omega
        case rel => exact ⟨4, ao2, cap2, by omega, rfl, by go_num, rfl, by rw [HT.out]; exact HOW2.out, HB2.out⟩
    · have e : j = 4 := by omega
      subst e
      have hle : ([UInt8.ofNat 254] ++ (be 4 n).take 4).length = 1 + 4 := by simp [be_len]
      have htk : (be 4 n).take 4 = be 4 n := List.take_of_length_le (by rw [be_len]; exact Nat.le_refl _)
      have HO2 := hid HO.out
      rw [hle, htk] at HO2
      clear hle htk hj hjK HO
      go_wp2_with fail
      go_ret
      exact ⟨ao, cap, rfl, HO2.out, HBE.out⟩

set_option maxRecDepth 100000 in
set_option maxHeartbeats 2000000 in
theorem rput_3 (w : World) (n : Nat) (hn : n < 18446744073709551616) (h0 : ¬ n < 4294967296) :
    Calls Tryz.prog 23 #[.int .u64 (n : Int)] w fun e w' => ∃ ao cap, e = .returned (.slice ao 9 cap) ∧ w'.ownsRow w.heap.size 5 1 (.slice ao 9 cap) 9 (bcs ([UInt8.ofNat 255] ++ be 8 n)) ∧ Below w.heap.size w w' := by
  have a : ¬ (n : Int) < 4294967296 := by omega
  have hN : (n : Int) < 18446744073709551616 := by omega
  have hN0 : 0 ≤ (n : Int) := by omega
  clear h0 hn
  obtain ⟨ao1, cap1, w1, hrun, hown, hg⟩ := append_byte (xs := []) 255 255 (by decide) (World.ownsRow_nil w w.heap.size 5 1) (by simp) (Nat.le_refl _)
  have HRUN := hid hrun
  have HOWN := hid hown
  have HB1 := hid (below_own (Below.refl _ w) (World.ownsRow_nil w w.heap.size 5 1) hg)
  clear hrun hown hg
  generalize hm : (n : Int) = m at *
  have HM := hid hm
  clear hm

  go_enter Tryz.func23, Tryz.ntmps23
  go_wp2_with (first | (at_builtin; refine wpList_append_run rfl (.tmp 18) (.tmp 20) 33 rfl (.slice none 0 0) (.slice (some ⟨w.heap.size, 0, none⟩) 1 1) (.slice ao1 1 cap1) w1 rfl rfl HRUN.out ?_) | fail)
  go_loopg [5, 6] 8 (fun gg v5 v6 wr => ∃ (j : Nat) (ao : Option Addr) (cap : Nat), j ≤ 8 ∧ gg = 8 - j ∧ v6 = .int .i64 ((7 : Int) - (j : Int)) ∧ v5 = .slice ao (1 + j) cap ∧ wr.ownsRow w.heap.size 5 1 (.slice ao (1 + j) cap) ([UInt8.ofNat 255] ++ (be 8 n).take j).length (bcs ([UInt8.ofNat 255] ++ (be 8 n).take j)) ∧ Below w.heap.size w wr)
  case atStart => exact ⟨0, ao1, cap1, by omega, by omega, rfl, rfl, HOWN.out, HB1.out⟩
  case round =>
    obtain ⟨j, ao, cap, hj, rfl, rfl, rfl, hown, hbel⟩ := hrel
    have HO := hid hown
    have HBE := hid hbel
    have HSZ := hid hbel.size
    clear hown hbel HOWN HB1 hN hN0 a
    by_cases hjK : j < 8
    · have hjj : j = 0 ∨ j = 1 ∨ j = 2 ∨ j = 3 ∨ j = 4 ∨ j = 5 ∨ j = 6 ∨ j = 7 := by omega
      clear hj hjK
      rcases hjj with rfl | rfl | rfl | rfl | rfl | rfl | rfl | rfl
      · have HT : Hid ([UInt8.ofNat 255] ++ (be 8 n).take 1 = ([UInt8.ofNat 255] ++ (be 8 n).take 0) ++ [UInt8.ofNat (n / 72057594037927936)]) := hid (by rw [be_take n 8 0 (by decide), List.append_assoc] <;> rfl)
        have hle : ([UInt8.ofNat 255] ++ (be 8 n).take 0).length = 1 + 0 := by simp
        obtain ⟨ao2, cap2, w2, hrun, hown, hg⟩ := append_byte (n / 72057594037927936) (m / 72057594037927936 % 256) (by rw [bv, HM.out]; rfl) HO.out (by rw [hle]; decide) HSZ.out
        have HRUN2 := hid hrun
        have HOW2 := hid hown
        have HB2 := hid (below_own HBE.out HO.out hg)
        rw [hle] at HRUN2 HOW2
        clear hrun hown hg hle
        go_wp2_with (first | (at_builtin; refine wpList_append_run rfl (.tmp 28) (.tmp 34) 33 rfl (.slice ao (1 + 0) cap) (.slice (some ⟨wr.heap.size, 0, none⟩) 1 1) (.slice ao2 (1 + 0 + 1) cap2) w2 rfl rfl HRUN2.out ?_) | fail)
        go_roundg (8 - 1)
        case measure => omega
        case rel => exact ⟨1, ao2, cap2, by omega, rfl, by go_num, rfl, by rw [HT.out]; exact HOW2.out, HB2.out⟩
      · have HT : Hid ([UInt8.ofNat 255] ++ (be 8 n).take 2 = ([UInt8.ofNat 255] ++ (be 8 n).take 1) ++ [UInt8.ofNat (n / 281474976710656)]) := hid (by rw [be_take n 8 1 (by decide), List.append_assoc] <;> rfl)
        have hle : ([UInt8.ofNat 255] ++ (be 8 n).take 1).length = 1 + 1 := by simp [be_len]
        obtain ⟨ao2, cap2, w2, hrun, hown, hg⟩ := append_byte (n / 281474976710656) (m / 281474976710656 % 256) (by rw [bv, HM.out]; rfl) HO.out (by rw [hle]; decide) HSZ.out
        have HRUN2 := hid hrun
        have HOW2 := hid hown
        have HB2 := hid (below_own HBE.out HO.out hg)
        rw [hle] at HRUN2 HOW2
        clear hrun hown hg hle
        go_wp2_with (first | (at_builtin; refine wpList_append_run rfl (.tmp 28) (.tmp 34) 33 rfl (.slice ao (1 + 1) cap) (.slice (some ⟨wr.heap.size, 0, none⟩) 1 1) (.slice ao2 (1 + 1 + 1) cap2) w2 rfl rfl HRUN2.out ?_) | fail)
        go_roundg (8 - 2)
        case measure => omega
        case rel => exact ⟨2, ao2, cap2, by omega, rfl, by go_num, rfl, by rw [HT.out]; exact HOW2.out, HB2.out⟩
      · have HT : Hid ([UInt8.ofNat 255] ++ (be 8 n).take 3 = ([UInt8.ofNat 255] ++ (be 8 n).take 2) ++ [UInt8.ofNat (n / 1099511627776)]) := hid (by rw [be_take n 8 2 (by decide), List.append_assoc] <;> rfl)
        have hle : ([UInt8.ofNat 255] ++ (be 8 n).take 2).length = 1 + 2 := by simp [be_len]
        obtain ⟨ao2, cap2, w2, hrun, hown, hg⟩ := append_byte (n / 1099511627776) (m / 1099511627776 % 256) (by rw [bv, HM.out]; rfl) HO.out (by rw [hle]; decide) HSZ.out
        have HRUN2 := hid hrun
        have HOW2 := hid hown
        have HB2 := hid (below_own HBE.out HO.out hg)
        rw [hle] at HRUN2 HOW2
        clear hrun hown hg hle
        go_wp2_with (first | (at_builtin; refine wpList_append_run rfl (.tmp 28) (.tmp 34) 33 rfl (.slice ao (1 + 2) cap) (.slice (some ⟨wr.heap.size, 0, none⟩) 1 1) (.slice ao2 (1 + 2 + 1) cap2) w2 rfl rfl HRUN2.out ?_) | fail)
        go_roundg (8 - 3)
        case measure => omega
        case rel => exact ⟨3, ao2, cap2, by omega, rfl, by go_num, rfl, by rw [HT.out]; exact HOW2.out, HB2.out⟩
      · have HT : Hid ([UInt8.ofNat 255] ++ (be 8 n).take 4 = ([UInt8.ofNat 255] ++ (be 8 n).take 3) ++ [UInt8.ofNat (n / 4294967296)]) := hid (by rw [be_take n 8 3 (by decide), List.append_assoc] <;> rfl)
        have hle : ([UInt8.ofNat 255] ++ (be 8 n).take 3).length = 1 + 3 := by simp [be_len]
        obtain ⟨ao2, cap2, w2, hrun, hown, hg⟩ := append_byte (n / 4294967296) (m / 4294967296 % 256) (by rw [bv, HM.out]; rfl) HO.out (by rw [hle]; decide) HSZ.out
        have HRUN2 := hid hrun
        have HOW2 := hid hown
        have HB2 := hid (below_own HBE.out HO.out hg)
        rw [hle] at HRUN2 HOW2
        clear hrun hown hg hle
        go_wp2_with (first | (at_builtin; refine wpList_append_run rfl (.tmp 28) (.tmp 34) 33 rfl (.slice ao (1 + 3) cap) (.slice (some ⟨wr.heap.size, 0, none⟩) 1 1) (.slice ao2 (1 + 3 + 1) cap2) w2 rfl rfl HRUN2.out ?_) | fail)
        go_roundg (8 - 4)
        case measure => omega
        case rel => exact ⟨4, ao2, cap2, by omega, rfl, by go_num, rfl, by rw [HT.out]; exact HOW2.out, HB2.out⟩
      · have HT : Hid ([UInt8.ofNat 255] ++ (be 8 n).take 5 = ([UInt8.ofNat 255] ++ (be 8 n).take 4) ++ [UInt8.ofNat (n / 16777216)]) := hid (by rw [be_take n 8 4 (by decide), List.append_assoc] <;> rfl)
        have hle : ([UInt8.ofNat 255] ++ (be 8 n).take 4).length = 1 + 4 := by simp [be_len]
        obtain ⟨ao2, cap2, w2, hrun, hown, hg⟩ := append_byte (n / 16777216) (m / 16777216 % 256) (by rw [bv, HM.out]; rfl) HO.out (by rw [hle]; decide) HSZ.out
        have HRUN2 := hid hrun
        have HOW2 := hid hown
        have HB2 := hid (below_own HBE.out HO.out hg)
        rw [hle] at HRUN2 HOW2
        clear hrun hown hg hle
        go_wp2_with (first | (at_builtin; refine wpList_append_run rfl (.tmp 28) (.tmp 34) 33 rfl (.slice ao (1 + 4) cap) (.slice (some ⟨wr.heap.size, 0, none⟩) 1 1) (.slice ao2 (1 + 4 + 1) cap2) w2 rfl rfl HRUN2.out ?_) | fail)
        go_roundg (8 - 5)
        case measure => omega
        case rel => exact ⟨5, ao2, cap2, by omega, rfl, by go_num, rfl, by rw [HT.out]; exact HOW2.out, HB2.out⟩
      · have HT : Hid ([UInt8.ofNat 255] ++ (be 8 n).take 6 = ([UInt8.ofNat 255] ++ (be 8 n).take 5) ++ [UInt8.ofNat (n / 65536)]) := hid (by rw [be_take n 8 5 (by decide), List.append_assoc] <;> rfl)
        have hle : ([UInt8.ofNat 255] ++ (be 8 n).take 5).length = 1 + 5 := by simp [be_len]
        obtain ⟨ao2, cap2, w2, hrun, hown, hg⟩ := append_byte (n / 65536) (m / 65536 % 256) (by rw [bv, HM.out]; rfl) HO.out (by rw [hle]; decide) HSZ.out
        have HRUN2 := hid hrun
        have HOW2 := hid hown
        have HB2 := hid (below_own HBE.out HO.out hg)
        rw [hle] at HRUN2 HOW2
        clear hrun hown hg hle
        go_wp2_with (first | (at_builtin; refine wpList_append_run rfl (.tmp 28) (.tmp 34) 33 rfl (.slice ao (1 + 5) cap) (.slice (some ⟨wr.heap.size, 0, none⟩) 1 1) (.slice ao2 (1 + 5 + 1) cap2) w2 rfl rfl HRUN2.out ?_) | fail)
        go_roundg (8 - 6)
        case measure => omega
        case rel => exact ⟨6, ao2, cap2, by omega, rfl, by go_num, rfl, by rw [HT.out]; exact HOW2.out, HB2.out⟩
      · have HT : Hid ([UInt8.ofNat 255] ++ (be 8 n).take 7 = ([UInt8.ofNat 255] ++ (be 8 n).take 6) ++ [UInt8.ofNat (n / 256)]) := hid (by rw [be_take n 8 6 (by decide), List.append_assoc] <;> rfl)
        have hle : ([UInt8.ofNat 255] ++ (be 8 n).take 6).length = 1 + 6 := by simp [be_len]
        obtain ⟨ao2, cap2, w2, hrun, hown, hg⟩ := append_byte (n / 256) (m / 256 % 256) (by rw [bv, HM.out]; rfl) HO.out (by rw [hle]; decide) HSZ.out
        have HRUN2 := hid hrun
        have HOW2 := hid hown
        have HB2 := hid (below_own HBE.out HO.out hg)
        rw [hle] at HRUN2 HOW2
        clear hrun hown hg hle
        go_wp2_with (first | (at_builtin; refine wpList_append_run rfl (.tmp 28) (.tmp 34) 33 rfl (.slice ao (1 + 6) cap) (.slice (some ⟨wr.heap.size, 0, none⟩) 1 1) (.slice ao2 (1 + 6 + 1) cap2) w2 rfl rfl HRUN2.out ?_) | fail)
        go_roundg (8 - 7)
        case measure => omega
        case rel => exact ⟨7, ao2, cap2, by omega, rfl, by go_num, rfl, by rw [HT.out]; exact HOW2.out, HB2.out⟩
      · have HT : Hid ([UInt8.ofNat 255] ++ (be 8 n).take 8 = ([UInt8.ofNat 255] ++ (be 8 n).take 7) ++ [UInt8.ofNat (n / 1)]) := hid (by rw [be_take n 8 7 (by decide), List.append_assoc] <;> rfl)
        have hle : ([UInt8.ofNat 255] ++ (be 8 n).take 7).length = 1 + 7 := by simp [be_len]
        obtain ⟨ao2, cap2, w2, hrun, hown, hg⟩ := append_byte (n / 1) (m % 256) (by rw [Nat.div_one, bv0, HM.out]) HO.out (by rw [hle]; decide) HSZ.out
        have HRUN2 := hid hrun
        have HOW2 := hid hown
        have HB2 := hid (below_own HBE.out HO.out hg)
        rw [hle] at HRUN2 HOW2
        clear hrun hown hg hle
        go_wp2_with (first | (at_builtin; refine wpList_append_run rfl (.tmp 28) (.tmp 34) 33 rfl (.slice ao (1 + 7) cap) (.slice (some ⟨wr.heap.size, 0, none⟩) 1 1) (.slice ao2 (1 + 7 + 1) cap2) w2 rfl rfl HRUN2.out ?_) | fail)
        go_roundg (8 - 8)
        case measure => omega
        case rel => exact ⟨8, ao2, cap2, by omega, rfl, by go_num, rfl, by rw [HT.out]; exact HOW2.out, HB2.out⟩
    · have e : j = 8 := by omega
      subst e
      have hle : ([UInt8.ofNat 255] ++ (be 8 n).take 8).length = 1 + 8 := by simp [be_len]
      have htk : (be 8 n).take 8 = be 8 n := List.take_of_length_le (by rw [be_len]; exact Nat.le_refl _)
      have HO2 := hid HO.out
      rw [hle, htk] at HO2
      clear hle htk hj hjK HO
      go_wp2_with fail
      go_ret
      exact ⟨ao, cap, rfl, HO2.out, HBE.out⟩

theorem rput_any (n : Nat) (hn : n < 18446744073709551616) (w : World) :
    Calls Tryz.prog 23 #[.int .u64 (n : Int)] w fun e w' => ∃ ao cap, e = .returned (.slice ao (putB n).length cap) ∧ w'.ownsRow w.heap.size 5 1 (.slice ao (putB n).length cap) (putB n).length (bcs (putB n)) ∧ Below w.heap.size w w' := by
  rw [put_len]
  unfold putB
  by_cases h0 : n < 253
  · rw [formN_0 h0, if_pos rfl]
    have := rput_0 w n hn h0
    simpa [be, sizeN] using this
  · by_cases h1 : n < 65536
    · rw [formN_1 h0 h1, if_neg (by decide)]
      exact rput_1 w n hn h0 h1
    · by_cases h2 : n < 4294967296
      · rw [formN_2 h1 h2, if_neg (by decide)]
        exact rput_2 w n hn h1 h2
      · rw [formN_3 h2, if_neg (by decide)]
        exact rput_3 w n hn h2
end Go.Proofs.YtdhmmllpioppfaaGreat.V

/- The document's Get. -/
namespace Go.Proofs.YtdhmmllpioppfaaGreat.V
open Go.RowKit

theorem size_ne {a b : Nat} (h : a ≠ b) : sizeN a ≠ sizeN b := fun e => h (sizeN_inj e)

set_option maxRecDepth 100000 in
set_option maxHeartbeats 2000000 in
theorem rget_0 (c : UInt8) (r : Bs) (w : World) (v : Value) (hv : Sl w v (c :: r)) (hc : c.toNat < 253) (hmax : r.length + 1 ≤ 140737488355328) : Calls Tryz.prog 50 #[v] w fun e w' => e = gotten (getB (c :: r)) ∧ Below w.heap.size w w' := by
  obtain ⟨ao, cap, rfl⟩ := hv.shape
  obtain ⟨g, o, rfl, hg, _, hcap, hcl⟩ := hv.at (by simp)
  rw [getB_cons]
  have hs : saidN c = 0 := by unfold saidN; rw [if_pos hc]
  have h1 : ((c.toNat : Int) == 253) = false := by simp; omega
  have h2 : ((c.toNat : Int) == 254) = false := by simp; omega
  have h3 : ((c.toNat : Int) == 255) = false := by simp; omega
  have hvn : valN c r = c.toNat := by unfold valN; rw [hs]; rfl
  have hvl := valN_lt c r
  have hc0 : w.cell? ⟨g, o, none⟩ = some (.int .u8 (c.toNat : Int)) := hcl 0 (by simp)
  have HCL : Hid (∀ i (h : i < r.length), w.cell? ⟨g, o + (i + 1), none⟩ = some (.int .u8 (r[i].toNat : Int))) := hid (fun i h => hcl (i + 1) (by simp; omega))
  have HPU := hid (fun W => rput_any (valN c r) hvl W)
  rw [hs, put_len] at *
  clear hv hcl hvl
  simp only [List.length_cons] at hcap ⊢
  have hzz : sizeN 0 = 1 := by decide
  rw [hzz]
  rw [hvn] at HPU ⊢
  
  generalize c.toNat = cc at *
  rw [if_neg (by omega), if_neg (fun h => h (formN_0 hc))]
  rw [formN_0 hc] at HPU
  have hccl : (cc : Int) < 253 := by omega
  clear HCL hvn hs hzz hmax hc
  generalize r.length = n at *
  go_enter Tryz.func50, Tryz.ntmps50
  go_wp2_with fail
  refine (HPU.out _).mono ?_
  rintro e w5 ⟨ao5, cap5, rfl, _, hb5⟩
  have HB5 := hid hb5
  clear hb5
  go_wp2_with fail
  go_ret3
  exact ⟨rfl, HB5.out⟩

set_option maxRecDepth 100000 in
set_option maxHeartbeats 2000000 in
theorem rget_1 (c : UInt8) (r : Bs) (w : World) (v : Value) (hv : Sl w v (c :: r)) (hc : c.toNat = 253) (hmax : r.length + 1 ≤ 140737488355328) : Calls Tryz.prog 50 #[v] w fun e w' => e = gotten (getB (c :: r)) ∧ Below w.heap.size w w' := by
  obtain ⟨ao, cap, rfl⟩ := hv.shape
  obtain ⟨g, o, rfl, hg, _, hcap, hcl⟩ := hv.at (by simp)
  rw [getB_cons]
  have hs : saidN c = 1 := by unfold saidN; rw [hc]; rfl
  have hvn : valN c r = numOf 0 (r.take 2) := by unfold valN; rw [hs]; rfl
  have hvl := valN_lt c r
  have hc0 : w.cell? ⟨g, o, none⟩ = some (.int .u8 (c.toNat : Int)) := hcl 0 (by simp)
  have HCL : Hid (∀ i (h : i < r.length), w.cell? ⟨g, o + (i + 1), none⟩ = some (.int .u8 (r[i].toNat : Int))) := hid (fun i h => hcl (i + 1) (by simp; omega))
  have HPU := hid (fun W => rput_any (valN c r) hvl W)
  rw [hs, put_len] at *
  clear hv hcl hvl
  simp only [List.length_cons] at hcap ⊢
  have hzz : sizeN 1 = 3 := by decide
  rw [hzz]
  
  rw [hc] at hc0
  by_cases hlen : r.length + 1 < 3
  · rw [if_pos hlen]
    have hl' : (r.length : Int) + 1 < 3 := by omega
    clear HPU HCL hvn hs hzz hmax hlen
    generalize r.length = n at *
    go_enter Tryz.func50, Tryz.ntmps50
    go_wp2_with fail
    go_ret3
    exact ⟨rfl, Below.refl _ _⟩
  · rw [if_neg hlen]
    have hl' : ¬ (r.length : Int) + 1 < 3 := by omega
    have HLEN := hid hlen
    have HVN := hid hvn
    generalize hvv : valN c r = vv at *
    obtain ⟨z, hz⟩ : ∃ z, z = sizeN (formN vv) := ⟨_, rfl⟩
    have HZ := hid hz
    rw [← hz] at HPU
    clear hvn hs hzz hlen hvv hz hc
    generalize hn : r.length = n at hl' hcap hmax ⊢
    have HN : Hid (n = r.length) := hid hn.symm
    clear hn
    generalize hA : (if formN vv ≠ 1 then ((0, 0, 50) : Nat × Nat × Nat) else (vv, 3, 0)) = A
    have HA := hid hA
    clear hA
    go_enter Tryz.func50, Tryz.ntmps50
    go_wp2_with fail
    go_loopg [6, 7] 2 (fun gg v6 v7 wr => wr = w ∧ ∃ i : Nat, i ≤ 2 ∧ gg = 2 - i ∧ v7 = .int .i64 ((i : Int) + 1) ∧ v6 = .int .u64 (numOf 0 (r.take i) : Int))
    case atStart => exact ⟨rfl, 0, by omega, by omega, rfl, rfl⟩
    case round =>
      obtain ⟨hwr, i, hi, rfl, rfl, rfl⟩ := hrel
      subst hwr
      by_cases hil : i < 2
      · have hi1 : (i : Int) + 1 < 3 := by omega
        have hir : i < r.length := by have := HLEN.out; have := HN.out; omega
        have hin : (i : Int) + 1 < (n : Int) + 1 := by have := HN.out; omega
        have hci := HCL.out i hir
        have hx := r[i].toNat_lt
        have HST : Hid (numOf 0 (r.take (i + 1)) = 256 * numOf 0 (r.take i) + r[i].toNat) := hid (by
          rw [List.take_succ_eq_append_getElem hir, numOf_app]; rfl)
        have ha : numOf 0 (r.take i) < 72057594037927936 := by
          have h1 := numOf_lt (r.take i)
          have h2 : 256 ^ (r.take i).length ≤ 256 ^ 7 := Nat.pow_le_pow_right (by decide) (by simp; omega)
          have h3 : (256 : Nat) ^ 7 = 72057594037927936 := by decide
          omega
        generalize numOf 0 (r.take i) = a at *
        generalize r[i].toNat = x at *
        have HOR := hid (or_byte a x ha hx)
        go_wp2_with fail
        go_roundg (2 - (i + 1))
        case measure => omega
        case rel => exact ⟨rfl, i + 1, by omega, rfl, by go_num, by rw [HST.out, HOR.out]⟩
      · have e : i = 2 := by omega
        subst e
        have HE : Hid (numOf 0 (r.take 2) = vv) := hid HVN.out.symm
        rw [HE.out]
        clear hi hil HCL
        by_cases hzf : z = 3
        · have hzk : formN vv = 1 := sizeN_inj (by rw [← HZ.out, hzf]; rfl)
          have HAE : Hid (A = (vv, 3, 0)) := hid (by rw [← HA.out, if_neg (fun h => h hzk)])
          subst hzf
          clear hzk
          go_wp2_with fail
          refine (HPU.out _).mono ?_
          rintro e w5 ⟨ao5, cap5, rfl, _, hb5⟩
          have HB5 := hid hb5
          clear hb5
          go_wp2_with fail
          go_ret3
          exact ⟨by rw [HAE.out]; rfl, HB5.out⟩
        · have hzk : formN vv ≠ 1 := fun e => hzf (by rw [HZ.out, e]; rfl)
          have HAE : Hid (A = (0, 0, 50)) := hid (by rw [← HA.out, if_pos hzk])
          have hzi : ¬ (z : Int) = 3 := by omega
          have hzb : ((z : Int) == 3) = false := by simpa using hzi
          clear hzk
          go_wp2_with fail
          refine (HPU.out _).mono ?_
          rintro e w5 ⟨ao5, cap5, rfl, _, hb5⟩
          have HB5 := hid hb5
          clear hb5
          go_wp2_with fail
          go_ret3
          exact ⟨by rw [HAE.out]; rfl, HB5.out⟩

set_option maxRecDepth 100000 in
set_option maxHeartbeats 2000000 in
theorem rget_2 (c : UInt8) (r : Bs) (w : World) (v : Value) (hv : Sl w v (c :: r)) (hc : c.toNat = 254) (hmax : r.length + 1 ≤ 140737488355328) : Calls Tryz.prog 50 #[v] w fun e w' => e = gotten (getB (c :: r)) ∧ Below w.heap.size w w' := by
  obtain ⟨ao, cap, rfl⟩ := hv.shape
  obtain ⟨g, o, rfl, hg, _, hcap, hcl⟩ := hv.at (by simp)
  rw [getB_cons]
  have hs : saidN c = 2 := by unfold saidN; rw [hc]; rfl
  have hvn : valN c r = numOf 0 (r.take 4) := by unfold valN; rw [hs]; rfl
  have hvl := valN_lt c r
  have hc0 : w.cell? ⟨g, o, none⟩ = some (.int .u8 (c.toNat : Int)) := hcl 0 (by simp)
  have HCL : Hid (∀ i (h : i < r.length), w.cell? ⟨g, o + (i + 1), none⟩ = some (.int .u8 (r[i].toNat : Int))) := hid (fun i h => hcl (i + 1) (by simp; omega))
  have HPU := hid (fun W => rput_any (valN c r) hvl W)
  rw [hs, put_len] at *
  clear hv hcl hvl
  simp only [List.length_cons] at hcap ⊢
  have hzz : sizeN 2 = 5 := by decide
  rw [hzz]
  
  rw [hc] at hc0
  by_cases hlen : r.length + 1 < 5
  · rw [if_pos hlen]
    have hl' : (r.length : Int) + 1 < 5 := by omega
    clear HPU HCL hvn hs hzz hmax hlen
    generalize r.length = n at *
    go_enter Tryz.func50, Tryz.ntmps50
    go_wp2_with fail
    go_ret3
    exact ⟨rfl, Below.refl _ _⟩
  · rw [if_neg hlen]
    have hl' : ¬ (r.length : Int) + 1 < 5 := by omega
    have HLEN := hid hlen
    have HVN := hid hvn
    generalize hvv : valN c r = vv at *
    obtain ⟨z, hz⟩ : ∃ z, z = sizeN (formN vv) := ⟨_, rfl⟩
    have HZ := hid hz
    rw [← hz] at HPU
    clear hvn hs hzz hlen hvv hz hc
    generalize hn : r.length = n at hl' hcap hmax ⊢
    have HN : Hid (n = r.length) := hid hn.symm
    clear hn
    generalize hA : (if formN vv ≠ 2 then ((0, 0, 50) : Nat × Nat × Nat) else (vv, 5, 0)) = A
    have HA := hid hA
    clear hA
    go_enter Tryz.func50, Tryz.ntmps50
    go_wp2_with fail
    go_loopg [6, 7] 4 (fun gg v6 v7 wr => wr = w ∧ ∃ i : Nat, i ≤ 4 ∧ gg = 4 - i ∧ v7 = .int .i64 ((i : Int) + 1) ∧ v6 = .int .u64 (numOf 0 (r.take i) : Int))
    case atStart => exact ⟨rfl, 0, by omega, by omega, rfl, rfl⟩
    case round =>
      obtain ⟨hwr, i, hi, rfl, rfl, rfl⟩ := hrel
      subst hwr
      by_cases hil : i < 4
      · have hi1 : (i : Int) + 1 < 5 := by omega
        have hir : i < r.length := by have := HLEN.out; have := HN.out; omega
        have hin : (i : Int) + 1 < (n : Int) + 1 := by have := HN.out; omega
        have hci := HCL.out i hir
        have hx := r[i].toNat_lt
        have HST : Hid (numOf 0 (r.take (i + 1)) = 256 * numOf 0 (r.take i) + r[i].toNat) := hid (by
          rw [List.take_succ_eq_append_getElem hir, numOf_app]; rfl)
        have ha : numOf 0 (r.take i) < 72057594037927936 := by
          have h1 := numOf_lt (r.take i)
          have h2 : 256 ^ (r.take i).length ≤ 256 ^ 7 := Nat.pow_le_pow_right (by decide) (by simp; omega)
          have h3 : (256 : Nat) ^ 7 = 72057594037927936 := by decide
          omega
        generalize numOf 0 (r.take i) = a at *
        generalize r[i].toNat = x at *
        have HOR := hid (or_byte a x ha hx)
        go_wp2_with fail
        go_roundg (4 - (i + 1))
        case measure => omega
        case rel => exact ⟨rfl, i + 1, by omega, rfl, by go_num, by rw [HST.out, HOR.out]⟩
      · have e : i = 4 := by omega
        subst e
        have HE : Hid (numOf 0 (r.take 4) = vv) := hid HVN.out.symm
        rw [HE.out]
        clear hi hil HCL
        by_cases hzf : z = 5
        · have hzk : formN vv = 2 := sizeN_inj (by rw [← HZ.out, hzf]; rfl)
          have HAE : Hid (A = (vv, 5, 0)) := hid (by rw [← HA.out, if_neg (fun h => h hzk)])
          subst hzf
          clear hzk
          go_wp2_with fail
          refine (HPU.out _).mono ?_
          rintro e w5 ⟨ao5, cap5, rfl, _, hb5⟩
          have HB5 := hid hb5
          clear hb5
          go_wp2_with fail
          go_ret3
          exact ⟨by rw [HAE.out]; rfl, HB5.out⟩
        · have hzk : formN vv ≠ 2 := fun e => hzf (by rw [HZ.out, e]; rfl)
          have HAE : Hid (A = (0, 0, 50)) := hid (by rw [← HA.out, if_pos hzk])
          have hzi : ¬ (z : Int) = 5 := by omega
          have hzb : ((z : Int) == 5) = false := by simpa using hzi
          clear hzk
          go_wp2_with fail
          refine (HPU.out _).mono ?_
          rintro e w5 ⟨ao5, cap5, rfl, _, hb5⟩
          have HB5 := hid hb5
          clear hb5
          go_wp2_with fail
          go_ret3
          exact ⟨by rw [HAE.out]; rfl, HB5.out⟩

set_option maxRecDepth 100000 in
set_option maxHeartbeats 2000000 in
theorem rget_3 (c : UInt8) (r : Bs) (w : World) (v : Value) (hv : Sl w v (c :: r)) (hc : c.toNat = 255) (hmax : r.length + 1 ≤ 140737488355328) : Calls Tryz.prog 50 #[v] w fun e w' => e = gotten (getB (c :: r)) ∧ Below w.heap.size w w' := by
  obtain ⟨ao, cap, rfl⟩ := hv.shape
  obtain ⟨g, o, rfl, hg, _, hcap, hcl⟩ := hv.at (by simp)
  rw [getB_cons]
  have hs : saidN c = 3 := by unfold saidN; rw [hc]; rfl
  have hvn : valN c r = numOf 0 (r.take 8) := by unfold valN; rw [hs]; rfl
  have hvl := valN_lt c r
  have hc0 : w.cell? ⟨g, o, none⟩ = some (.int .u8 (c.toNat : Int)) := hcl 0 (by simp)
  have HCL : Hid (∀ i (h : i < r.length), w.cell? ⟨g, o + (i + 1), none⟩ = some (.int .u8 (r[i].toNat : Int))) := hid (fun i h => hcl (i + 1) (by simp; omega))
  have HPU := hid (fun W => rput_any (valN c r) hvl W)
  rw [hs, put_len] at *
  clear hv hcl hvl
  simp only [List.length_cons] at hcap ⊢
  have hzz : sizeN 3 = 9 := by decide
  rw [hzz]
  
  rw [hc] at hc0
  by_cases hlen : r.length + 1 < 9
  · rw [if_pos hlen]
    have hl' : (r.length : Int) + 1 < 9 := by omega
    clear HPU HCL hvn hs hzz hmax hlen
    generalize r.length = n at *
    go_enter Tryz.func50, Tryz.ntmps50
    go_wp2_with fail
    go_ret3
    exact ⟨rfl, Below.refl _ _⟩
  · rw [if_neg hlen]
    have hl' : ¬ (r.length : Int) + 1 < 9 := by omega
    have HLEN := hid hlen
    have HVN := hid hvn
    generalize hvv : valN c r = vv at *
    obtain ⟨z, hz⟩ : ∃ z, z = sizeN (formN vv) := ⟨_, rfl⟩
    have HZ := hid hz
    rw [← hz] at HPU
    clear hvn hs hzz hlen hvv hz hc
    generalize hn : r.length = n at hl' hcap hmax ⊢
    have HN : Hid (n = r.length) := hid hn.symm
    clear hn
    generalize hA : (if formN vv ≠ 3 then ((0, 0, 50) : Nat × Nat × Nat) else (vv, 9, 0)) = A
    have HA := hid hA
    clear hA
    go_enter Tryz.func50, Tryz.ntmps50
    go_wp2_with fail
    go_loopg [6, 7] 8 (fun gg v6 v7 wr => wr = w ∧ ∃ i : Nat, i ≤ 8 ∧ gg = 8 - i ∧ v7 = .int .i64 ((i : Int) + 1) ∧ v6 = .int .u64 (numOf 0 (r.take i) : Int))
    case atStart => exact ⟨rfl, 0, by omega, by omega, rfl, rfl⟩
    case round =>
      obtain ⟨hwr, i, hi, rfl, rfl, rfl⟩ := hrel
      subst hwr
      by_cases hil : i < 8
      · have hi1 : (i : Int) + 1 < 9 := by omega
        have hir : i < r.length := by have := HLEN.out; have := HN.out; omega
        have hin : (i : Int) + 1 < (n : Int) + 1 := by have := HN.out; omega
        have hci := HCL.out i hir
        have hx := r[i].toNat_lt
        have HST : Hid (numOf 0 (r.take (i + 1)) = 256 * numOf 0 (r.take i) + r[i].toNat) := hid (by
          rw [List.take_succ_eq_append_getElem hir, numOf_app]; rfl)
        have ha : numOf 0 (r.take i) < 72057594037927936 := by
          have h1 := numOf_lt (r.take i)
          have h2 : 256 ^ (r.take i).length ≤ 256 ^ 7 := Nat.pow_le_pow_right (by decide) (by simp; omega)
          have h3 : (256 : Nat) ^ 7 = 72057594037927936 := by decide
          omega
        generalize numOf 0 (r.take i) = a at *
        generalize r[i].toNat = x at *
        have HOR := hid (or_byte a x ha hx)
        go_wp2_with fail
        go_roundg (8 - (i + 1))
        case measure => omega
        case rel => exact ⟨rfl, i + 1, by omega, rfl, by go_num, by rw [HST.out, HOR.out]⟩
      · have e : i = 8 := by omega
        subst e
        have HE : Hid (numOf 0 (r.take 8) = vv) := hid HVN.out.symm
        rw [HE.out]
        clear hi hil HCL
        by_cases hzf : z = 9
        · have hzk : formN vv = 3 := sizeN_inj (by rw [← HZ.out, hzf]; rfl)
          have HAE : Hid (A = (vv, 9, 0)) := hid (by rw [← HA.out, if_neg (fun h => h hzk)])
          subst hzf
          clear hzk
          go_wp2_with fail
          refine (HPU.out _).mono ?_
          rintro e w5 ⟨ao5, cap5, rfl, _, hb5⟩
          have HB5 := hid hb5
          clear hb5
          go_wp2_with fail
          go_ret3
          exact ⟨by rw [HAE.out]; rfl, HB5.out⟩
        · have hzk : formN vv ≠ 3 := fun e => hzf (by rw [HZ.out, e]; rfl)
          have HAE : Hid (A = (0, 0, 50)) := hid (by rw [← HA.out, if_pos hzk])
          have hzi : ¬ (z : Int) = 9 := by omega
          have hzb : ((z : Int) == 9) = false := by simpa using hzi
          clear hzk
          go_wp2_with fail
          refine (HPU.out _).mono ?_
          rintro e w5 ⟨ao5, cap5, rfl, _, hb5⟩
          have HB5 := hid hb5
          clear hb5
          go_wp2_with fail
          go_ret3
          exact ⟨by rw [HAE.out]; rfl, HB5.out⟩

set_option maxHeartbeats 400000 in
theorem rget_any (b : Bs) (w : World) (v : Value) (hs : Sl w v b) (hmax : b.length ≤ 140737488355328) : Calls Tryz.prog 50 #[v] w fun e w' => e = gotten (getB b) ∧ Below w.heap.size w w' := by
  cases b with
  | nil =>
    obtain ⟨ao, cap, rfl⟩ := hs.shape
    clear hs
    go_enter Tryz.func50, Tryz.ntmps50
    go_wp2_with fail
    go_ret3
    exact ⟨rfl, Below.refl _ _⟩
  | cons c r =>
    have hc := c.toNat_lt
    by_cases h0 : c.toNat < 253
    · exact rget_0 c r w v hs h0 (by simpa using hmax)
    · by_cases h1 : c.toNat = 253
      · exact rget_1 c r w v hs h1 (by simpa using hmax)
      · by_cases h2 : c.toNat = 254
        · exact rget_2 c r w v hs h2 (by simpa using hmax)
        · exact rget_3 c r w v hs (by omega) (by simpa using hmax)
end Go.Proofs.YtdhmmllpioppfaaGreat.V

/- The document's Stream. -/
namespace Go.Proofs.YtdhmmllpioppfaaGreat.V
open Go.RowKit

theorem rises_take (L : List Rec) (i t : Nat) (h1 : 1 ≤ i) (h : i < L.length) : risesB (L.take i) t = decide ((L[i - 1].1 : Int) < (t : Int)) := by
  have hl : (L.take i).length = i := by simp; omega
  have hne : L.take i ≠ [] := fun e => by rw [e] at hl; simp at hl; omega
  rw [rises_last hne]
  simp only [hl, List.getElem_take]
theorem rises_first (L : List Rec) (t : Nat) : risesB (L.take 0) t = true := rfl

set_option maxRecDepth 100000 in
set_option maxHeartbeats 4000000 in
theorem rstream_any (w : World) (v : Value) (L : List Rec) (hL : Rcs w v L) (hf : Few L) : Calls Tryz.prog 24 #[v] w fun e w' => ∃ ao cap, e = streamed ao cap (streamR L) ∧ w'.ownsRow w.heap.size 5 1 (.slice ao (streamR L).1.length cap) (streamR L).1.length (bcs (streamR L).1) ∧ Below w.heap.size w w' := by
  obtain ⟨ao, cap, rfl⟩ := hL.shape
  have HL := hid hL
  have HF := hid hf
  obtain ⟨A, hA⟩ : ∃ A, A = streamR L := ⟨_, rfl⟩
  rw [← hA]
  have HA := hid hA
  obtain ⟨n, hn⟩ : ∃ n, n = L.length := ⟨_, rfl⟩
  have hnm : n ≤ 140737488355328 := by rw [hn]; exact hf.1
  rw [← hn]
  have HN := hid hn
  clear hL hf hA hn
  by_cases h64 : 64 < n
  · have HAE : Hid (A = ([], 3)) := hid (by rw [HA.out]; unfold streamR; rw [if_pos (by rw [← HN.out]; exact h64)])
    have h64' : (64 : Int) < (n : Int) := by omega
    go_enter Tryz.func24, Tryz.ntmps24
    go_wp2_with fail
    go_ret2
    refine ⟨none, 0, ?_⟩
    rw [HAE.out]
    exact ⟨rfl, own_none _ _, Below.refl _ _⟩
  · have h64' : ¬ (64 : Int) < (n : Int) := by omega
    go_enter Tryz.func24, Tryz.ntmps24
    go_wp2_with fail
    go_loopg [4] (66 : Nat) (fun gg v4 wr => ∃ i : Nat, 1 ≤ i ∧ i ≤ n + 1 ∧ (i ≤ n ∨ n = 0) ∧ gg = 67 - i ∧ v4 = .int .i64 (i : Int) ∧ (∀ j (h : j < L.length), j < i → risesB (L.take j) L[j].1 = true) ∧ Below w.heap.size w wr)
    case atStart => exact ⟨1, by omega, by omega, by omega, by omega, rfl, fun j h hj => by
      have : j = 0 := by omega
      subst this
      rfl, Below.refl _ _⟩
    case round =>
      obtain ⟨i, hi0, hi, hin, rfl, rfl, hri, hbel⟩ := hrel
      have HBE := hid hbel
      have HRI := hid hri
      clear hri
      by_cases hil : i < n
      · have hi1 : (i : Int) < (n : Int) := by omega
        have hiL : i < L.length := by rw [← HN.out]; exact hil
        obtain ⟨g, o, rfl, hg, _, hcap, hc⟩ := (HL.out.below hbel).at (fun e => by rw [e] at hiL; simp at hiL)
        rw [← HN.out] at hcap
        obtain ⟨bv, h1, _, _⟩ := hc i hiL
        obtain ⟨bv2, k1, _, _⟩ := hc (i - 1) (by omega)
        have HRT := hid (rises_take L i L[i].1 hi0 hiL)
        generalize hq : L[i].1 = qt at *
        generalize hq2 : L[i - 1].1 = qs at *
        have HQ := hid hq
        obtain ⟨i1, hi2⟩ : ∃ k, i = k + 1 := ⟨i - 1, by omega⟩
        subst hi2
        have k1' : wr.cell? ⟨g, o + i1 * 2, none⟩ = some (.int .u64 (qs : Int)) := k1
        have hi3 : IntKind.i64.wrap (((i1 + 1 : Nat) : Int) - 1) = (i1 : Int) := by rw [IntKind.wrap_i64]; omega
        clear hc hq hq2 k1 hbel
        by_cases hle : qs < qt
        · have hle' : ¬ (qt : Int) ≤ (qs : Int) := by omega
          go_wp2_with fail
          go_quiet (fail)
          go_wp2_with fail
          go_roundg (67 - (i1 + 1 + 1))
          case measure => omega
          case rel =>
            refine ⟨i1 + 1 + 1, by omega, by omega, by omega, rfl, by go_num, fun j h hj => ?_, below_drewN HBE.out _⟩
            by_cases e : j = i1 + 1
            · subst e
              rw [HQ.out, HRT.out]
              simp
              omega
            · exact HRI.out j h (by omega)
        · have hle' : (qt : Int) ≤ (qs : Int) := by omega
          go_wp2_with fail
          go_quiet (fail)
          go_wp2_with fail
          go_ret2
          have hAE : A = ([], 50) := by
            rw [HA.out]
            unfold streamR
            rw [if_neg (by rw [← HN.out]; exact h64), if_pos]
            cases hra : riseAll [] L with
            | false => rfl
            | true =>
              have := (riseAll_iff [] L).1 hra (i1 + 1) hiL
              simp only [List.nil_append] at this
              rw [HQ.out, HRT.out] at this
              simp at this
              omega
          refine ⟨none, 0, ?_⟩
          rw [hAE]
          exact ⟨rfl, own_none _ _, below_drewN HBE.out _⟩
      · have HALL : Hid (riseAll [] L = true) := hid ((riseAll_iff [] L).2 (fun j h => by
          simp only [List.nil_append]
          exact HRI.out j h (by have := HN.out; omega)))
        have HAE : Hid (A = if 32768 < (streamB L).length then ([], 3) else (streamB L, 0)) := hid (by
          rw [HA.out]
          unfold streamR
          rw [if_neg (by rw [← HN.out]; exact h64), if_neg (by rw [HALL.out]; decide)])
        have hi1 : ¬ (i : Int) < (n : Int) := by omega
        obtain ⟨w1, rfl⟩ : ∃ w1, w1 = wr := ⟨_, rfl⟩
        go_wp2_with fail
        clear hbel HRI HALL hi hil hi1 hin hi0
        go_loopg [5, 6] n (fun gg v5 v6 wr => ∃ (i : Nat) (ar : Option Addr) (cr : Nat), i ≤ n ∧ gg = n - i ∧ v6 = .int .i64 (i : Int) ∧ v5 = .slice ar (streamB (L.take i)).length cr ∧ (streamB (L.take i)).length ≤ 32768 ∧ wr.ownsRow w.heap.size 5 1 (.slice ar (streamB (L.take i)).length cr) (streamB (L.take i)).length (bcs (streamB (L.take i))) ∧ Below w.heap.size w wr)
        case atStart => exact ⟨0, none, 0, by omega, by omega, rfl, rfl, by simp [streamB], own_none _ _, HBE.out⟩
        case round =>
          obtain ⟨i, ar, cr, hi, rfl, rfl, rfl, hle, how, hbel⟩ := hrel
          have HO := hid how
          have HBJ := hid hbel
          clear how HBE
          by_cases hil : i < n
          · have hi1 : (i : Int) < (n : Int) := by omega
            have hiL : i < L.length := by rw [← HN.out]; exact hil
            have hne : L ≠ [] := fun e => by rw [e] at hiL; simp at hiL
            obtain ⟨g, o, hao, hg, _, hcap, hc⟩ := HL.out.at hne
            subst hao
            rw [← HN.out] at hcap
            obtain ⟨bv, h1, h2, h3⟩ := hc i hiL
            have HC1 : Hid (∀ W, Below w.heap.size w W → W.cell? ⟨g, o + i * 2, none⟩ = some (.int .u64 (L[i].1 : Int))) := hid (fun W hb => by rw [← h1]; exact World.cell?_of_block (hb.block g hg))
            have HC2 : Hid (∀ W, Below w.heap.size w W → W.cell? ⟨g, o + i * 2 + 1, none⟩ = some bv) := hid (fun W hb => by rw [← h2]; exact World.cell?_of_block (hb.block g hg))
            obtain ⟨ab, cb, hbv⟩ := h3.shape
            subst hbv
            have HSL := hid h3
            have HFI := hid (HF.out.2 i hiL)
            have HST := hid (stream_take L i hiL)
            have HMO := hid (stream_mono L (i + 1))
            have HRL := hid (rec_len L[i])
            generalize L[i] = q at *
            obtain ⟨qt, qb⟩ := q
            simp only at *
            clear hc h1 h2 h3 hbel
            obtain ⟨m, hm⟩ : ∃ m, m = qb.length := ⟨_, rfl⟩
            rw [← hm] at HC2 HSL
            have HM := hid hm
            have hmb : m ≤ 140737488355328 := by rw [hm]; exact HFI.out.2
            clear hm
            have hc2 := HC2.out wr HBJ.out
            have hc1 := HC1.out wr HBJ.out
            obtain ⟨T, hT⟩ : ∃ T, T = streamB (L.take i) := ⟨_, rfl⟩
            rw [← hT] at hle HO HST ⊢
            have HT := hid hT
            clear hT
            by_cases hbg : 32768 < m
            · have hbg' : (32768 : Int) < (m : Int) := by omega
              go_wp2_with fail
              go_ret2
              have hS : 32768 < (streamB L).length := by
                have h1 := HMO.out
                rw [HST.out, List.length_append, HRL.out, ← HM.out] at h1
                omega
              refine ⟨none, 0, ?_⟩
              rw [HAE.out, if_pos hS]
              exact ⟨rfl, own_none _ _, HBJ.out⟩
            · have hbg' : ¬ (32768 : Int) < (m : Int) := by omega
              obtain ⟨tl, htl⟩ : ∃ k, k = T.length := ⟨_, rfl⟩
              rw [← htl] at hle HO ⊢
              have HTL := hid htl
              clear htl
              have hmw : IntKind.u64.wrap (m : Int) = (m : Int) := by rw [IntKind.wrap_u64]; omega
              have HP1 := hid (rput_any qt HFI.out.1 wr)
              go_wp2_with fail
              refine HP1.out.mono ?_
              rintro e w2 ⟨a2, c2, rfl, ho2, hb2⟩
              have HB2 := hid (HBJ.out.trans (hb2.mono HBJ.out.size))
              have hO2 : w2.ownsRow w.heap.size 5 1 (.slice ar tl cr) T.length (bcs T) := by rw [← HTL.out]; exact ownsRow_same HO.out (fun g e => hb2.block g (HO.out.lt g e).2)
              obtain ⟨a3, c3, w3, hrun3, hown3, hg3⟩ := append_bytes hO2 (Sl.own ho2 rfl) (by have := put_len qt; have := sizeN_le (formN_lt qt); have := HTL.out; omega) HB2.out.size
              have HRUN3 := hid hrun3
              have HO3 := hid hown3
              have HB3 := hid (HB2.out.grown hg3 HB2.out.size (fun k h => (hO2.lt k h).1))
              have hd3 := HC2.out w3 HB3.out
              clear hrun3 hown3 hg3 hO2 ho2 hb2 HP1 HB2 hc1 hc2
              obtain ⟨T1, hT1⟩ : ∃ T1, T1 = T ++ putB qt := ⟨_, rfl⟩
              rw [← hT1] at HRUN3 HO3
              have HT1 := hid hT1
              obtain ⟨t1, ht1⟩ : ∃ k, k = T1.length := ⟨_, rfl⟩
              rw [← ht1] at HRUN3 HO3
              have HTL1 := hid ht1
              obtain ⟨pl, hpl⟩ : ∃ k, k = (putB qt).length := ⟨_, rfl⟩
              rw [← hpl] at HRUN3 ⊢
              have hpl9 : pl ≤ 9 := by rw [hpl, put_len]; exact sizeN_le (formN_lt _)
              have HTB1 : Hid (t1 = tl + pl) := hid (by rw [ht1, hT1, List.length_append, ← HTL.out, ← hpl])
              clear hT1 ht1 hpl
              have HP2 := hid (rput_any m (by omega) w3)
              go_wp2_with (first | (at_builtin; refine wpList_append_run rfl (.tmp 41) (.tmp 47) 33 rfl (.slice ar tl cr) (.slice a2 pl c2) (.slice a3 t1 c3) w3 rfl rfl HRUN3.out ?_) | fail)
              refine HP2.out.mono ?_
              rintro e w4 ⟨a4, c4, rfl, ho4, hb4⟩
              have HB4 := hid (HB3.out.trans (hb4.mono HB3.out.size))
              have hO4 : w4.ownsRow w.heap.size 5 1 (.slice a3 t1 c3) T1.length (bcs T1) := by rw [← HTL1.out]; exact ownsRow_same HO3.out (fun g e => hb4.block g (HO3.out.lt g e).2)
              obtain ⟨a5, c5, w5, hrun5, hown5, hg5⟩ := append_bytes hO4 (Sl.own ho4 rfl) (by have := put_len m; have := sizeN_le (formN_lt m); have := HTL1.out; have := HTB1.out; omega) HB4.out.size
              have HRUN5 := hid hrun5
              have HO5 := hid hown5
              have HB5 := hid (HB4.out.grown hg5 HB4.out.size (fun k h => (hO4.lt k h).1))
              have hd5 := HC2.out w5 HB5.out
              clear hrun5 hown5 hg5 hO4 ho4 hb4 HP2 HB4 hd3
              obtain ⟨T2, hT2⟩ : ∃ T2, T2 = T1 ++ putB m := ⟨_, rfl⟩
              rw [← hT2] at HRUN5 HO5
              have HT2 := hid hT2
              obtain ⟨t2, ht2⟩ : ∃ k, k = T2.length := ⟨_, rfl⟩
              rw [← ht2] at HRUN5 HO5
              have HTL2 := hid ht2
              obtain ⟨pm, hpm⟩ : ∃ k, k = (putB m).length := ⟨_, rfl⟩
              rw [← hpm] at HRUN5 ⊢
              have hpm9 : pm ≤ 9 := by rw [hpm, put_len]; exact sizeN_le (formN_lt _)
              have HTB2 : Hid (t2 = t1 + pm) := hid (by rw [ht2, hT2, List.length_append, ← HTL1.out, ← hpm])
              clear hT2 ht2 hpm
              have hO5' : w5.ownsRow w.heap.size 5 1 (.slice a5 t2 c5) T2.length (bcs T2) := by rw [← HTL2.out]; exact HO5.out
              have hSL5 : Sl w5 (.slice ab m cb) qb := by have := HSL.out.below HB5.out; exact this
              obtain ⟨a6, c6, w6, hrun6, hown6, hg6⟩ := append_bytes hO5' hSL5 (by have := HTL2.out; have := HTB2.out; have := HTB1.out; have := HM.out; omega) HB5.out.size
              have HRUN6 := hid hrun6
              have HO6 := hid hown6
              have HB6 := hid (HB5.out.grown hg6 HB5.out.size (fun k h => (hO5'.lt k h).1))
              clear hrun6 hown6 hg6 hO5' hSL5
              have HT3 : Hid (T2 ++ qb = streamB (L.take (i + 1))) := hid (by
                rw [HST.out, HT2.out, HT1.out]
                unfold recB
                simp [← HM.out])
              rw [HT3.out] at HRUN6 HO6
              obtain ⟨t3, ht3⟩ : ∃ k, k = (streamB (L.take (i + 1))).length := ⟨_, rfl⟩
              rw [← ht3] at HRUN6 HO6
              have HTL3 := hid ht3
              have ht3b : t3 ≤ 100000 := by rw [ht3, ← HT3.out, List.length_append, ← HTL2.out, ← HM.out]; have := HTB2.out; have := HTB1.out; omega
              clear ht3
              by_cases hlm : 32768 < t3
              · have hlm' : (32768 : Int) < (t3 : Int) := by omega
                go_wp2_with (first | (at_builtin; refine wpList_append_run rfl (.tmp 49) (.tmp 57) 33 rfl (.slice a3 t1 c3) (.slice a4 pm c4) (.slice a5 t2 c5) w5 rfl rfl HRUN5.out ?_) | (at_builtin; refine wpList_append_run rfl (.tmp 59) (.tmp 64) 33 rfl (.slice a5 t2 c5) (.slice ab m cb) (.slice a6 t3 c6) w6 rfl rfl HRUN6.out ?_) | fail)
                go_ret2
                have hS : 32768 < (streamB L).length := by have h1 := HMO.out; rw [← HTL3.out] at h1; omega
                refine ⟨none, 0, ?_⟩
                rw [HAE.out, if_pos hS]
                exact ⟨rfl, own_none _ _, HB6.out⟩
              · have hlm' : ¬ (32768 : Int) < (t3 : Int) := by omega
                go_wp2_with (first | (at_builtin; refine wpList_append_run rfl (.tmp 49) (.tmp 57) 33 rfl (.slice a3 t1 c3) (.slice a4 pm c4) (.slice a5 t2 c5) w5 rfl rfl HRUN5.out ?_) | (at_builtin; refine wpList_append_run rfl (.tmp 59) (.tmp 64) 33 rfl (.slice a5 t2 c5) (.slice ab m cb) (.slice a6 t3 c6) w6 rfl rfl HRUN6.out ?_) | fail)
                go_roundg (n - (i + 1))
                case measure => omega
                case rel => exact ⟨i + 1, a6, c6, by omega, rfl, by go_num, by rw [← HTL3.out], by rw [← HTL3.out]; omega, by rw [← HTL3.out]; exact HO6.out, HB6.out⟩
          · have e : i = n := by omega
            subst e
            have HTK : Hid (L.take i = L) := by apply hid; rw [HN.out]; simp
            rw [HTK.out] at HO hle ⊢
            rw [if_neg (by omega)] at HAE
            clear hbel
            generalize hS : (streamB L).length = S at *
            have HS := hid hS
            clear hS
            go_wp2_with fail
            go_ret2
            refine ⟨ar, cr, ?_⟩
            rw [HAE.out]
            simp only [streamed, HS.out]
            exact ⟨rfl, HO.out, HBJ.out⟩
end Go.Proofs.YtdhmmllpioppfaaGreat.V

/- The document's Records. -/
namespace Go.Proofs.YtdhmmllpioppfaaGreat.V
open Go.RowKit

theorem next_e1 {L : List Rec} {c : Bs} {t k e : Nat} (hg : getB c = (t, k, e)) (he : e ≠ 0) : nextB L c = ((0, []), [], e) := by
  unfold nextB; simp only [hg]; rw [if_pos he]
theorem next_e2 {L : List Rec} {c : Bs} {t k : Nat} (hg : getB c = (t, k, 0)) (hr : risesB L t = false) : nextB L c = ((0, []), [], 50) := by
  unfold nextB; simp only [hg]; rw [if_neg (by simp), if_pos hr]
theorem next_e3 {L : List Rec} {c : Bs} {t k : Nat} (hg : getB c = (t, k, 0)) (hr : risesB L t = true) (h64 : 64 ≤ L.length) : nextB L c = ((0, []), [], 3) := by
  unfold nextB; simp only [hg]; rw [if_neg (by simp), if_neg (by simp [hr]), if_pos h64]
theorem next_e4 {L : List Rec} {c : Bs} {t k s k2 e2 : Nat} (hg : getB c = (t, k, 0)) (hr : risesB L t = true) (h64 : ¬ 64 ≤ L.length) (hg2 : getB (c.drop k) = (s, k2, e2)) (he : e2 ≠ 0) : nextB L c = ((0, []), [], e2) := by
  unfold nextB; simp only [hg, hg2]; rw [if_neg (by simp), if_neg (by simp [hr]), if_neg h64, if_pos he]
theorem next_e5 {L : List Rec} {c : Bs} {t k s k2 : Nat} (hg : getB c = (t, k, 0)) (hr : risesB L t = true) (h64 : ¬ 64 ≤ L.length) (hg2 : getB (c.drop k) = (s, k2, 0)) (hs : ((c.drop k).drop k2).length < s) : nextB L c = ((0, []), [], 51) := by
  unfold nextB; simp only [hg, hg2]; rw [if_neg (by simp), if_neg (by simp [hr]), if_neg h64, if_neg (by simp), if_pos hs]
theorem next_e6 {L : List Rec} {c : Bs} {t k s k2 : Nat} (hg : getB c = (t, k, 0)) (hr : risesB L t = true) (h64 : ¬ 64 ≤ L.length) (hg2 : getB (c.drop k) = (s, k2, 0)) (hs : ¬ ((c.drop k).drop k2).length < s) : nextB L c = ((t, ((c.drop k).drop k2).take s), ((c.drop k).drop k2).drop s, 0) := by
  unfold nextB; simp only [hg, hg2]; rw [if_neg (by simp), if_neg (by simp [hr]), if_neg h64, if_neg (by simp), if_neg hs]

set_option maxRecDepth 100000 in
set_option maxHeartbeats 8000000 in
theorem rrecords_any (w : World) (v : Value) (b : Bs) (hb : Sl w v b) (hbm : b.length ≤ 140737488355328) :
    Calls Tryz.prog 30 #[v] w fun e w' => ∃ ao cap, e = recorded ao cap (recsB b) ∧ Ro w.heap.size w' (.slice ao (recsB b).1.length cap) (recsB b).1 ∧ Below w.heap.size w w' := by
  obtain ⟨ao, cap, rfl⟩ := hb.shape
  have HB := hid hb
  obtain ⟨A, hA⟩ : ∃ A, A = recsB b := ⟨_, rfl⟩
  rw [← hA]
  have HA := hid hA
  clear hb hA
  by_cases hbig : 32768 < b.length
  · have HAE : Hid (A = ([], 3)) := hid (by rw [HA.out]; unfold recsB; rw [if_pos hbig])
    have hbig' : (32768 : Int) < (b.length : Int) := by omega
    generalize b.length = m at *
    go_enter Tryz.func30, Tryz.ntmps30
    go_wp2_with fail
    go_ret2
    refine ⟨none, 0, ?_⟩
    rw [HAE.out]
    exact ⟨rfl, Ro.nil _ _, Below.refl _ _⟩
  · have HAE : Hid (A = recsGo b.length [] b) := hid (by rw [HA.out]; unfold recsB; rw [if_neg hbig])
    have hbig' : ¬ (32768 : Int) < (b.length : Int) := by omega
    obtain ⟨m, hm⟩ : ∃ m, m = b.length := ⟨_, rfl⟩
    have HM := hid hm
    rw [← hm] at hbig hbig' hbm HB ⊢
    clear hm HA
    go_enter Tryz.func30, Tryz.ntmps30
    go_wp2_with fail
    go_loopg [0, 4, 5, 6, 7, 8, 9] m (fun gg v0 v4 v5 v6 v7 v8 v9 wr => ∃ (L : List Rec) (c : Bs) (al : Option Addr) (cl : Nat) (ab : Option Addr) (cb : Nat), gg = c.length ∧ c.length ≤ m ∧ L.length ≤ 64 ∧ v0 = .slice ab c.length cb ∧ v4 = .slice al L.length cl ∧ Sl w (.slice ab c.length cb) c ∧ Ro w.heap.size wr (.slice al L.length cl) L ∧ A = recsGo c.length L c ∧ Below w.heap.size w wr)
    case atStart => exact ⟨[], b, none, 0, ao, cap, HM.out, by rw [HM.out]; exact Nat.le_refl _, by simp, by rw [← HM.out], rfl, by rw [← HM.out]; exact HB.out, Ro.nil _ _, HAE.out, Below.refl _ _⟩
    case round =>
      obtain ⟨L, c, al, cl, ab, cb, rfl, hcm, hL64, rfl, rfl, hsl, hro, hgo, hbel⟩ := hrel
      have HSL := hid hsl
      have HRO := hid hro
      have HGO := hid hgo
      have HBE := hid hbel
      clear hsl hro hgo hbel HAE HB
      by_cases hc : c = []
      · subst hc
        have HAE : Hid (A = (L, 0)) := hid (by rw [HGO.out]; rfl)
        generalize hn : L.length = n at *
        have HN := hid hn
        clear hn
        go_wp2_with fail
        go_ret2
        refine ⟨al, cl, ?_⟩
        rw [HAE.out]
        simp only [recorded, HN.out]
        exact ⟨rfl, HRO.out, HBE.out⟩
      · have hpos := List.length_pos_iff.2 hc
        have HGO2 := hid (HGO.out.trans (recs_step hc))
        have HG := hid (rget_any c wr _ (HSL.out.below HBE.out) (by omega))
        generalize hg : getB c = gg at *
        have HGE := hid hg
        obtain ⟨t, k, e⟩ := gg
        simp only [gotten] at HG
        have HRIS : Hid (L = [] ∨ ∃ (ne : L ≠ []), risesB L t = decide (((L[L.length - 1]'(by have := List.length_pos_iff.2 ne; omega)).1 : Int) < (t : Int))) := hid (by
          by_cases h : L = []
          · exact Or.inl h
          · exact Or.inr ⟨h, rises_last h t⟩)
        obtain ⟨q, hq⟩ : ∃ q, q = c.length := ⟨_, rfl⟩
        rw [← hq] at HG hpos hcm HSL ⊢
        have HQ := hid hq
        have hpos' : (0 : Int) < (q : Int) := by omega
        clear hc hq hg HGO
        by_cases he : e = 0
        · subst he
          -- does the type rise?
          obtain ⟨rb, hrb⟩ : ∃ rb, rb = risesB L t := ⟨_, rfl⟩
          have HRB := hid hrb.symm
          have HLAST : Hid (∀ W, Ro w.heap.size W (.slice al L.length cl) L → (L = [] ∧ rb = true) ∨ ∃ g o ql, L ≠ [] ∧ al = some ⟨g, o, none⟩ ∧ W.cell? ⟨g, o + (L.length - 1) * 2, none⟩ = some (.int .u64 (ql : Nat)) ∧ L.length ≤ cl ∧ rb = decide ((ql : Int) < (t : Int))) := hid (fun W hW => by
            rcases HRIS.out with h | ⟨h, h2⟩
            · refine Or.inl ⟨h, ?_⟩
              rw [hrb, h]
              rfl
            · have hp := List.length_pos_iff.2 h
              obtain ⟨g, o, e, _, _, hcc, hc2⟩ := hW.rcs.at h
              obtain ⟨_, d1, _, _⟩ := hc2 (L.length - 1) (by omega)
              exact Or.inr ⟨g, o, _, h, e, d1, hcc, hrb.trans h2⟩)
          clear hrb HRIS
          go_wp2_with fail
          refine HG.out.mono ?_
          rintro e1 w1 ⟨rfl, hb1⟩
          have HB1 := hid (HBE.out.trans (hb1.mono HBE.out.size))
          have HRO1 := hid (HRO.out.below hb1)
          have HLA := HLAST.out w1 HRO1.out
          clear hb1 HG HLAST HRO HBE
          obtain ⟨n, hn⟩ : ∃ n, n = L.length := ⟨_, rfl⟩
          rw [← hn] at HRO1 hL64 HLA ⊢
          have HN := hid hn
          clear hn
          rcases HLA with ⟨hL0, hrt⟩ | ⟨g, o, ql, hLn, hal, hcl, hccl, hrt⟩
          · have hn0 : n = 0 := by rw [HN.out, hL0]; rfl
            subst hn0
            subst hrt
            clear hL0
            have h64 : ¬ (0 : Nat) = 64 := by decide
            · have h64n : ¬ 64 ≤ L.length := by rw [← HN.out]; omega
              have h64b : (((0 : Nat) : Int) == 64) = false := by simp <;> omega
              obtain ⟨ho1, ho2, ho3, ho4⟩ := get_ok HGE.out
              obtain ⟨a1, c1, hs1, hx1⟩ := cutRun ab q cb c k ho4 HQ.out
              have hs1' := hs1 .i64
              have HX1 := hid (hx1 w HSL.out)
              have HD1 : Hid ((c.drop k).length = q - k) := hid (by rw [List.length_drop, HQ.out])
              have HG2 := hid (rget_any (c.drop k) w1 _ (HX1.out.below HB1.out) (by rw [HD1.out]; omega))
              obtain ⟨m1, hm1⟩ : ∃ m1, m1 = q - k := ⟨_, rfl⟩
              rw [← hm1] at hs1' HX1 HG2 HD1
              have hm1b : m1 ≤ q := by omega
              clear hs1 hx1 ho1 ho2 ho4 hm1
              generalize hg2 : getB (c.drop k) = g2 at *
              have HGE2 := hid hg2
              obtain ⟨sz, k2, e2⟩ := g2
              simp only [gotten] at HG2
              clear hg2
              go_wp2_with fail
              refine HG2.out.mono ?_
              rintro e2' w2 ⟨rfl, hb2⟩
              have HB2 := hid (HB1.out.trans (hb2.mono HB1.out.size))
              have HRO2 := hid (HRO1.out.below hb2)
              clear hb2 HG2 HRO1 HB1 hs1' ho3
              by_cases he2 : e2 = 0
              · subst he2
                obtain ⟨hp1, hp2, hp3, hp4⟩ := get_ok HGE2.out
                clear hp1 hp2
                have hszl := get_lt HGE2.out
                obtain ⟨a2, c2, hs2, hx2⟩ := cutRun a1 m1 c1 (c.drop k) k2 hp4 HD1.out.symm
                have hs2' := hs2 .i64
                have HX2 := hid (hx2 w HX1.out)
                have HD2 : Hid (((c.drop k).drop k2).length = m1 - k2) := hid (by rw [List.length_drop, HD1.out])
                obtain ⟨m2, hm2⟩ : ∃ m2, m2 = m1 - k2 := ⟨_, rfl⟩
                rw [← hm2] at hs2' HX2 HD2
                have hm2b : m2 ≤ q := by omega
                have hm2c : m2 < q := by omega
                have hmw : IntKind.u64.wrap (m2 : Int) = (m2 : Int) := by rw [IntKind.wrap_u64]; omega
                clear hs2 hx2 hp3 hp4 hm2
                by_cases hsh : m2 < sz
                · have hsh' : (m2 : Int) < (sz : Int) := by omega
                  have HNB := hid (next_e5 HGE.out HRB.out h64n HGE2.out (by rw [HD2.out]; exact hsh))
                  rw [HNB.out, if_pos (by decide)] at HGO2
                  go_wp2_with fail
                  go_ret2
                  refine ⟨none, 0, ?_⟩
                  rw [HGO2.out]
                  exact ⟨rfl, Ro.nil _ _, HB2.out⟩
                · have hsh' : ¬ (m2 : Int) < (sz : Int) := by omega
                  have HNB := hid (next_e6 HGE.out HRB.out h64n HGE2.out (by rw [HD2.out]; exact hsh))
                  rw [HNB.out, if_neg (by simp)] at HGO2
                  generalize (c.drop k).drop k2 = cc at *
                  simp only at HGO2
                  obtain ⟨hs3, hx3⟩ := HX2.out.takeRun sz (by rw [HD2.out]; omega) HD2.out.symm
                  obtain ⟨a4, c4, hs4, hx4⟩ := cutRun a2 m2 c2 cc sz (by rw [HD2.out]; omega) HD2.out.symm
                  have hs3' := hs3 .u64
                  have hs4' := hs4 .u64
                  have HX4 := hid (hx4 w HX2.out)
                  have HTL : Hid ((cc.take sz).length = sz) := hid (by rw [List.length_take, HD2.out]; omega)
                  have HDL : Hid ((cc.drop sz).length = m2 - sz) := hid (by rw [List.length_drop, HD2.out])
                  obtain ⟨a5, c5, w5, hrun5, hown5, hg5⟩ := append_bytes (own_none w2 w.heap.size) (hx3.below HB2.out) (by rw [HTL.out]; simp; omega) HB2.out.size
                  rw [List.nil_append] at hrun5 hown5
                  rw [HTL.out] at hrun5 hown5
                  have HB5 := hid (HB2.out.grown hg5 HB2.out.size (fun k h => by cases h))
                  have hbl5 : Below w2.heap.size w2 w5 := ⟨hg5.os, hg5.tape, hg5.output, hg5.size, fun k hk => hg5.block k hk (fun e => by cases e)⟩
                  have hro5 := HRO2.out.below hbl5
                  have hro5' : Ro w.heap.size w5 (.slice al L.length cl) L := by rw [← HN.out]; exact hro5
                  obtain ⟨a6, c6, w6, hrun6, hro6, hb6⟩ := append_rec (t := t) (body := cc.take sz) hro5' (by rw [HTL.out]; exact hown5) (one_slice _ _ _) (by rw [← HN.out]; omega) HB5.out.size
                  rw [← HN.out] at hrun6 hro6
                  have HRUN5 := hid hrun5
                  have HRUN6 := hid hrun6
                  have HRO6 := hid hro6
                  have HB6 := hid (HB5.out.trans hb6)
                  obtain ⟨m3, hm3⟩ : ∃ m3, m3 = m2 - sz := ⟨_, rfl⟩
                  rw [← hm3] at hs4' HX4 HDL
                  have HM3 := hid hm3
                  clear hs3 hs4 hx3 hx4 hrun5 hown5 hg5 hbl5 hro5 hro5' hrun6 hro6 hb6 hm3
                  go_wp2_with (first | (at_builtin; refine wpList_append_run rfl (.tmp 62) (.tmp 65) 33 rfl (.slice none 0 0) (.slice a2 sz c2) (.slice a5 sz c5) w5 rfl rfl HRUN5.out ?_) | (at_builtin; refine wpList_append_run rfl (.tmp 67) (.tmp 71) 25 rfl (.slice al 0 cl) (.slice (some ⟨w5.heap.size, 0, none⟩) 1 1) (.slice a6 (0 + 1) c6) w6 rfl rfl HRUN6.out ?_) | fail)
                  go_roundg m3
                  case measure => have := HQ.out; have := HM3.out; omega
                  case rel =>
                    refine ⟨L ++ [(t, cc.take sz)], cc.drop sz, a6, c6, a4, c4, by rw [HDL.out], by rw [HDL.out]; have := HM3.out; omega, by simp [← HN.out] <;> omega, by rw [HDL.out], by simp [← HN.out], by rw [HDL.out]; exact HX4.out, ?_, HGO2.out, HB6.out⟩
                    have h3 := HRO6.out
                    rw [HN.out] at h3
                    simpa using h3
              · have HNB := hid (next_e4 HGE.out HRB.out h64n HGE2.out he2)
                rw [HNB.out, if_pos he2] at HGO2
                have he' : ((e2 : Int) == 0) = false := by simpa using he2
                go_wp2_with fail
                go_ret2
                refine ⟨none, 0, ?_⟩
                rw [HGO2.out]
                exact ⟨rfl, Ro.nil _ _, HB2.out⟩

          · obtain ⟨n1, hn1⟩ : ∃ n1, n = n1 + 1 := ⟨n - 1, by have := List.length_pos_iff.2 hLn; have := HN.out; omega⟩
            subst hn1
            subst hal
            have hcl' : w1.cell? ⟨g, o + n1 * 2, none⟩ = some (.int .u64 (ql : Int)) := hcl
            have hn2 : (0 : Int) < ((n1 + 1 : Nat) : Int) := by omega
            clear hLn hcl
            cases rb with
            | true =>
              have hlt : ¬ (t : Int) ≤ (ql : Int) := by
                have := hrt.symm
                simp only [decide_eq_true_eq] at this
                omega
              have hlt2 : decide ((t : Int) ≤ (ql : Int)) = false := by simpa using hlt
              clear hrt
              by_cases h64 : (n1 + 1) = 64
              · have HNB := hid (next_e3 HGE.out HRB.out (by rw [← HN.out]; omega))
                rw [HNB.out, if_pos (by decide)] at HGO2
                have hn63 : n1 = 63 := by omega
                subst hn63
                go_wp2_with fail
                go_ret2
                refine ⟨none, 0, ?_⟩
                rw [HGO2.out]
                exact ⟨rfl, Ro.nil _ _, HB1.out⟩
              · have h64n : ¬ 64 ≤ L.length := by rw [← HN.out]; omega
                have h64b : ((((n1 + 1) : Nat) : Int) == 64) = false := by simp <;> omega
                obtain ⟨ho1, ho2, ho3, ho4⟩ := get_ok HGE.out
                obtain ⟨a1, c1, hs1, hx1⟩ := cutRun ab q cb c k ho4 HQ.out
                have hs1' := hs1 .i64
                have HX1 := hid (hx1 w HSL.out)
                have HD1 : Hid ((c.drop k).length = q - k) := hid (by rw [List.length_drop, HQ.out])
                have HG2 := hid (rget_any (c.drop k) w1 _ (HX1.out.below HB1.out) (by rw [HD1.out]; omega))
                obtain ⟨m1, hm1⟩ : ∃ m1, m1 = q - k := ⟨_, rfl⟩
                rw [← hm1] at hs1' HX1 HG2 HD1
                have hm1b : m1 ≤ q := by omega
                clear hs1 hx1 ho1 ho2 ho4 hm1
                generalize hg2 : getB (c.drop k) = g2 at *
                have HGE2 := hid hg2
                obtain ⟨sz, k2, e2⟩ := g2
                simp only [gotten] at HG2
                clear hg2
                go_wp2_with fail
                refine HG2.out.mono ?_
                rintro e2' w2 ⟨rfl, hb2⟩
                have HB2 := hid (HB1.out.trans (hb2.mono HB1.out.size))
                have HRO2 := hid (HRO1.out.below hb2)
                clear hb2 HG2 HRO1 HB1 hs1' ho3
                by_cases he2 : e2 = 0
                · subst he2
                  obtain ⟨hp1, hp2, hp3, hp4⟩ := get_ok HGE2.out
                  clear hp1 hp2
                  have hszl := get_lt HGE2.out
                  obtain ⟨a2, c2, hs2, hx2⟩ := cutRun a1 m1 c1 (c.drop k) k2 hp4 HD1.out.symm
                  have hs2' := hs2 .i64
                  have HX2 := hid (hx2 w HX1.out)
                  have HD2 : Hid (((c.drop k).drop k2).length = m1 - k2) := hid (by rw [List.length_drop, HD1.out])
                  obtain ⟨m2, hm2⟩ : ∃ m2, m2 = m1 - k2 := ⟨_, rfl⟩
                  rw [← hm2] at hs2' HX2 HD2
                  have hm2b : m2 ≤ q := by omega
                  have hm2c : m2 < q := by omega
                  have hmw : IntKind.u64.wrap (m2 : Int) = (m2 : Int) := by rw [IntKind.wrap_u64]; omega
                  clear hs2 hx2 hp3 hp4 hm2
                  by_cases hsh : m2 < sz
                  · have hsh' : (m2 : Int) < (sz : Int) := by omega
                    have HNB := hid (next_e5 HGE.out HRB.out h64n HGE2.out (by rw [HD2.out]; exact hsh))
                    rw [HNB.out, if_pos (by decide)] at HGO2
                    go_wp2_with fail
                    go_ret2
                    refine ⟨none, 0, ?_⟩
                    rw [HGO2.out]
                    exact ⟨rfl, Ro.nil _ _, HB2.out⟩
                  · have hsh' : ¬ (m2 : Int) < (sz : Int) := by omega
                    have HNB := hid (next_e6 HGE.out HRB.out h64n HGE2.out (by rw [HD2.out]; exact hsh))
                    rw [HNB.out, if_neg (by simp)] at HGO2
                    generalize (c.drop k).drop k2 = cc at *
                    simp only at HGO2
                    obtain ⟨hs3, hx3⟩ := HX2.out.takeRun sz (by rw [HD2.out]; omega) HD2.out.symm
                    obtain ⟨a4, c4, hs4, hx4⟩ := cutRun a2 m2 c2 cc sz (by rw [HD2.out]; omega) HD2.out.symm
                    have hs3' := hs3 .u64
                    have hs4' := hs4 .u64
                    have HX4 := hid (hx4 w HX2.out)
                    have HTL : Hid ((cc.take sz).length = sz) := hid (by rw [List.length_take, HD2.out]; omega)
                    have HDL : Hid ((cc.drop sz).length = m2 - sz) := hid (by rw [List.length_drop, HD2.out])
                    obtain ⟨a5, c5, w5, hrun5, hown5, hg5⟩ := append_bytes (own_none w2 w.heap.size) (hx3.below HB2.out) (by rw [HTL.out]; simp; omega) HB2.out.size
                    rw [List.nil_append] at hrun5 hown5
                    rw [HTL.out] at hrun5 hown5
                    have HB5 := hid (HB2.out.grown hg5 HB2.out.size (fun k h => by cases h))
                    have hbl5 : Below w2.heap.size w2 w5 := ⟨hg5.os, hg5.tape, hg5.output, hg5.size, fun k hk => hg5.block k hk (fun e => by cases e)⟩
                    have hro5 := HRO2.out.below hbl5
                    have hro5' : Ro w.heap.size w5 (.slice (some ⟨g, o, none⟩) L.length cl) L := by rw [← HN.out]; exact hro5
                    obtain ⟨a6, c6, w6, hrun6, hro6, hb6⟩ := append_rec (t := t) (body := cc.take sz) hro5' (by rw [HTL.out]; exact hown5) (one_slice _ _ _) (by rw [← HN.out]; omega) HB5.out.size
                    rw [← HN.out] at hrun6 hro6
                    have HRUN5 := hid hrun5
                    have HRUN6 := hid hrun6
                    have HRO6 := hid hro6
                    have HB6 := hid (HB5.out.trans hb6)
                    obtain ⟨m3, hm3⟩ : ∃ m3, m3 = m2 - sz := ⟨_, rfl⟩
                    rw [← hm3] at hs4' HX4 HDL
                    have HM3 := hid hm3
                    clear hs3 hs4 hx3 hx4 hrun5 hown5 hg5 hbl5 hro5 hro5' hrun6 hro6 hb6 hm3
                    go_wp2_with (first | (at_builtin; refine wpList_append_run rfl (.tmp 62) (.tmp 65) 33 rfl (.slice none 0 0) (.slice a2 sz c2) (.slice a5 sz c5) w5 rfl rfl HRUN5.out ?_) | (at_builtin; refine wpList_append_run rfl (.tmp 67) (.tmp 71) 25 rfl (.slice (some ⟨g, o, none⟩) (n1 + 1) cl) (.slice (some ⟨w5.heap.size, 0, none⟩) 1 1) (.slice a6 ((n1 + 1) + 1) c6) w6 rfl rfl HRUN6.out ?_) | fail)
                    go_roundg m3
                    case measure => have := HQ.out; have := HM3.out; omega
                    case rel =>
                      refine ⟨L ++ [(t, cc.take sz)], cc.drop sz, a6, c6, a4, c4, by rw [HDL.out], by rw [HDL.out]; have := HM3.out; omega, by simp [← HN.out] <;> omega, by rw [HDL.out], by simp [← HN.out], by rw [HDL.out]; exact HX4.out, ?_, HGO2.out, HB6.out⟩
                      have h3 := HRO6.out
                      rw [HN.out] at h3
                      simpa using h3
                · have HNB := hid (next_e4 HGE.out HRB.out h64n HGE2.out he2)
                  rw [HNB.out, if_pos he2] at HGO2
                  have he' : ((e2 : Int) == 0) = false := by simpa using he2
                  go_wp2_with fail
                  go_ret2
                  refine ⟨none, 0, ?_⟩
                  rw [HGO2.out]
                  exact ⟨rfl, Ro.nil _ _, HB2.out⟩

            | false =>
              have hlt : (t : Int) ≤ (ql : Int) := by
                have := hrt.symm
                simp only [decide_eq_false_iff_not] at this
                omega
              clear hrt
              have HNB := hid (next_e2 HGE.out HRB.out)
              rw [HNB.out, if_pos (by decide)] at HGO2
              go_wp2_with fail
              go_ret2
              refine ⟨none, 0, ?_⟩
              rw [HGO2.out]
              exact ⟨rfl, Ro.nil _ _, HB1.out⟩
        · clear HRIS
          have HNB := hid (next_e1 (L := L) HGE.out he)
          rw [HNB.out, if_pos he] at HGO2
          have he' : ((e : Int) == 0) = false := by simpa using he
          generalize L.length = n at *
          go_wp2_with fail
          refine HG.out.mono ?_
          rintro e1 w1 ⟨rfl, hb1⟩
          have HB1 := hid (HBE.out.trans (hb1.mono HBE.out.size))
          clear hb1
          go_wp2_with fail
          go_ret2
          refine ⟨none, 0, ?_⟩
          rw [HGO2.out]
          exact ⟨rfl, Ro.nil _ _, HB1.out⟩
end Go.Proofs.YtdhmmllpioppfaaGreat.V

/- Records in memory of their own. -/
namespace Go.Proofs.YtdhmmllpioppfaaGreat.V
open Go.RowKit

theorem take_snoc (L : List Rec) (i : Nat) (h : i < L.length) : L.take (i + 1) = L.take i ++ [L[i]] := List.take_succ_eq_append_getElem h

set_option maxRecDepth 100000 in
set_option maxHeartbeats 4000000 in
theorem lent_any (w : World) (v : Value) (L : List Rec) (hL : Rcs w v L) (hs : Sm L) : Calls Tryz.prog 18 #[v] w fun e w' => ∃ ao cap, e = .returned (.slice ao L.length cap) ∧ Ro w.heap.size w' (.slice ao L.length cap) L ∧ Below w.heap.size w w' := by
  obtain ⟨ao, cap, rfl⟩ := hL.shape
  have HL := hid hL
  have HS := hid hs
  obtain ⟨n, hn⟩ : ∃ n, n = L.length := ⟨_, rfl⟩
  have hn3 : n ≤ 4000 := by rw [hn]; exact hs.1
  rw [← hn]
  have HN := hid hn
  clear hL hs hn
  go_enter Tryz.func18, Tryz.ntmps18
  go_wp2_with fail
  go_loopg [3, 4, 5] n (fun gg v3 v4 v5 wr => ∃ (i : Nat) (ar : Option Addr) (cr : Nat), i ≤ n ∧ gg = n - i ∧ v4 = .int .i64 (i : Int) ∧ v3 = .slice ar i cr ∧ Ro w.heap.size wr (.slice ar i cr) (L.take i) ∧ Below w.heap.size w wr)
  case atStart => exact ⟨0, none, 0, by omega, by omega, rfl, rfl, Ro.nil _ _, Below.refl _ _⟩
  case round =>
    obtain ⟨i, ar, cr, hi, rfl, rfl, rfl, hro, hbel⟩ := hrel
    have HR := hid hro
    have HBE := hid hbel
    clear hro
    by_cases hil : i < n
    · have hi1 : (i : Int) < (n : Int) := by omega
      have hiL : i < L.length := by rw [← HN.out]; exact hil
      have hne : L ≠ [] := fun e => by rw [e] at hiL; simp at hiL
      obtain ⟨g, o, hao, hg, _, hcap, hc⟩ := HL.out.at hne
      subst hao
      rw [← HN.out] at hcap
      obtain ⟨bv, h1, h2, h3⟩ := hc i hiL
      have HC1 : Hid (∀ W, Below w.heap.size w W → W.cell? ⟨g, o + i * 2, none⟩ = some (.int .u64 (L[i].1 : Int))) := hid (fun W hb => by rw [← h1]; exact World.cell?_of_block (hb.block g hg))
      have HC2 : Hid (∀ W, Below w.heap.size w W → W.cell? ⟨g, o + i * 2 + 1, none⟩ = some bv) := hid (fun W hb => by rw [← h2]; exact World.cell?_of_block (hb.block g hg))
      obtain ⟨ab, cb, hbv⟩ := h3.shape
      subst hbv
      have HSL := hid h3
      have HB3 := hid (HS.out.2 i hiL)
      have HTS := hid (take_snoc L i hiL)
      have HTL : Hid ((L.take i).length = i) := hid (by simp; omega)
      generalize L[i] = q at *
      obtain ⟨qt, qb⟩ := q
      simp only at *
      clear hc h1 h2 h3
      obtain ⟨a5, c5, w5, hrun5, hown5, hg5⟩ := append_bytes (own_none wr w.heap.size) (HSL.out.below hbel) (by have := HB3.out; simp; omega) hbel.size
      rw [List.nil_append] at hrun5 hown5
      have HB5 := hid (HBE.out.grown hg5 HBE.out.size (fun k h => by cases h))
      have hbl5 : Below wr.heap.size wr w5 := ⟨hg5.os, hg5.tape, hg5.output, hg5.size, fun k hk => hg5.block k hk (fun e => by cases e)⟩
      have hro5 := HR.out.below hbl5
      obtain ⟨a6, c6, w6, hrun6, hro6, hb6⟩ := append_rec (t := qt) hro5 hown5 (one_slice _ _ _) (by rw [HTL.out]; omega) HB5.out.size
      rw [HTL.out] at hrun6 hro6
      rw [← HTS.out] at hro6
      have HRUN5 := hid hrun5
      have HRUN6 := hid hrun6
      have HRO6 := hid hro6
      have HB6 := hid (HB5.out.trans hb6)
      have hc2 := HC2.out wr HBE.out
      have hc1 := HC1.out w5 HB5.out
      obtain ⟨m, hm⟩ : ∃ m, m = qb.length := ⟨_, rfl⟩
      rw [← hm] at hc2 HRUN5 HRUN6
      clear hrun5 hown5 hg5 hbl5 hro5 hrun6 hro6 hb6 hbel hm
      go_wp2_with (first | (at_builtin; refine wpList_append_run rfl (.tmp 12) (.tmp 17) 33 rfl (.slice none 0 0) (.slice ab m cb) (.slice a5 m c5) w5 rfl rfl HRUN5.out ?_) | (at_builtin; refine wpList_append_run rfl (.tmp 19) (.tmp 27) 25 rfl (.slice ar i cr) (.slice (some ⟨w5.heap.size, 0, none⟩) 1 1) (.slice a6 (i + 1) c6) w6 rfl rfl HRUN6.out ?_) | fail)
      go_roundg (n - (i + 1))
      case measure => omega
      case rel => exact ⟨i + 1, a6, c6, by omega, rfl, by go_num, rfl, HRO6.out, HB6.out⟩
    · have e : i = n := by omega
      subst e
      have HTK : Hid (L.take i = L) := by apply hid; rw [HN.out]; simp
      have hr9 := HR.out
      rw [HTK.out] at hr9
      have HR9 := hid hr9
      clear hr9 hbel
      go_wp2_with fail
      go_ret
      exact ⟨ar, cr, rfl, HR9.out, HBE.out⟩
end Go.Proofs.YtdhmmllpioppfaaGreat.V
