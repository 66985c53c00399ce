/- The document's small texts. -/
import Derived.Test.YtelfogdcijmenaaDoorRDec
namespace Go.Proofs.YtelfogdcijmenaaDoor
open Go.RowKit

/-- what small tells -/
def smallB (s : Bs) : Bs × Bool := if s.any outB = true then ([], false) else (low s, !s.any smlB || !s.any capB)
theorem low_take_succ (l : Bs) (k : Nat) (h : k < l.length) : low (l.take (k + 1)) = low (l.take k) ++ [lowC l[k]] := map_take_succ lowC l k h
theorem low_cap {c : UInt8} (h : capB c = true) : ((lowC c).toNat : Int) = (c.toNat : Int) + 32 := by
  have hh : 65 ≤ c.toNat ∧ c.toNat ≤ 90 := by simpa [capB] using h
  unfold lowC
  rw [if_pos h, UInt8.toNat_add]
  have : (32 : UInt8).toNat = 32 := rfl
  rw [this]
  omega
theorem low_not {c : UInt8} (h : capB c = false) : lowC c = c := (low_of c).2.2 h
set_option maxRecDepth 100000 in
set_option maxHeartbeats 8000000 in
theorem rsmall_any (s : Bs) (w : World) (hm : s.length ≤ 1000000) : Calls Tryd.prog 43 #[St s] w fun e w' => e = .returned (.tuple #[St (smallB s).1, .bool (smallB s).2]) ∧ Below w.heap.size w w' := by
  have hs := st_size s
  obtain ⟨A, hA⟩ : ∃ A, A = smallB s := ⟨_, rfl⟩
  rw [← hA]
  have HA := hid hA
  obtain ⟨n, hn⟩ : ∃ n, n = s.length := ⟨_, rfl⟩
  rw [← hn] at hs hm
  have HN := hid hn
  clear hn hA
  go_enter Tryd.func43, Tryd.ntmps43
  go_wp2_with fail
  go_loopg [4, 5, 6, 7, 8] n (fun gg v4 v5 v6 v7 v8 wr => ∃ (i : Nat) (a6 : Option Addr) (c6 : Nat) (b1 b2 : Bool), i ≤ n ∧ gg = n - i ∧ v7 = .int .i64 (i : Int) ∧ v4 = .bool b1 ∧ v5 = .bool b2 ∧ v6 = .slice a6 i c6 ∧ Hid (b1 = (s.take i).any smlB) ∧ Hid (b2 = (s.take i).any capB) ∧ Hid ((s.take i).any outB = false) ∧ wr.ownsRow w.heap.size 5 1 (.slice a6 i c6) i (bcs (low (s.take i))) ∧ Below w.heap.size w wr)
  case atStart => exact ⟨0, none, 0, false, false, by omega, by omega, rfl, rfl, rfl, rfl, hid rfl, hid rfl, hid rfl, own_none _ _, Below.refl _ _⟩
  case round =>
    obtain ⟨i, a6, c6, b1, b2, hi, rfl, rfl, rfl, rfl, rfl, hb1, hb2, ho, how, hbel⟩ := hrel
    by_cases hin : i < n
    · have hi1 : (i : Int) < (n : Int) := by omega
      have his : i < s.length := by rw [← HN.out]; exact hin
      have HT1 := hid (any_take_succ smlB s i his)
      have HT2 := hid (any_take_succ capB s i his)
      have HT3 := hid (any_take_succ outB s i his)
      have HLT := hid (low_take_succ s i his)
      have hget : (⟨s.toArray⟩ : ByteArray)[i]'(by rw [hs]; exact hin) = s[i] := rfl
      rw [← hb1.out] at HT1
      rw [← hb2.out] at HT2
      rw [ho.out, Bool.false_or] at HT3
      generalize s[i] = x at *
      have hx8 := x.toNat_lt
      have HO := hid how
      have HBE := hid hbel
      have HIL : Hid (i = (low (s.take i)).length) := hid (by unfold low; simp; omega)
      clear hb1 hb2 ho how hbel
      by_cases hout : x.toNat < 33 ∨ 126 < x.toNat
      · have HZ : Hid (A = ([], false)) := hid (by
          rw [HA.out]
          unfold smallB
          rw [if_pos (any_of_take (k := i + 1) (by rw [HT3.out]; unfold outB; rcases hout with h | h <;> simp [h]))])
        clear HT1 HT2 HT3
        rcases hout with h | h
        · have e1 : (x.toNat : Int) < 33 := by omega
          go_wp2_with fail
          go_ret2
          rw [HZ.out]
          exact ⟨rfl, HBE.out⟩
        · have e1 : ¬ (x.toNat : Int) < 33 := by omega
          have e2 : (126 : Int) < x.toNat := by omega
          go_wp2_with fail
          go_ret2
          rw [HZ.out]
          exact ⟨rfl, HBE.out⟩
      · have hout' : ¬ x.toNat < 33 ∧ ¬ 126 < x.toNat := by omega
        have HT3' : Hid ((s.take (i + 1)).any outB = false) := hid (by rw [HT3.out]; unfold outB; simp [hout'.1, hout'.2])
        have e1 : ¬ (x.toNat : Int) < 33 := by omega
        have e2 : ¬ (126 : Int) < x.toNat := by omega
        clear HT3 hout hout'
        by_cases h97 : 97 ≤ x.toNat
        · have e3 : (97 : Int) ≤ x.toNat := by omega
          have e5 : (65 : Int) ≤ x.toNat := by omega
          have e6 : ¬ (x.toNat : Int) ≤ 90 := by omega
          by_cases h122 : x.toNat ≤ 122
          · have e4 : (x.toNat : Int) ≤ 122 := by omega
            have hsm : smlB x = true := by unfold smlB; simp; omega
            have hcp : capB x = false := by unfold capB; simp; omega
            rw [hsm] at HT1
            rw [hcp] at HT2
            rw [low_not hcp] at HLT
            obtain ⟨a9, c9, w9, hr9, ho9, hg9, hp9⟩ := append_one HO.out x _ rfl HIL.out (by omega) HBE.out.size
            have HB9 := hid (one_below HBE.out HO.out hg9 HBE.out.size)
            have HO9 := hid ho9
            have HR9 := hid hr9
            clear hr9 ho9 hg9 hp9 hsm hcp
            go_wp2_with (first | (at_builtin; refine wpList_append_run rfl _ _ 22 rfl _ _ (.slice a9 (i + 1) c9) w9 rfl rfl HR9.out ?_) | fail)
            go_roundg (n - (i + 1))
            case measure => omega
            case rel => exact ⟨i + 1, a9, c9, true, b2, by omega, rfl, by go_num, rfl, rfl, rfl, hid (by rw [HT1.out]; simp), hid (by rw [HT2.out]; simp), HT3', by rw [HLT.out]; exact HO9.out, HB9.out⟩
          · have e4 : ¬ (x.toNat : Int) ≤ 122 := by omega
            have hsm : smlB x = false := by unfold smlB; simp; omega
            have hcp : capB x = false := by unfold capB; simp; omega
            rw [hsm] at HT1
            rw [hcp] at HT2
            rw [low_not hcp] at HLT
            obtain ⟨a9, c9, w9, hr9, ho9, hg9, hp9⟩ := append_one HO.out x _ rfl HIL.out (by omega) HBE.out.size
            have HB9 := hid (one_below HBE.out HO.out hg9 HBE.out.size)
            have HO9 := hid ho9
            have HR9 := hid hr9
            clear hr9 ho9 hg9 hp9 hsm hcp
            go_wp2_with (first | (at_builtin; refine wpList_append_run rfl _ _ 22 rfl _ _ (.slice a9 (i + 1) c9) w9 rfl rfl HR9.out ?_) | fail)
            go_roundg (n - (i + 1))
            case measure => omega
            case rel => exact ⟨i + 1, a9, c9, b1, b2, by omega, rfl, by go_num, rfl, rfl, rfl, hid (by rw [HT1.out]; simp), hid (by rw [HT2.out]; simp), HT3', by rw [HLT.out]; exact HO9.out, HB9.out⟩
        · have e3 : ¬ (97 : Int) ≤ x.toNat := by omega
          by_cases h65 : 65 ≤ x.toNat
          · have e5 : (65 : Int) ≤ x.toNat := by omega
            by_cases h90 : x.toNat ≤ 90
            · have e6 : (x.toNat : Int) ≤ 90 := by omega
              have hw9 : IntKind.u8.wrap ((x.toNat : Int) + 32) = (x.toNat : Int) + 32 := by rw [IntKind.wrap_u8]; omega
              have hsm : smlB x = false := by unfold smlB; simp; omega
              have hcp : capB x = true := by unfold capB; simp; omega
              rw [hsm] at HT1
              rw [hcp] at HT2
              obtain ⟨a9, c9, w9, hr9, ho9, hg9, hp9⟩ := append_one HO.out (lowC x) _ (low_cap hcp) HIL.out (by omega) HBE.out.size
              have HB9 := hid (one_below HBE.out HO.out hg9 HBE.out.size)
              have HO9 := hid ho9
              have HR9 := hid hr9
              clear hr9 ho9 hg9 hp9 hsm hcp
              go_wp2_with (first | (at_builtin; refine wpList_append_run rfl _ _ 22 rfl _ _ (.slice a9 (i + 1) c9) w9 rfl rfl HR9.out ?_) | fail)
              go_roundg (n - (i + 1))
              case measure => omega
              case rel => exact ⟨i + 1, a9, c9, b1, true, by omega, rfl, by go_num, rfl, rfl, rfl, hid (by rw [HT1.out]; simp), hid (by rw [HT2.out]; simp), HT3', by rw [HLT.out]; exact HO9.out, HB9.out⟩
            · have e6 : ¬ (x.toNat : Int) ≤ 90 := by omega
              have hsm : smlB x = false := by unfold smlB; simp; omega
              have hcp : capB x = false := by unfold capB; simp; omega
              rw [hsm] at HT1
              rw [hcp] at HT2
              rw [low_not hcp] at HLT
              obtain ⟨a9, c9, w9, hr9, ho9, hg9, hp9⟩ := append_one HO.out x _ rfl HIL.out (by omega) HBE.out.size
              have HB9 := hid (one_below HBE.out HO.out hg9 HBE.out.size)
              have HO9 := hid ho9
              have HR9 := hid hr9
              clear hr9 ho9 hg9 hp9 hsm hcp
              go_wp2_with (first | (at_builtin; refine wpList_append_run rfl _ _ 22 rfl _ _ (.slice a9 (i + 1) c9) w9 rfl rfl HR9.out ?_) | fail)
              go_roundg (n - (i + 1))
              case measure => omega
              case rel => exact ⟨i + 1, a9, c9, b1, b2, by omega, rfl, by go_num, rfl, rfl, rfl, hid (by rw [HT1.out]; simp), hid (by rw [HT2.out]; simp), HT3', by rw [HLT.out]; exact HO9.out, HB9.out⟩
          · have e5 : ¬ (65 : Int) ≤ x.toNat := by omega
            have hsm : smlB x = false := by unfold smlB; simp; omega
            have hcp : capB x = false := by unfold capB; simp; omega
            rw [hsm] at HT1
            rw [hcp] at HT2
            rw [low_not hcp] at HLT
            obtain ⟨a9, c9, w9, hr9, ho9, hg9, hp9⟩ := append_one HO.out x _ rfl HIL.out (by omega) HBE.out.size
            have HB9 := hid (one_below HBE.out HO.out hg9 HBE.out.size)
            have HO9 := hid ho9
            have HR9 := hid hr9
            clear hr9 ho9 hg9 hp9 hsm hcp
            go_wp2_with (first | (at_builtin; refine wpList_append_run rfl _ _ 22 rfl _ _ (.slice a9 (i + 1) c9) w9 rfl rfl HR9.out ?_) | fail)
            go_roundg (n - (i + 1))
            case measure => omega
            case rel => exact ⟨i + 1, a9, c9, b1, b2, by omega, rfl, by go_num, rfl, rfl, rfl, hid (by rw [HT1.out]; simp), hid (by rw [HT2.out]; simp), HT3', by rw [HLT.out]; exact HO9.out, HB9.out⟩
    · have hi1 : ¬ (i : Int) < (n : Int) := by omega
      have hie : i = n := by omega
      subst hie
      have HTK : Hid (s.take i = s) := hid (List.take_of_length_le (by rw [← HN.out]; exact Nat.le_refl _))
      rw [HTK.out] at hb1 hb2 ho how
      have HZ : Hid (A = (low s, !b1 || !b2)) := hid (by
        rw [HA.out]
        unfold smallB
        rw [if_neg (by rw [ho.out]; decide), ← hb1.out, ← hb2.out])
      have hst := (Sl.own how (by unfold low; rw [List.length_map]; exact HN.out)).string
      have HBE := hid hbel
      clear hb1 hb2 ho how hbel
      cases b1 with
      | false =>
        go_wp2_with fail
        go_ret2
        rw [HZ.out]
        exact ⟨rfl, HBE.out⟩
      | true =>
        go_wp2_with fail
        go_ret2
        rw [HZ.out]
        exact ⟨rfl, HBE.out⟩
end Go.Proofs.YtelfogdcijmenaaDoor
