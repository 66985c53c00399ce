/- What asked answers: every law of every term of a list. -/
import Derived.Test.YtcmpiffkmnbepaaDoorAskedA
namespace Go.Proofs.YtcmpiffkmnbepaaDoor
open Go.RowKit

set_option maxHeartbeats 16000000 in
set_option maxRecDepth 100000 in
theorem asked_any (A : AllLaws) (k : Nat → Bs) (hkb : ∀ i, (k i).length ≤ 140737488355328) (g : Nat) (w : World) (hg : g < w.heap.size) (hc : ∀ i, i < 25 → w.cell? ⟨g, i, none⟩ = some (St (k i))) (hp : Pw w) :
    Calls Tryd.prog 47 #[.slice (some ⟨g, 0, none⟩) 25 25] w fun en w' => en = .returned (.bool true) ∧ Below w.heap.size w w' := by
  have HA := hid A
  have HKB := hid hkb
  have HC : Hid (∀ W, Below w.heap.size w W → ∀ i, i < 25 → W.cell? ⟨g, i, none⟩ = some (St (k i))) := hid (fun W hb i hi => (hb.cell (p := ⟨g, i, none⟩) hg).trans (hc i hi))
  have HM := hid (fun (W : World) (hb : Below w.heap.size w W) (r : Nat) (hr : r ≤ 25) (n : Nat) (hn : n ≤ 100) (s : Bs) (hs : s.length ≤ 140737488355328) => makes_first hp hkb hg hc r 25 hr (by omega) (n : Int) (by omega) (by omega) s hs hb)
  clear hkb hc hp hg A
  go_enter Tryd.func47, Tryd.ntmps47
  go_wp2_with fail
  go_loopg [3] 25 (fun gg v wr => ∃ i : Nat, i ≤ 25 ∧ gg = 25 - i ∧ v = .int .i64 (i : Int) ∧ Below w.heap.size w wr)
  case atStart => exact ⟨0, by omega, rfl, rfl, Below.refl _ _⟩
  case round =>
    obtain ⟨i, hi, rfl, rfl, hb⟩ := hrel
    have HB := hid hb
    clear hb
    by_cases hil : i < 25
    · have hi1 : (i : Int) < 25 := by omega
      have HIL := hid hil
      obtain ⟨r, hr⟩ : ∃ r, r = i % 5 := ⟨_, rfl⟩
      have hr3 : (i : Int) % 5 = (r : Int) := by omega
      have hr4 : (i : Int).tmod 5 = (r : Int) := by rw [Int.tmod_eq_emod_of_nonneg (by omega)]; exact hr3
      have hr5 : IntKind.i64.wrap (r : Int) = (r : Int) := by rw [IntKind.wrap_i64]; omega
      have hrn : (r : Int) < 5 := by omega
      have hs1 : ∀ W, (Instr.sliceAt 23 (.slice (some ⟨g, 0, none⟩) 25 25) none (some (.int .i64 (r : Int))) none).run Tryd.prog W = .ok (.slice (some ⟨g, 0, none⟩) r 25) W := slice_to _ 25 25 r (by omega)
      have HM4 : Hid (∀ W, Below w.heap.size w W → Calls Tryd.prog 4 #[.int .i64 (i : Int), St (k i), .slice (some ⟨g, 0, none⟩) r 25] W fun en w' => en = .returned (.bool true) ∧ Below W.heap.size W w') := hid (fun W hb => HM.out W hb r (by omega) i (by omega) (k i) (HKB.out i))
      have HM3 : Hid (∀ W, Calls Tryd.prog 3 #[St (k i)] W fun en w' => en = .returned (.bool true) ∧ Below W.heap.size W w') := hid (fun W => HA.out.opens (k i) W (HKB.out i))
      have HCI : Hid (∀ W, Below w.heap.size w W → W.cell? ⟨g, i, none⟩ = some (St (k i))) := hid (fun W hb => HC.out W hb i hil)
      have hci := HCI.out _ HB.out
      have HCI0 := hid hci
      clear hi hil hr
      generalize k i = ki at HM3 HM4 HCI HCI0 hci
      go_wp2_with fail
      go_region_held3 (fun wx => wx.cell? ⟨g, i, none⟩ = some (St ki)) (first | exact HCI0.out | exact HCI2.out | exact HCI3.out) (first | (go_at_call 3; refine (HM3.out _).mono ?_; rintro e w2 ⟨rfl, hb2⟩; have HB2 := hid (two_own (of_drew HB.out) hb2); have HCI2 := hid (HCI.out _ HB2.out); clear hb2) | (go_at_call 4; refine (HM4.out _ HB2.out).mono ?_; rintro e w3 ⟨rfl, hb3⟩; have HB3 := hid (two_own HB2.out hb3); have HCI3 := hid (HCI.out _ HB3.out); clear hb3))
      as_aux_lemma =>
        clear hr3 hr4 hr5 hrn hs1 HM3 HM4 HCI HCI0 HCI2 HCI3 HB HB2 hci
        go_wp2_with fail
        go_loopg [4] 25 (fun gg v wr => ∃ j : Nat, j ≤ 25 ∧ gg = 25 - j ∧ v = .int .i64 (j : Int) ∧ Below w.heap.size w wr)
        case atStart => exact ⟨0, by omega, rfl, rfl, HB3.out⟩
        case round =>
          obtain ⟨j, hj, rfl, rfl, hb⟩ := hrel
          have HB := hid hb
          clear hb HB3
          by_cases hjl : j < 25
          · as_aux_lemma =>
              have hj1 : (j : Int) < 25 := by omega
              have HJL := hid hjl
              obtain ⟨m, hm⟩ : ∃ m, m = (i + j) % 25 := ⟨_, rfl⟩
              have hm3 : ((i : Int) + (j : Int)) % 25 = (m : Int) := by omega
              have hm4 : ((i : Int) + (j : Int)).tmod 25 = (m : Int) := by rw [Int.tmod_eq_emod_of_nonneg (by omega)]; exact hm3
              have hm5 : IntKind.i64.wrap (m : Int) = (m : Int) := by rw [IntKind.wrap_i64]; omega
              have hm6 : IntKind.i64.wrap ((i : Int) + (j : Int)) = (i : Int) + (j : Int) := by rw [IntKind.wrap_i64]; omega
              have hmn : (m : Int) < 25 := by omega
              have HS : Hid (∀ W, Below w.heap.size w W → W.cell? ⟨g, i, none⟩ = some (St (k i)) ∧ W.cell? ⟨g, j, none⟩ = some (St (k j)) ∧ W.cell? ⟨g, m, none⟩ = some (St (k m)) ∧ W.cell? ⟨g, 0, none⟩ = some (St (k 0))) :=
                hid (fun W hb => ⟨HC.out W hb i HIL.out, HC.out W hb j hjl, HC.out W hb m (by omega), HC.out W hb 0 (by omega)⟩)
              have HM5 : Hid (∀ W, Calls Tryd.prog 5 #[St (k i), St (k j)] W fun en w' => en = .returned (.bool true) ∧ Below W.heap.size W w') := hid (fun W => HA.out.builds _ _ W (HKB.out _) (HKB.out _))
              have HM6 : Hid (∀ W, Calls Tryd.prog 6 #[St (k i), St (k j), St (k m)] W fun en w' => en = .returned (.bool true) ∧ Below W.heap.size W w') := hid (fun W => HA.out.asks _ _ _ W (HKB.out _) (HKB.out _) (HKB.out _))
              have HM7 : Hid (∀ W, Calls Tryd.prog 7 #[St (k i), St (k j)] W fun en w' => en = .returned (.bool true) ∧ Below W.heap.size W w') := hid (fun W => HA.out.back _ _ W (HKB.out _) (HKB.out _))
              have HM8 : Hid (∀ W, Calls Tryd.prog 8 #[St (k i), St (k j), St (k 0)] W fun en w' => en = .returned (.bool true) ∧ Below W.heap.size W w') := hid (fun W => HA.out.agrs _ _ _ W (HKB.out _) (HKB.out _) (HKB.out _))
              have HM9 : Hid (∀ W, Calls Tryd.prog 9 #[St (k i), St (k j)] W fun en w' => en = .returned (.bool true) ∧ Below W.heap.size W w') := hid (fun W => HA.out.keyz _ _ W (HKB.out _) (HKB.out _))
              have HM10 : Hid (∀ W, Calls Tryd.prog 10 #[St (k i), St (k j), St (k j), St (k 0)] W fun en w' => en = .returned (.bool true) ∧ Below W.heap.size W w') := hid (fun W => HA.out.signz _ _ _ _ W (HKB.out _) (HKB.out _) (HKB.out _) (HKB.out _))
              have S0 := hid (HS.out _ HB.out)
              obtain ⟨hc1, hc2, hc3, hc4⟩ := HS.out _ HB.out
              clear hj hjl hm
              generalize k i = ki at HM5 HM6 HM7 HM8 HM9 HM10 HS S0 hc1 hc2 hc3 hc4
              generalize k j = kj at HM5 HM6 HM7 HM8 HM9 HM10 HS S0 hc1 hc2 hc3 hc4
              generalize k m = km at HM5 HM6 HM7 HM8 HM9 HM10 HS S0 hc1 hc2 hc3 hc4
              generalize k 0 = k0 at HM5 HM6 HM7 HM8 HM9 HM10 HS S0 hc1 hc2 hc3 hc4
              go_wp2_with fail
              simp only [List.append_eq, List.cons_append, List.nil_append]
              go_region_held3 (fun wx => wx.cell? ⟨g, i, none⟩ = some (St ki) ∧ wx.cell? ⟨g, j, none⟩ = some (St kj) ∧ wx.cell? ⟨g, m, none⟩ = some (St km) ∧ wx.cell? ⟨g, 0, none⟩ = some (St k0)) (first | exact S0.out | exact S1.out | exact S2.out | exact S3.out | exact S4.out | exact S5.out | exact S6.out) (first | (go_at_call 5; refine (HM5.out _).mono ?_; rintro e w1 ⟨rfl, hb1⟩; have HB1 := hid (two_own (of_drew HB.out) hb1); have S1 := hid (HS.out _ HB1.out); clear hb1) | (go_at_call 6; refine (HM6.out _).mono ?_; rintro e w2 ⟨rfl, hb2⟩; have HB2 := hid (two_own HB1.out hb2); have S2 := hid (HS.out _ HB2.out); clear hb2) | (go_at_call 7; refine (HM7.out _).mono ?_; rintro e w3 ⟨rfl, hb3⟩; have HB3 := hid (two_own HB2.out hb3); have S3 := hid (HS.out _ HB3.out); clear hb3) | (go_at_call 8; refine (HM8.out _).mono ?_; rintro e w4 ⟨rfl, hb4⟩; have HB4 := hid (two_own HB3.out hb4); have S4 := hid (HS.out _ HB4.out); clear hb4) | (go_at_call 9; refine (HM9.out _).mono ?_; rintro e w5 ⟨rfl, hb5⟩; have HB5 := hid (two_own HB4.out hb5); have S5 := hid (HS.out _ HB5.out); clear hb5) | (go_at_call 10; refine (HM10.out _).mono ?_; rintro e w6 ⟨rfl, hb6⟩; have HB6 := hid (two_own HB5.out hb6); have S6 := hid (HS.out _ HB6.out); clear hb6))
              go_wp2_with fail
              go_roundg (25 - (j + 1))
              case measure => have := HJL.out; omega
              case rel => exact ⟨j + 1, HJL.out, rfl, rfl, HB6.out⟩
          · have hj1 : ¬ (j : Int) < 25 := by omega
            clear hj hjl
            go_wp2_with fail
            go_roundg (25 - (i + 1))
            case measure => have := HIL.out; omega
            case rel => exact ⟨i + 1, HIL.out, rfl, rfl, HB.out⟩
    · have hi1 : ¬ (i : Int) < 25 := by omega
      clear hi hil
      go_wp2_with fail
      go_ret
      exact ⟨rfl, HB.out⟩
end Go.Proofs.YtcmpiffkmnbepaaDoor
