/- MoneyKnown as a call. -/
import Derived.Test.YtdgmnfhfnhiloaaAddsLaw
namespace Go.Proofs.Ytdgmnfhfnhiloaa
open Go.RowKit

theorem of_drew {B : Nat} {w0 w : World} (h : Below B w0 w) : Below B w0 w.drew := ⟨h.os, h.tape, h.output, h.size, h.block⟩
theorem two_own {w0 w1 w2 : World} (h1 : Below w0.heap.size w0 w1) (h2 : Below w1.heap.size w1 w2) : Below w0.heap.size w0 w2 := h1.trans (h2.mono h1.size)
theorem Try.size2 : (Try.prog.info? 2).map (·.size) = some 1 := by kernel_rfl
theorem slice_to (a : Option Addr) (n cap k : Nat) (h : k ≤ cap) (W : World) : (Instr.sliceAt 22 (.slice a n cap) none (some (.int .i64 (k : Int))) none).run Try.prog W = .ok (.slice a k cap) W := by
  obtain ⟨i, hi, hz⟩ := Option.map_eq_some_iff.1 Try.size2
  have h1 : (k : Int) ≤ (cap : Int) := by omega
  have h0 : ∀ x : Addr, x.add 0 = x := fun x => by unfold Addr.add; split <;> simp_all
  simp [Instr.sliceAt, Instr.slice, Instr.sliceBounds, Instr.sliceBound, asIntOf, run_underlying Try.underlying22, sizeOf, typeInfo, hi, go_sem, h0]
  intro h'; omega

/-- the row of numbers -/
def kl : List Int := [-9223372036854775808, -1, 0, 1, 2, 3, 999, 1000, 1001, 253, 724, 999999, 1000000, 1000001, 2099999999999999, 2100000000000000, 2100000000000001, 1050000000000000000, 1050000000000000001, 2099999999999999999, 2100000000000000000, 2100000000000000001, 9223372036854775807]
/-- it lies there -/
structure Kn (w0 : World) (g : Nat) (w : World) : Prop where
  bel : Below w0.heap.size w0 w
  blk : w.heap[g]? = some (.cells (kl.map fun x => Value.int .i64 x).toArray 2 (0, 0))
theorem Kn.step {w0 : World} {g : Nat} {w w' : World} (h : Kn w0 g w) (hb : Below w.heap.size w w') : Kn w0 g w' :=
  ⟨two_own h.bel hb, (hb.block g (lt_of_block h.blk)).trans h.blk⟩
theorem Kn.drew {w0 : World} {g : Nat} {w : World} (h : Kn w0 g w) : Kn w0 g w.drew := ⟨of_drew h.bel, h.blk⟩
theorem Kn.cell {w0 : World} {g : Nat} {w : World} (h : Kn w0 g w) {i : Nat} (hi : i < 23) : w.cell? ⟨g, i, none⟩ = some (.int .i64 (kl.getD i 0)) := by
  rw [cell_of_heap h.blk, List.getElem?_toArray]
  exact ints_get hi
theorem Kn.li {w0 : World} {g : Nat} {w : World} (h : Kn w0 g w) {k : Nat} (hk : k ≤ 23) : Li w (some ⟨g, 0, none⟩) 23 (kl.take k) := by
  refine ⟨by simp [kl]; omega, fun _ => ⟨g, 0, rfl, lt_of_block h.blk, fun i hi => ?_⟩⟩
  have hi' : i < k := by simp at hi; omega
  rw [Nat.zero_add, h.cell (by omega)]
  simp [List.getD, List.getElem?_take_of_lt hi']

set_option maxHeartbeats 4000000 in
set_option maxRecDepth 100000 in
theorem known_any (w : World) : Calls Try.prog 8 #[] w fun e w' => e = .returned (.bool true) ∧ Below w.heap.size w w' := by
  go_enter Try.func8, Try.ntmps8
  go_wp2_with fail
  have HK0 : Hid (Kn w w.heap.size (w.alloc (.cells #[.int .i64 (-9223372036854775808), .int .i64 (-1), .int .i64 0, .int .i64 1, .int .i64 2, .int .i64 3, .int .i64 999, .int .i64 1000, .int .i64 1001, .int .i64 253, .int .i64 724, .int .i64 999999, .int .i64 1000000, .int .i64 1000001, .int .i64 2099999999999999, .int .i64 2100000000000000, .int .i64 2100000000000001, .int .i64 1050000000000000000, .int .i64 1050000000000000001, .int .i64 2099999999999999999, .int .i64 2100000000000000000, .int .i64 2100000000000000001, .int .i64 9223372036854775807] 2))) := hid ⟨below_alloc_self' w _, heap_alloc_new w _⟩
  generalize w.alloc (.cells #[.int .i64 (-9223372036854775808), .int .i64 (-1), .int .i64 0, .int .i64 1, .int .i64 2, .int .i64 3, .int .i64 999, .int .i64 1000, .int .i64 1001, .int .i64 253, .int .i64 724, .int .i64 999999, .int .i64 1000000, .int .i64 1000001, .int .i64 2099999999999999, .int .i64 2100000000000000, .int .i64 2100000000000001, .int .i64 1050000000000000000, .int .i64 1050000000000000001, .int .i64 2099999999999999999, .int .i64 2100000000000000000, .int .i64 2100000000000000001, .int .i64 9223372036854775807] 2) = w0 at HK0 ⊢
  generalize w.heap.size = g at HK0 ⊢
  go_loopg [2] 23 (fun gg v wr => ∃ i : Nat, i ≤ 23 ∧ gg = 23 - i ∧ v = .int .i64 (i : Int) ∧ Kn w g wr)
  case atStart => exact ⟨0, by omega, rfl, rfl, HK0.out⟩
  case round =>
    clear HK0
    obtain ⟨i, hi, rfl, rfl, hk⟩ := hrel
    have HK := hid hk
    clear hk
    by_cases hil : i < 23
    · have HIL := hid hil
      have HCI : Hid (∀ W, Kn w g W → W.cell? ⟨g, i, none⟩ = some (.int .i64 (kl.getD i 0))) := hid (fun W hk => hk.cell hil)
      generalize kl.getD i 0 = xi at HCI
      have hci := HCI.out _ HK.out
      have hi1 : (i : Int) < 23 := by omega
      clear hi hil
      go_wp2_with fail
      refine (turns_any _ _).mono ?_
      rintro e w1 ⟨rfl, hb1⟩
      have HK1 := hid (HK.out.step hb1)
      clear hb1 HK hci
      go_wp2_with fail
      go_loopg [3] 23 (fun gg v wr => ∃ k : Nat, k ≤ 23 ∧ gg = 23 - k ∧ v = .int .i64 (k : Int) ∧ Kn w g wr)
      case atStart => exact ⟨0, by omega, rfl, rfl, HK1.out⟩
      case round =>
        clear HK1
        obtain ⟨k, hk, rfl, rfl, hkn⟩ := hrel
        have HK := hid hkn
        clear hkn
        by_cases hkl : k < 23
        · as_aux_lemma =>
          have HKL := hid hkl
          have HCK : Hid (∀ W, Kn w g W → W.cell? ⟨g, k, none⟩ = some (.int .i64 (kl.getD k 0))) := hid (fun W hk => hk.cell hkl)
          generalize kl.getD k 0 = xk at HCK
          have hs1 : ∀ W, (Instr.sliceAt 22 (.slice (some ⟨g, 0, none⟩) 23 23) none (some (.int .i64 (k : Int))) none).run Try.prog W = .ok (.slice (some ⟨g, 0, none⟩) k 23) W := slice_to _ 23 23 k (by omega)
          have HS : Hid (∀ W, Kn w g W → W.cell? ⟨g, i, none⟩ = some (.int .i64 xi) ∧ W.cell? ⟨g, k, none⟩ = some (.int .i64 xk)) := hid (fun W hk => ⟨HCI.out W hk, HCK.out W hk⟩)
          have HA : Hid (∀ W, Kn w g W → Calls Try.prog 3 #[.slice (some ⟨g, 0, none⟩) k 23, .int .i64 xi, .int .i64 xk] W fun e w' => e = .returned (.bool true) ∧ Below W.heap.size W w') := by
            apply hid; intro W hk; have h := adds_any W _ 23 (kl.take k) xi xk (hk.li (by omega)); rw [show (kl.take k).length = k by simp [kl]; omega] at h; exact h
          have HB : Hid (∀ W : World, Calls Try.prog 3 #[.slice (some ⟨W.heap.size, 0, none⟩) 3 3, .int .i64 xk, .int .i64 xi] (W.alloc (.cells #[.int .i64 1, .int .i64 xi, .int .i64 xk] 2)) fun e w' => e = .returned (.bool true) ∧ Below W.heap.size W w') := by
            apply hid; intro W; refine (adds_any _ _ 3 [1, xi, xk] xk xi (li_new W [1, xi, xk] 3 rfl)).mono ?_
            rintro e w' ⟨rfl, hb⟩
            exact ⟨rfl, two_own (below_alloc_self' W _) hb⟩
          have S0 := hid (HS.out _ HK.out)
          obtain ⟨hc1, hc2⟩ := HS.out _ HK.out
          have hk1 : (k : Int) < 23 := by omega
          clear hk hkl
          go_wp2_with fail
          try simp only [List.append_eq, List.cons_append, List.nil_append]
          go_region_held3 (fun wx => wx.cell? ⟨g, i, none⟩ = some (.int .i64 xi) ∧ wx.cell? ⟨g, k, none⟩ = some (.int .i64 xk)) (first | exact S0.out | exact S1.out | exact S2.out | exact S3.out | exact S4.out | exact HS.out _ (HK1.out.step (below_alloc_self' _ _))) (first | (go_at_call_of 3 k; refine (HA.out _ HK.out.drew).mono ?_; rintro e w1 ⟨rfl, hb1⟩; have HK1 := hid (HK.out.drew.step hb1); have S1 := hid (HS.out _ HK1.out); clear hb1) | (go_at_call 3; refine (HB.out _).mono ?_; rintro e w2 ⟨rfl, hb2⟩; have HK2 := hid (HK1.out.step hb2); have S2 := hid (HS.out _ HK2.out); clear hb2) | (go_at_call 6; refine (back_any _ _ _).mono ?_; rintro e w3 ⟨rfl, hb3⟩; have HK3 := hid (HK2.out.step hb3); have S3 := hid (HS.out _ HK3.out); clear hb3) | (go_at_call 4; refine (fees_any _ _ _ _).mono ?_; rintro e w4 ⟨rfl, hb4⟩; have HK4 := hid (HK3.out.step hb4); have S4 := hid (HS.out _ HK4.out); clear hb4))
          clear HK HK1 HK2 HK3 S0 S1 S2 S3 S4 hc1 hc2 HA HB hs1
          go_wp2_with fail
          go_loopg [4] 23 (fun gg v wr => ∃ j : Nat, j ≤ 23 ∧ gg = 23 - j ∧ v = .int .i64 (j : Int) ∧ Kn w g wr)
          case atStart => exact ⟨0, by omega, rfl, rfl, HK4.out⟩
          case round =>
            clear HK4
            obtain ⟨j, hj, rfl, rfl, hkn⟩ := hrel
            have HK := hid hkn
            clear hkn
            by_cases hjl : j < 23
            · as_aux_lemma =>
                have HJL := hid hjl
                have HCJ : Hid (∀ W, Kn w g W → W.cell? ⟨g, j, none⟩ = some (.int .i64 (kl.getD j 0))) := hid (fun W hk => hk.cell hjl)
                generalize kl.getD j 0 = xj at HCJ
                have HS2 : Hid (∀ W, Kn w g W → W.cell? ⟨g, i, none⟩ = some (.int .i64 xi) ∧ W.cell? ⟨g, k, none⟩ = some (.int .i64 xk) ∧ W.cell? ⟨g, j, none⟩ = some (.int .i64 xj)) := hid (fun W hk => ⟨HCI.out W hk, HCK.out W hk, HCJ.out W hk⟩)
                have S0 := hid (HS2.out _ HK.out)
                obtain ⟨hc1, hc2, hc3⟩ := HS2.out _ HK.out
                have hj1 : (j : Int) < 23 := by omega
                clear hj hjl
                go_wp2_with fail
                go_region_held3 (fun wx => wx.cell? ⟨g, i, none⟩ = some (.int .i64 xi) ∧ wx.cell? ⟨g, k, none⟩ = some (.int .i64 xk) ∧ wx.cell? ⟨g, j, none⟩ = some (.int .i64 xj)) (first | exact S0.out | exact S1.out | exact S2.out) (first | (go_at_call 4; refine (fees_any _ _ _ _).mono ?_; rintro e w1 ⟨rfl, hb1⟩; have HK1 := hid (HK.out.drew.step hb1); have S1 := hid (HS2.out _ HK1.out); clear hb1) | (go_at_call 7; refine (shares_any _ _ _ _ _).mono ?_; rintro e w2 ⟨rfl, hb2⟩; have HK2 := hid (HK1.out.step hb2); have S2 := hid (HS2.out _ HK2.out); clear hb2))
                clear HK HK1 S0 S1 S2 hc1 hc2 hc3
                go_wp2_with fail
                go_roundg (23 - (j + 1))
                case measure => have := HJL.out; omega
                case rel => exact ⟨j + 1, by have := HJL.out; omega, rfl, by go_num, HK2.out⟩
            · have hj1 : ¬ (j : Int) < 23 := by omega
              clear hj hjl
              go_wp2_with fail
              go_roundg (23 - (k + 1))
              case measure => have := HKL.out; omega
              case rel => exact ⟨k + 1, by have := HKL.out; omega, rfl, by go_num, HK.out⟩
        · have hk1 : ¬ (k : Int) < 23 := by omega
          clear hk hkl
          go_wp2_with fail
          go_roundg (23 - (i + 1))
          case measure => have := HIL.out; omega
          case rel => exact ⟨i + 1, by have := HIL.out; omega, rfl, by go_num, HK.out⟩
    · have hi1 : ¬ (i : Int) < 23 := by omega
      clear hi hil
      go_wp2_with fail
      refine (works_any _).mono ?_
      rintro e w1 ⟨rfl, hb1⟩
      have HK1 := hid (HK.out.step hb1)
      clear hb1 HK
      go_wp2_with fail
      go_ret
      exact ⟨rfl, HK1.out.bel⟩
end Go.Proofs.Ytdgmnfhfnhiloaa
