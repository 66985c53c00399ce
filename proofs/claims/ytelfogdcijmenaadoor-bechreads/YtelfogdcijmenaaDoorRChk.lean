/- Checks: the document's. -/
import Derived.Test.YtelfogdcijmenaaDoorChk
namespace Go.Proofs.YtelfogdcijmenaaDoor
open Go.RowKit

set_option maxRecDepth 100000 in
set_option maxHeartbeats 4000000 in
theorem rchk_any (l : Bs) (v : Value) (w : World) (hs : Sl w v l) (hm : l.length ≤ 1000000000) : Calls Tryd.prog 28 #[v] w fun e w' => e = .returned (.int .u32 (chk 1 l : Int)) ∧ Below w.heap.size w w' := by
  have HS := hid hs
  obtain ⟨ao, cap, rfl⟩ := hs.shape
  obtain ⟨C, hC⟩ : ∃ C, C = chk 1 l := ⟨_, rfl⟩
  rw [← hC]
  have HC := hid hC
  obtain ⟨n, hn⟩ : ∃ n, n = l.length := ⟨_, rfl⟩
  rw [← hn] at hm ⊢
  have HN := hid hn
  clear hs hC hn
  go_enter Tryd.func28, Tryd.ntmps28
  go_wp2_with fail
  go_loopg [3, 4, 5, 6, 7] n (fun gg v3 v4 v5 v6 v7 wr => ∃ (k c : Nat), k ≤ n ∧ gg = n - k ∧ c < 1073741824 ∧ v4 = .int .i64 (k : Int) ∧ v3 = .int .u32 (c : Int) ∧ Hid (c = chk 1 (l.take k)) ∧ Below w.heap.size w wr)
  case atStart => exact ⟨0, 1, by omega, by omega, by omega, rfl, rfl, hid rfl, Below.refl _ _⟩
  case round =>
    obtain ⟨k, c, hk, rfl, hc30, rfl, rfl, hc, hbel⟩ := hrel
    have HBE := hid hbel
    by_cases hkn : k < n
    · have hk1 : (k : Int) < (n : Int) := by omega
      have hkl : k < l.length := by rw [← HN.out]; exact hkn
      have HT := hid (chk_take_succ 1 l k hkl)
      obtain ⟨g, o, rfl, hg, _, hcap, hcell⟩ := HS.out.at (fun e => by rw [e] at hkl; simp at hkl)
      rw [← HN.out] at hcap
      have hck : wr.cell? ⟨g, o + k, none⟩ = some (By l[k]) := by rw [← hcell k hkl]; exact World.cell?_of_block (hbel.block g hg)
      generalize l[k] = x at *
      clear hcell hbel
      have h1 : bits .and .u32 (c : Int) 33554431 = ((c % 33554432 : Nat) : Int) := and32 25 (by omega) (by omega)
      go_wp2_with fail
      clear h1 hck
      obtain ⟨t, ht⟩ : ∃ t, t = c / 33554432 := ⟨_, rfl⟩
      obtain ⟨b0, hb0⟩ : ∃ b0, b0 = c % 33554432 * 32 ^^^ x.toNat := ⟨_, rfl⟩
      have hx8 := x.toNat_lt
      have hb30 : b0 < 1073741824 := by rw [hb0]; exact Nat.xor_lt_two_pow (n := 30) (by omega) (by omega)
      have e1 : (c : Int) / 33554432 = (t : Int) := by omega
      have e2 : bits .xor .u32 ((c : Int) % 33554432 * 32) ((x.toNat : Int) % 4294967296) = (b0 : Int) := by
        have h1 := xor32 (a := c % 33554432 * 32) (b := x.toNat) (by omega) (by omega)
        rw [← hb0] at h1
        rw [← h1]
        congr 1
        omega
      rw [e1, e2]
      have HST : Hid (step c x.toNat = b0 ^^^ mixUp t 5) := hid (by rw [hb0, ht]; rfl)
      have ht32 : t < 32 := by omega
      clear ht hb0 e1 e2
      have HW2 := hid (heap_alloc_new wr (.cells mixA 46))
      have HB2 := hid (HBE.out.alloc HBE.out.size (.cells mixA 46))
      unfold mixA at HW2 HB2
      generalize hw2 : wr.alloc (.cells #[.int .u32 996825010, .int .u32 642813549, .int .u32 513874426, .int .u32 1027748829, .int .u32 705979059] 46) = w2 at *
      go_loop [3, 7] (fun v3 v7 => ∃ (i d : Nat), i ≤ 5 ∧ d < 1073741824 ∧ v7 = .int .i64 (i : Int) ∧ v3 = .int .u32 (d : Int) ∧ Hid (d = b0 ^^^ mixUp t i)) (fun _ v7 => 5 - (intOf v7).toNat)
      case atStart => exact ⟨0, b0, by omega, hb30, rfl, rfl, hid (by simp [mixUp])⟩
      case round =>
        obtain ⟨i, d, hi, hd30, rfl, rfl, hd⟩ := hrel
        have hi' : i = 5 ∨ i < 5 := by omega
        rcases hi' with rfl | hi5
        · have HE : Hid (d = chk 1 (l.take (k + 1))) := hid (by rw [HT.out, ← hc.out, HST.out]; exact hd.out)
          go_wp2_with fail
          go_roundg (n - (k + 1))
          case measure => omega
          case rel => exact ⟨k + 1, d, by omega, rfl, hd30, by go_num, rfl, HE, HB2.out⟩
        · have hbit : bits .and .u32 ((t : Int) / ((2 ^ i : Nat) : Int)) 1 = ((t / 2 ^ i % 2 : Nat) : Int) := by
            have h1 := and32 (a := t / 2 ^ i) 1 (by omega) (Nat.lt_of_le_of_lt (Nat.div_le_self _ _) (by omega))
            simpa using h1
          have hxr := xor32 (a := d) (b := mx i) (by omega) (by
            have : i = 0 ∨ i = 1 ∨ i = 2 ∨ i = 3 ∨ i = 4 := by omega
            rcases this with rfl | rfl | rfl | rfl | rfl <;> decide)
          have hx30 : d ^^^ mx i < 1073741824 := Nat.xor_lt_two_pow (n := 30) hd30 (by
            have : i = 0 ∨ i = 1 ∨ i = 2 ∨ i = 3 ∨ i = 4 := by omega
            rcases this with rfl | rfl | rfl | rfl | rfl <;> decide)
          have hcell : w2.cell? ⟨wr.heap.size, i, none⟩ = some (.int .u32 (mx i : Int)) := by
            rw [cell_of_heap HW2.out]
            have : i = 0 ∨ i = 1 ∨ i = 2 ∨ i = 3 ∨ i = 4 := by omega
            rcases this with rfl | rfl | rfl | rfl | rfl <;> rfl
          obtain ⟨m, hm2⟩ : ∃ m, m = mx i := ⟨_, rfl⟩
          rw [← hm2] at hcell hxr hx30
          have HMX := hid hm2
          clear hm2
          by_cases hbt : t / 2 ^ i % 2 = 1
          · have HD : Hid (d ^^^ m = b0 ^^^ mixUp t (i + 1)) := hid (by rw [mixUp, if_pos hbt, ← Nat.xor_assoc, ← hd.out, HMX.out])
            rw [hbt] at hbit
            clear hbt hd
            generalize d ^^^ m = d2 at *
            have hi'' : i = 0 ∨ i = 1 ∨ i = 2 ∨ i = 3 ∨ i = 4 := by omega
            rcases hi'' with rfl | rfl | rfl | rfl | rfl
            all_goals
              simp at hbit
              go_wp2_with fail
              go_round
              case rel => exact ⟨_, d2, by omega, hx30, by go_num, rfl, HD⟩
              case measure => simp [intOf]
          · have HD : Hid (d = b0 ^^^ mixUp t (i + 1)) := hid (by rw [mixUp, if_neg hbt]; exact hd.out)
            have hbt0 : t / 2 ^ i % 2 = 0 := by omega
            rw [hbt0] at hbit
            clear hbt hbt0 hd hxr hx30
            have hi'' : i = 0 ∨ i = 1 ∨ i = 2 ∨ i = 3 ∨ i = 4 := by omega
            rcases hi'' with rfl | rfl | rfl | rfl | rfl
            all_goals
              simp at hbit
              go_wp2_with fail
              go_round
              case rel => exact ⟨_, d, by omega, hd30, by go_num, rfl, HD⟩
              case measure => simp [intOf]
    · have hk1 : ¬ (k : Int) < (n : Int) := by omega
      have HE : Hid (c = C) := hid (by rw [hc.out, List.take_of_length_le (by rw [← HN.out]; omega), HC.out])
      clear hc
      obtain rfl := HE.out
      go_wp2_with fail
      go_ret
      exact ⟨rfl, HBE.out⟩
end Go.Proofs.YtelfogdcijmenaaDoor
