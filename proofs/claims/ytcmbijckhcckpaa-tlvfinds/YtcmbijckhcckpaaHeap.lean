/- slices.heapSortOrdered of numbers. -/
import Derived.Test.YtcmbijckhcckpaaSift
namespace Go.Proofs.Ytcmbijckhcckpaa
open Go.RowKit Go.Sort

theorem size_sift (hi f r : Nat) (d : Array Int) : (Sort.siftDown ltInt hi f r d).size = d.size := by
  fun_induction Sort.siftDown ltInt hi f r d <;> simp_all [size_swp]
theorem low_one (p : Nat) (h : p ≤ 1000) : wrap64 ((p : Int) - 1) = (p : Int) - 1 := by unfold wrap64; omega
/-- the first store of a swap, as the second meets it -/
theorem half_swap {w wr : World} {g n a j : Nat} {d dk : Array Int} (hH : Holds (Value.int .u64) w g 0 d) (hs : dk.size = d.size) (hw : wr = putRow (Value.int .u64) (Sort.ahead w n) g 0 dk) (ha : a < dk.size) (hj : j < dk.size) {y : Int} (hy : y = dk[j]!) :
    (wr.setCell ⟨g, a, none⟩ (.int .u64 y)).cell? ⟨g, j, none⟩ = some (.int .u64 y) ∧ (wr.setCell ⟨g, a, none⟩ (.int .u64 y)).frozen? ⟨g, j, none⟩ = false := by
  have h1 := putRow_set (Value.int .u64) (Sort.ahead w n) g 0 dk a y ha
  rw [Nat.zero_add, ← hw] at h1
  have h2 := holds_putRow (Value.int .u64) (Sort.ahead w n) g 0 d (dk.setIfInBounds a y) (holds_ahead _ _ _ _ _ _ hH) (by rw [Array.size_setIfInBounds]; exact hs) j (by rw [Array.size_setIfInBounds]; exact hj)
  rw [Nat.zero_add, ← h1] at h2
  by_cases e : j = a
  · subst e
    rw [getElem!_set_same _ _ _ ha] at h2
    exact h2
  · rw [getElem!_set_other _ _ _ _ e, ← hy] at h2
    exact h2
set_option maxRecDepth 100000 in
set_option maxHeartbeats 4000000 in
theorem heap_any (w : World) (g c a b : Nat) (d : Array Int) (hH : Holds (Value.int .u64) w g 0 d) (hab : a < b) (hb : b ≤ d.size) (hsz : d.size ≤ 100) :
    Calls Try.prog 44 #[.slice (some ⟨g, 0, none⟩) d.size c, .int .i64 (a : Int), .int .i64 (b : Int)] w fun e w' => e = .returned (.tuple #[]) ∧ ∃ n, w' = putRow (Value.int .u64) (Sort.ahead w n) g 0 (Sort.heapSort ltInt d a b) := by
  have HH := hid hH
  obtain ⟨s, hs⟩ : ∃ s, s = d.size := ⟨_, rfl⟩
  rw [← hs] at hb hsz
  rw [← hs]
  have HS := hid hs
  clear hH hs
  obtain ⟨h, hh⟩ : ∃ h, h = b - a := ⟨_, rfl⟩
  obtain ⟨k, hk⟩ : ∃ k, k = h - 1 := ⟨_, rfl⟩
  obtain ⟨q, hq⟩ : ∃ q, q = k / 2 := ⟨_, rfl⟩
  have HSO : Hid (Sort.heapSort ltInt d a b = heapPop ltInt a h (heapBuild ltInt h a (q + 1) d)) := hid (by unfold Sort.heapSort; rw [hq, hk, hh])
  have e1 : IntKind.i64.wrap ((b : Int) - (a : Int)) = (h : Int) := by rw [IntKind.wrap_i64]; omega
  have e2 : IntKind.i64.wrap ((h : Int) - 1) = (k : Int) := by rw [IntKind.wrap_i64]; omega
  have e3 : (k : Int).tdiv 2 = (q : Int) := by rw [hq]; rfl
  have HK : Hid (h = k + 1 ∧ a + h = b ∧ q ≤ k) := hid ⟨by omega, by omega, by omega⟩
  have e4 : wrap64 (q : Int) = (q : Int) := by unfold wrap64; omega
  clear hh hk hq
  go_enter Try.func44, Try.ntmps44
  go_wp2_with fail
  rw [e4]
  clear e1 e2 e3 e4
  go_loopg [9] (q + 1) (fun gg v9 wr => ∃ (m n : Nat) (dk : Array Int), v9 = .int .i64 ((m : Int) - 1) ∧ m = gg ∧ m ≤ q + 1 ∧ dk.size = s ∧ wr = putRow (Value.int .u64) (Sort.ahead w n) g 0 dk ∧ heapBuild ltInt h a m dk = heapBuild ltInt h a (q + 1) d)
  case atStart => exact ⟨q + 1, 0, d, by congr 1; omega, rfl, by omega, HS.out.symm, (putRow_self _ _ _ _ _ HH.out).symm, rfl⟩
  case round =>
    obtain ⟨m, n, dk, rfl, rfl, hmq, hsk, hw2, hO⟩ := hrel
    have HO := hid hO
    have HW := hid hw2
    have HSK := hid hsk
    have HHK : Hid (Holds (Value.int .u64) wr g 0 dk) := hid (by rw [hw2]; exact holds_putRow (Value.int .u64) (Sort.ahead w n) g 0 d dk (holds_ahead _ _ _ _ _ _ HH.out) (by rw [hsk, HS.out]))
    clear hO hw2 hsk
    by_cases hm : m = 0
    · subst hm
      have e0 : (((0 : Nat) : Int) - 1) = -1 := rfl
      rw [e0]
      have e2 : IntKind.i64.wrap ((h : Int) - 1) = (k : Int) := by rw [IntKind.wrap_i64]; have := HK.out; omega
      go_wp2_with fail
      clear e2
      clear HHK
      go_loopg [10] h (fun gg v10 wr => ∃ (m n : Nat) (dk : Array Int), v10 = .int .i64 ((m : Int) - 1) ∧ m = gg ∧ m ≤ h ∧ dk.size = s ∧ wr = putRow (Value.int .u64) (Sort.ahead w n) g 0 dk ∧ heapPop ltInt a m dk = Sort.heapSort ltInt d a b)
      case atStart => exact ⟨h, n, dk, by congr 1; have := HK.out; omega, rfl, by omega, HSK.out, HW.out, by rw [HSO.out, ← HO.out]; rfl⟩
      case round =>
        clear HO HW HSK dk n
        obtain ⟨m, n, dk, rfl, rfl, hmh, hsk, hw2, hO⟩ := hrel
        have HO := hid hO
        have HW := hid hw2
        have HSK := hid hsk
        have HHK : Hid (Holds (Value.int .u64) wr g 0 dk) := hid (by rw [hw2]; exact holds_putRow (Value.int .u64) (Sort.ahead w n) g 0 d dk (holds_ahead _ _ _ _ _ _ HH.out) (by rw [hsk, HS.out]))
        clear hO hw2 hsk
        by_cases hm : m = 0
        · subst hm
          have e0 : (((0 : Nat) : Int) - 1) = -1 := rfl
          rw [e0]
          go_wp2_with fail
          refine bodyPost_end (results_none rfl _ _ _) rfl ?_
          exact ⟨rfl, n, by rw [HW.out, ← HO.out]; rfl⟩
        · obtain ⟨p, rfl⟩ : ∃ p, m = p + 1 := ⟨m - 1, by omega⟩
          have e0 : (((p + 1 : Nat) : Int) - 1) = (p : Int) := by omega
          rw [e0]
          clear e0 hm
          have h0 : (0 : Int) ≤ (p : Int) := by omega
          have HPB : Hid (a + p < s ∧ a < s) := hid (by have := HK.out; omega)
          obtain ⟨hc1, hf1⟩ := HHK.out a (by rw [HSK.out]; exact HPB.out.2)
          obtain ⟨hc2, hf2⟩ := HHK.out (a + p) (by rw [HSK.out]; exact HPB.out.1)
          rw [Nat.zero_add] at hc1 hf1 hc2 hf2
          obtain ⟨x, hx⟩ : ∃ x, x = dk[a]! := ⟨_, rfl⟩
          obtain ⟨y, hy⟩ : ∃ y, y = dk[a + p]! := ⟨_, rfl⟩
          rw [← hx] at hc1
          rw [← hy] at hc2
          have HX := hid hx
          have HY := hid hy
          obtain ⟨hc3, hf3⟩ := half_swap HH.out (by rw [HSK.out]; exact HS.out) HW.out (by rw [HSK.out]; exact HPB.out.2) (by rw [HSK.out]; exact HPB.out.1) hy
          clear hx hy
          have hps : (a : Int) + (p : Int) < (s : Int) := by have := HPB.out; omega
          have hap : (a : Int) < (s : Int) := by have := HPB.out; omega
          go_wp2_with fail
          go_region
          all_goals go_wp2_with fail
          have HSW : Hid (((wr.setCell ⟨g, a, none⟩ (.int .u64 y)).setCell ⟨g, a + p, none⟩ (.int .u64 x)).drew = putRow (Value.int .u64) (Sort.ahead w (n + 1)) g 0 (swp dk a (a + p))) := hid (by
            have h := putRow_swp (Value.int .u64) (Sort.ahead w n) g 0 dk a (a + p) (by rw [HSK.out]; exact HPB.out.2) (by rw [HSK.out]; exact HPB.out.1)
            rw [← HW.out, ← HX.out, ← HY.out, Nat.zero_add, Nat.zero_add] at h
            rw [h, putRow_drew, ahead_drew])
          have HSK2 : Hid ((swp dk a (a + p)).size = s) := hid (by rw [size_swp]; exact HSK.out)
          generalize hw3 : World.drew _ = w3 at HSW
          generalize hdn : swp dk a (a + p) = dn at HSW HSK2
          have HDN := hid hdn
          clear hw3 hdn hc1 hc2 hc3 hf1 hf2 hf3
          have HHN : Hid (Holds (Value.int .u64) w3 g 0 dn) := hid (by rw [HSW.out]; exact holds_putRow (Value.int .u64) (Sort.ahead w (n + 1)) g 0 d dn (holds_ahead _ _ _ _ _ _ HH.out) (by rw [HSK2.out, HS.out]))
          have HC := hid (sift_any w3 g c 0 p a dn HHN.out (by rw [HSK2.out]; have := HPB.out; omega) (by omega) (by rw [HSK2.out]; exact hsz))
          rw [HSK2.out] at HC
          refine HC.out.mono ?_
          rintro e w4 ⟨rfl, n2, hw2⟩
          have HW2 : Hid (w4 = putRow (Value.int .u64) (Sort.ahead w (n + 1 + n2)) g 0 (Sort.siftDown ltInt p a 0 dn)) := hid (by rw [hw2, HSW.out, putRow_ahead_putRow _ _ _ _ _ _ _ _ (size_sift _ _ _ _)])
          clear hw2 HC
          go_wp2_with fail
          go_roundg p
          case measure => omega
          case rel => exact ⟨p, n + 1 + n2, Sort.siftDown ltInt p a 0 dn, rfl, rfl, by omega, by rw [size_sift]; exact HSK2.out, HW2.out, by rw [← HO.out, ← HDN.out]; rfl⟩
    · obtain ⟨p, rfl⟩ : ∃ p, m = p + 1 := ⟨m - 1, by omega⟩
      have e0 : (((p + 1 : Nat) : Int) - 1) = (p : Int) := by omega
      rw [e0]
      clear e0 hm
      have HC := hid (sift_any wr g c p h a dk HHK.out (by rw [HSK.out]; have := HK.out; omega) (by have := HK.out; omega) (by rw [HSK.out]; exact hsz))
      rw [HSK.out] at HC
      have h0 : (0 : Int) ≤ (p : Int) := by omega
      go_wp2_with fail
      refine HC.out.mono ?_
      rintro e w2 ⟨rfl, n2, hw2⟩
      have HW2 : Hid (w2 = putRow (Value.int .u64) (Sort.ahead w (n + n2)) g 0 (Sort.siftDown ltInt h a p dk)) := hid (by rw [hw2, HW.out, putRow_ahead_putRow _ _ _ _ _ _ _ _ (size_sift _ _ _ _)])
      clear hw2 HC
      go_wp2_with fail
      go_roundg p
      case measure => omega
      case rel => exact ⟨p, n + n2, Sort.siftDown ltInt h a p dk, by rw [low_one p (by have := HK.out; omega)], rfl, by omega, by rw [size_sift]; exact HSK.out, HW2.out, by rw [← HO.out]; rfl⟩
end Go.Proofs.Ytcmbijckhcckpaa
