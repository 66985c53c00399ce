/- Rows of numbers; the document's Unknown. -/
import Derived.Test.YtcmbijckhcckpaaFnd
namespace Go.Proofs.Ytcmbijckhcckpaa
open Go.RowKit

/-- numbers lie there -/
def Us (w : World) (v : Value) (K : List Nat) : Prop :=
  (v = .slice none 0 0 ∧ K = []) ∨ ∃ a cap, v = .slice (some a) K.length cap ∧ K.length ≤ cap ∧ (K ≠ [] → a = ⟨a.block, a.off, none⟩ ∧ a.block < w.heap.size) ∧ ∀ i (h : i < K.length), w.cell? (a.add i) = some (.int .u64 (K[i] : Int))
theorem Us.shape {w : World} {v : Value} {K : List Nat} (h : Us w v K) : ∃ ao cap, v = .slice ao K.length cap := by
  rcases h with ⟨h, e⟩ | ⟨a, cap, h, _⟩
  · subst e; exact ⟨none, 0, h⟩
  · exact ⟨_, _, h⟩
theorem Us.below {w w' : World} {v : Value} {K : List Nat} (h : Us w v K) (hb : Below w.heap.size w w') : Us w' v K := by
  rcases h with h | ⟨a, cap, h1, hc, h2, h3⟩
  · exact Or.inl h
  · refine Or.inr ⟨a, cap, h1, hc, fun hn => ⟨(h2 hn).1, Nat.lt_of_lt_of_le (h2 hn).2 hb.size⟩, fun i hi => ?_⟩
    have hl : K ≠ [] := fun e => by subst e; simp at hi
    rw [← h3 i hi]
    exact World.cell?_of_block (hb.block _ (by rw [add_block]; exact (h2 hl).2))
theorem Us.at {w : World} {ao : Option Addr} {cap n : Nat} {K : List Nat} (h : Us w (.slice ao n cap) K) (hl : K ≠ []) : ∃ g o, ao = some ⟨g, o, none⟩ ∧ g < w.heap.size ∧ n = K.length ∧ K.length ≤ cap ∧ ∀ i (h : i < K.length), w.cell? ⟨g, o + i, none⟩ = some (.int .u64 (K[i] : Int)) := by
  rcases h with ⟨_, e⟩ | ⟨a, cap, h1, hc, h2, h3⟩
  · exact absurd e hl
  · cases h1
    obtain ⟨ha, hb⟩ := h2 hl
    refine ⟨a.block, a.off, by rw [← ha], hb, rfl, hc, fun i hi => ?_⟩
    have := h3 i hi
    rw [ha, add_plain] at this
    exact this
theorem any_upto (K : List Nat) (t i : Nat) (h : i < K.length) (b : Bool) : (b || (K.take (i + 1)).any (· == t)) = ((b || (K.take i).any (· == t)) || K[i] == t) := by
  rw [List.take_succ_eq_append_getElem h, List.any_append]
  simp [Bool.or_assoc]

set_option maxRecDepth 100000 in
set_option maxHeartbeats 4000000 in
theorem runk_any (w : World) (v u : Value) (L : List Rec) (K : List Nat) (hL : Rcs w v L) (hs : Sm L) (hK : Us w u K) (hk : K.length ≤ 100) :
    Calls Try.prog 24 #[v, u] w fun e w' => e = .returned (.bool (L.any fun r => r.1 % 2 == 0 && !K.any (· == r.1))) ∧ Below w.heap.size w w' := by
  obtain ⟨al, cl, rfl⟩ := hL.shape
  obtain ⟨ak, ck, rfl⟩ := hK.shape
  have HL := hid hL
  have HK := hid hK
  obtain ⟨n, hn⟩ : ∃ n, n = L.length := ⟨_, rfl⟩
  obtain ⟨m, hm⟩ : ∃ m, m = K.length := ⟨_, rfl⟩
  have hn3 : n ≤ 3000 := by rw [hn]; exact hs.1
  rw [← hm] at hk
  rw [← hn, ← hm]
  have HN := hid hn
  have HM := hid hm
  obtain ⟨A, hA⟩ : ∃ A, A = L.any fun r => r.1 % 2 == 0 && !K.any (· == r.1) := ⟨_, rfl⟩
  rw [← hA]
  have HA := hid hA
  clear hL hs hn hm hA hK
  go_enter Try.func24, Try.ntmps24
  go_wp2_with fail
  go_loopg [5, 6, 7] n (fun gg v5 v6 v7 wr => ∃ i : Nat, i ≤ n ∧ gg = n - i ∧ v5 = .int .i64 (i : Int) ∧ Below w.heap.size w wr ∧ ∀ j (h : j < L.length), j < i → (L[j].1 % 2 == 0 && !K.any (· == L[j].1)) = false)
  case atStart => exact ⟨0, by omega, by omega, rfl, Below.refl _ _, fun j h hj => by omega⟩
  case round =>
    obtain ⟨i, hi, rfl, rfl, hbel, hall⟩ := hrel
    have HBE := hid hbel
    have HALL := hid hall
    clear hall
    by_cases hil : i < n
    · have hi1 : (i : Int) < (n : Int) := by omega
      have hiL : i < L.length := by rw [← HN.out]; exact hil
      obtain ⟨g, o, hao, hg, _, hcap, hc⟩ := HL.out.at (fun e => by rw [e] at hiL; simp at hiL)
      subst hao
      rw [← HN.out] at hcap
      obtain ⟨bv, h1, _, _⟩ := hc i hiL
      have HC1 : Hid (∀ W, Below w.heap.size w W → W.cell? ⟨g, o + i * 2, none⟩ = some (.int .u64 (L[i].1 : Int))) := hid (fun W hb => by rw [← h1]; exact World.cell?_of_block (hb.block g hg))
      have HNO : Hid ((L[i].1 % 2 == 0 && !K.any (· == L[i].1)) = false → ∀ j (h : j < L.length), j < i + 1 → (L[j].1 % 2 == 0 && !K.any (· == L[j].1)) = false) := hid (fun hx j h hj => by
        by_cases e : j = i
        · subst e; exact hx
        · exact HALL.out j h (by omega))
      have HYES : Hid ((L[i].1 % 2 == 0 && !K.any (· == L[i].1)) = true → A = true) := hid (fun hx => by
        rw [HA.out, List.any_eq_true]
        exact ⟨L[i], List.getElem_mem hiL, hx⟩)
      generalize L[i].1 = t at *
      have hc1 := HC1.out wr HBE.out
      obtain ⟨odd, hodd⟩ : ∃ b : Bool, b = ((t : Int) % 2 == 1) := ⟨_, rfl⟩
      have hodd' : ((t : Int) % 2 == 1) = odd := hodd.symm
      have HODD : Hid (odd = (t % 2 == 1)) := hid (by rw [hodd, Bool.eq_iff_iff]; simp; omega)
      clear hc h1 hbel hodd
      obtain ⟨w1, rfl⟩ : ∃ w1, w1 = wr := ⟨_, rfl⟩
      go_wp2_with fail
      go_loopg [6, 7] m (fun gg v6 v7 wr => ∃ k : Nat, k ≤ m ∧ gg = m - k ∧ v6 = .bool (odd || (K.take k).any (· == t)) ∧ v7 = .int .i64 (k : Int) ∧ Below w.heap.size w wr)
      case atStart => exact ⟨0, by omega, by omega, by simp, rfl, HBE.out⟩
      case round =>
        obtain ⟨k, hk1, rfl, rfl, rfl, hbel⟩ := hrel
        have HBF := hid hbel
        clear hbel hc1
        have hc1 := HC1.out wr HBF.out
        by_cases hkl : k < m
        · have hk2 : (k : Int) < (m : Int) := by omega
          have hkK : k < K.length := by rw [← HM.out]; exact hkl
          obtain ⟨g2, o2, hak, hg2, hl2, hcap2, hc2⟩ := HK.out.at (fun e => by rw [e] at hkK; simp at hkK)
          subst hak
          rw [← HM.out] at hcap2
          have hx : wr.cell? ⟨g2, o2 + k, none⟩ = some (.int .u64 (K[k] : Int)) := by rw [← hc2 k hkK]; exact World.cell?_of_block (HBF.out.block g2 hg2)
          have HUP := hid (any_upto K t k hkK odd)
          generalize K[k] = x at *
          generalize (odd || (K.take k).any (· == t)) = b at *
          clear hc2 hl2 hkK
          cases b
          · obtain ⟨eq, heq⟩ : ∃ b : Bool, ((x : Int) == (t : Int)) = b := ⟨_, rfl⟩
            have HEQ : Hid ((x == t) = eq) := hid (by rw [← heq, Bool.eq_iff_iff]; simp; omega)
            go_wp2_with fail
            go_quiet (fail)
            go_wp2_with fail
            go_roundg (m - (k + 1))
            case measure => omega
            case rel => exact ⟨k + 1, by omega, rfl, by rw [HUP.out, HEQ.out]; simp, by go_num, below_drewN HBF.out _⟩
          · go_wp2_with fail
            go_quiet (fail)
            go_wp2_with fail
            go_roundg (m - (k + 1))
            case measure => omega
            case rel => exact ⟨k + 1, by omega, rfl, by rw [HUP.out]; simp, by go_num, below_drewN HBF.out _⟩
        · have hk2 : ¬ (k : Int) < (m : Int) := by omega
          have HTK : Hid ((odd || (K.take k).any (· == t)) = (odd || K.any (· == t))) := hid (by rw [List.take_of_length_le (by rw [← HM.out]; omega)])
          have HB : Hid ((odd || (K.take k).any (· == t)) = !(t % 2 == 0 && !K.any (· == t))) := hid (by
            rw [HTK.out, HODD.out]
            have : (t % 2 == 1) = !(t % 2 == 0) := by rw [Bool.eq_iff_iff]; simp
            rw [this]
            cases (t % 2 == 0) <;> cases K.any (· == t) <;> rfl)
          generalize (odd || (K.take k).any (· == t)) = b at *
          generalize (t % 2 == 0 && !K.any (· == t)) = c at *
          clear HTK
          cases b
          · have HAT : Hid (A = true) := hid (HYES.out (by have := HB.out; revert this; cases c <;> simp))
            go_wp2_with fail
            go_ret
            exact ⟨by rw [HAT.out]; rfl, HBF.out⟩
          · have HNN := hid (HNO.out (by have := HB.out; revert this; cases c <;> simp))
            go_wp2_with fail
            go_roundg (n - (i + 1))
            case measure => omega
            case rel => exact ⟨i + 1, by omega, rfl, by go_num, HBF.out, HNN.out⟩
    · have hi1 : ¬ (i : Int) < (n : Int) := by omega
      go_wp2_with fail
      go_ret
      have hAE : A = false := by
        rw [HA.out, List.any_eq_false]
        intro x hx
        obtain ⟨j, hj, rfl⟩ := List.getElem_of_mem hx
        have := HALL.out j hj (by rw [← HN.out] at hj; omega)
        simp [this]
      exact ⟨by rw [hAE]; rfl, HBE.out⟩
end Go.Proofs.Ytcmbijckhcckpaa
