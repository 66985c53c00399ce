/- Size and Same, of the document's side. -/
import Derived.Test.YtdhmmllpioppfaaGreatVConv
namespace Go.Proofs.YtdhmmllpioppfaaGreat.V
open Go.RowKit

/-- records that the laws look at -/
def Sm (L : List Rec) : Prop := L.length ≤ 4000 ∧ ∀ i (h : i < L.length), L[i].2.length ≤ 4000
theorem Sm.few {L : List Rec} (h : Sm L) (ht : ∀ i (h : i < L.length), L[i].1 < 18446744073709551616) : Few L := ⟨by have := h.1; omega, fun i hi => ⟨ht i hi, by have := h.2 i hi; omega⟩⟩

set_option maxRecDepth 100000 in
set_option maxHeartbeats 2000000 in
theorem rsize_any (w : World) (v : Value) (L : List Rec) (hL : Rcs w v L) : Calls Tryz.prog 15 #[v, .int .i64 4000] w fun e w' => ∃ r : Nat, e = .returned (.int .i64 (r : Int)) ∧ r ≤ 8001 ∧ w' = w := by
  obtain ⟨ao, cap, rfl⟩ := hL.shape
  have HL := hid hL
  obtain ⟨n, hn⟩ : ∃ n, n = L.length := ⟨_, rfl⟩
  rw [← hn]
  have HN := hid hn
  clear hL hn
  go_enter Tryz.func15, Tryz.ntmps15
  go_wp2_with fail
  go_loopg [5, 6] (4002 : Nat) (fun gg v5 v6 wr => wr = w ∧ ∃ (i r : Nat), i ≤ n ∧ i ≤ 4001 ∧ gg = 4002 - i ∧ i ≤ r ∧ r ≤ 8001 ∧ v6 = .int .i64 (i : Int) ∧ v5 = .int .i64 (r : Int) ∧ ∀ j (h : j < L.length), j < i → 1 + min L[j].2.length 4000 ≤ r)
  case atStart => exact ⟨rfl, 0, 0, by omega, by omega, rfl, by omega, by omega, rfl, rfl, fun j h hj => by omega⟩
  case round =>
    obtain ⟨hwr, i, r, hi, hi3, rfl, hir, hr6, rfl, rfl, hall⟩ := hrel
    subst hwr
    have HALL := hid hall
    clear hall
    by_cases hil : i < n
    · have hi1 : (i : Int) < (n : Int) := by omega
      by_cases hr : r ≤ 4000
      · have hr1 : (r : Int) ≤ 4000 := by omega
        have hiL : i < L.length := by rw [← HN.out]; exact hil
        obtain ⟨g, o, rfl, hg, _, hcap, hc⟩ := HL.out.at (fun e => by rw [e] at hiL; simp at hiL)
        obtain ⟨bv, h1, h2, h3⟩ := hc i hiL
        obtain ⟨ab, cb, hbv⟩ := h3.shape
        subst hbv
        have HB : Hid (∃ q, q = L[i].2.length) := hid ⟨_, rfl⟩
        obtain ⟨q, hq⟩ := HB.out
        rw [← hq] at h2
        have HQ := hid hq
        clear hc h1 h3 hq HB hcap
        by_cases hq3 : q ≤ 4000
        · have hq1 : (q : Int) ≤ 4000 := by omega
          have hmin : min (q : Int) 4000 = (q : Int) := by omega
          go_wp2_with fail
          go_roundg (4002 - (i + 1))
          case measure => omega
          case rel =>
            refine ⟨rfl, i + 1, r + 1 + q, by omega, by omega, rfl, by omega, by omega, by go_num, by go_num, fun j h hj => ?_⟩
            by_cases e : j = i
            · subst e
              rw [← HQ.out]
              omega
            · have := HALL.out j h (by omega)
              omega
        · have hq1 : ¬ (q : Int) ≤ 4000 := by omega
          have hmin : min (q : Int) 4000 = 4000 := by omega
          go_wp2_with fail
          go_roundg (4002 - (i + 1))
          case measure => omega
          case rel =>
            refine ⟨rfl, i + 1, r + 1 + 4000, by omega, by omega, rfl, by omega, by omega, by go_num, by go_num, fun j h hj => ?_⟩
            by_cases e : j = i
            · subst e
              rw [← HQ.out]
              omega
            · have := HALL.out j h (by omega)
              omega
      · have hr1 : ¬ (r : Int) ≤ 4000 := by omega
        have hr2 : decide ((r : Int) ≤ 4000) = false := by simpa using hr1
        go_wp2_with fail
        go_ret
        exact ⟨r, rfl, hr6, rfl⟩
    · have hi1 : ¬ (i : Int) < (n : Int) := by omega
      have hi2 : decide ((i : Int) < (n : Int)) = false := by simpa using hi1
      go_wp2_with fail
      go_ret
      exact ⟨r, rfl, hr6, rfl⟩

theorem Sl.stringN {w : World} {v : Value} {l : Bs} (h : Sl w v l) (k : Nat) : (convert 33 9 v).run Tryz.prog (w.drewN k) = .ok (St l) (w.drewN k) := (h.below (below_drewN (Below.refl _ _) k)).string
set_option maxRecDepth 100000 in
set_option maxHeartbeats 2000000 in
theorem same_yes (w : World) (u v : Value) (L : List Rec) (hu : Rcs w u L) (hv : Rcs w v L) (hm : L.length ≤ 140737488355328) : Calls Tryz.prog 25 #[u, v] w fun e w' => e = .returned (.bool true) ∧ Below w.heap.size w w' := by
  obtain ⟨au, cu, rfl⟩ := hu.shape
  obtain ⟨av, cv, rfl⟩ := hv.shape
  have HU := hid hu
  have HV := hid hv
  obtain ⟨n, hn⟩ : ∃ n, n = L.length := ⟨_, rfl⟩
  rw [← hn] at hm ⊢
  have HN := hid hn
  clear hu hv hn
  go_enter Tryz.func25, Tryz.ntmps25
  go_wp2_with fail
  go_loopg [5] n (fun gg v5 wr => ∃ i : Nat, i ≤ n ∧ gg = n - i ∧ v5 = .int .i64 (i : Int) ∧ Below w.heap.size w wr)
  case atStart => exact ⟨0, by omega, by omega, rfl, Below.refl _ _⟩
  case round =>
    obtain ⟨i, hi, rfl, rfl, hbel⟩ := hrel
    have HBE := hid hbel
    by_cases hil : i < n
    · have hi1 : (i : Int) < (n : Int) := by omega
      have hiL : i < L.length := by rw [← HN.out]; exact hil
      have hne : L ≠ [] := fun e => by rw [e] at hiL; simp at hiL
      obtain ⟨g, o, rfl, hg, _, hcap, hc⟩ := (HU.out.below hbel).at hne
      obtain ⟨g2, o2, rfl, hg2, _, hcap2, hc2⟩ := (HV.out.below hbel).at hne
      obtain ⟨bv, h1, h2, h3⟩ := hc i hiL
      obtain ⟨bv2, k1, k2, k3⟩ := hc2 i hiL
      have q1 := h3.stringN
      have q2 := k3.stringN
      obtain ⟨ab, cb, hbv⟩ := h3.shape
      obtain ⟨ab2, cb2, hbv2⟩ := k3.shape
      subst hbv
      subst hbv2
      clear hc hc2 h3 k3 hbel
      generalize L[i].2.length = m at *
      generalize L[i].1 = t at *
      generalize L[i].2 = bb at *
      rw [← HN.out] at hcap hcap2
      go_wp2_with fail
      go_quiet (fail)
      go_wp2_with fail
      go_roundg (n - (i + 1))
      case measure => omega
      case rel => exact ⟨i + 1, by omega, rfl, by go_num, below_drewN HBE.out _⟩
    · have hi1 : ¬ (i : Int) < (n : Int) := by omega
      clear hbel
      go_wp2_with fail
      go_ret
      exact ⟨rfl, HBE.out⟩
end Go.Proofs.YtdhmmllpioppfaaGreat.V
