/- Find, of both sides. -/
import Derived.Test.YtcmbijckhcckpaaLent
namespace Go.Proofs.Ytcmbijckhcckpaa
open Go.RowKit

/-- the first body of a type -/
def findB (L : List Rec) (t : Nat) : Option Bs := (L.find? fun r => r.1 == t).map (·.2)
theorem find_at {L : List Rec} {t i : Nat} (hi : i < L.length) (h : ∀ j (hj : j < L.length), j < i → L[j].1 ≠ t) (ht : L[i].1 = t) : findB L t = some L[i].2 := by
  unfold findB
  have : (L.find? fun r => r.1 == t) = some L[i] := by
    rw [List.find?_eq_some_iff_getElem]
    refine ⟨by simpa using ht, i, hi, rfl, fun j hj => ?_⟩
    simpa using h j (by omega) hj
  rw [this]
  rfl
theorem find_no {L : List Rec} {t : Nat} (h : ∀ j (hj : j < L.length), L[j].1 ≠ t) : findB L t = none := by
  unfold findB
  have : (L.find? fun r => r.1 == t) = none := by
    rw [List.find?_eq_none]
    intro x hx
    obtain ⟨j, hj, rfl⟩ := List.getElem_of_mem hx
    simpa using h j hj
  rw [this]
  rfl
/-- what Find answers -/
abbrev found (a : Option Addr) (c : Nat) (o : Option Bs) : Ending := .returned (.tuple #[.slice a (o.getD []).length c, .bool o.isSome])

set_option maxRecDepth 100000 in
set_option maxHeartbeats 2000000 in
theorem find_any (w : World) (v : Value) (L : List Rec) (t : Nat) (hL : Rcs w v L) (hs : Sm L) : Calls Try.prog 21 #[v, .int .u64 (t : Int)] w fun e w' => ∃ a c, e = found a c (findB L t) ∧ w'.ownsRow w.heap.size 5 1 (.slice a ((findB L t).getD []).length c) ((findB L t).getD []).length (bcs ((findB L t).getD [])) ∧ Below w.heap.size w w' := by
  obtain ⟨al, cl, rfl⟩ := hL.shape
  have HL := hid hL
  have HS := hid hs
  obtain ⟨n, hn⟩ : ∃ n, n = L.length := ⟨_, rfl⟩
  have hn3 : n ≤ 3000 := by rw [hn]; exact hs.1
  rw [← hn]
  have HN := hid hn
  obtain ⟨A, hA⟩ : ∃ A, A = findB L t := ⟨_, rfl⟩
  rw [← hA]
  have HA := hid hA
  clear hL hs hn hA
  go_enter Try.func21, Try.ntmps21
  go_wp2_with fail
  go_loopg [7, 10] n (fun gg v7 v10 wr => ∃ i : Nat, i ≤ n ∧ gg = n - i ∧ v10 = .int .i64 (i : Int) ∧ Below w.heap.size w wr ∧ ∀ j (hj : j < L.length), j < i → L[j].1 ≠ t)
  case atStart => exact ⟨0, by omega, by omega, rfl, Below.refl _ _, fun j h hj => by omega⟩
  case round =>
    obtain ⟨i, hi, rfl, rfl, hbel, hall⟩ := hrel
    have HBE := hid hbel
    have HALL := hid hall
    clear hall
    by_cases hil : i < n
    · have hi1 : (i : Int) < (n : Int) := by omega
      have hiL : i < L.length := by rw [← HN.out]; exact hil
      obtain ⟨g, o, rfl, hg, _, hcap, hc⟩ := (HL.out.below hbel).at (fun e => by rw [e] at hiL; simp at hiL)
      rw [← HN.out] at hcap
      obtain ⟨bv, h1, h2, h3⟩ := hc i hiL
      obtain ⟨ab, cb, hbv⟩ := h3.shape
      subst hbv
      have HSL := hid h3
      have HAT := hid (fun ht => find_at (t := t) hiL HALL.out ht)
      have HNX : Hid (L[i].1 ≠ t → ∀ j (hj : j < L.length), j < i + 1 → L[j].1 ≠ t) := hid (fun h j hj hji => by
        by_cases e : j = i
        · subst e; exact h
        · exact HALL.out j hj (by omega))
      have HB3 := hid (HS.out.2 i hiL)
      generalize L[i] = q at *
      obtain ⟨qt, qb⟩ := q
      simp only at *
      clear hc h3 hbel
      obtain ⟨m, hm⟩ : ∃ m, m = qb.length := ⟨_, rfl⟩
      rw [← hm] at h2 HSL
      have HM := hid hm
      clear hm
      have HC0 := hid (heap_alloc_new wr (.cells #[.int .u64 (qt : Int), .slice ab m cb] 39))
      by_cases he : qt = t
      · subst he
        have HCL := hid (clone_any (wr.alloc (.cells #[.int .u64 (qt : Int), .slice ab m cb] 39)) (.slice ab m cb) qb (HSL.out.below ((Below.refl _ _).alloc (Nat.le_refl _) _)) (by have := HB3.out; omega))
        rw [← HM.out] at HCL
        have HAE : Hid (A = some qb) := hid (by rw [HA.out]; exact HAT.out rfl)
        go_wp2_with fail
        refine HCL.out.mono ?_
        rintro e w2 ⟨a2, c2, rfl, ho2, hb2⟩
        have HO2 := hid ho2
        have HB2 := hid (two_below (HBE.out.alloc HBE.out.size _) hb2)
        have hlo : w.heap.size ≤ (wr.alloc (.cells #[.int .u64 (qt : Int), .slice ab m cb] 39)).heap.size := by have := HBE.out.size; simp; omega
        have HLO := hid hlo
        clear ho2 hb2 hlo HCL
        go_wp2_with fail
        go_ret2
        refine ⟨a2, c2, ?_⟩
        rw [HAE.out]
        simp only [found, Option.getD_some, ← HM.out]
        exact ⟨rfl, own_low HO2.out HLO.out, HB2.out⟩
      · have he1 : ((qt : Int) == (t : Int)) = false := by simp; omega
        have HNN := hid (HNX.out he)
        go_wp2_with fail
        go_roundg (n - (i + 1))
        case measure => omega
        case rel => exact ⟨i + 1, by omega, rfl, by go_num, HBE.out.alloc HBE.out.size _, HNN.out⟩
    · have hi1 : ¬ (i : Int) < (n : Int) := by omega
      have HAE : Hid (A = none) := hid (by rw [HA.out]; exact find_no (fun j hj => HALL.out j hj (by rw [← HN.out] at hj; omega)))
      go_wp2_with fail
      go_ret2
      refine ⟨none, 0, ?_⟩
      rw [HAE.out]
      exact ⟨rfl, own_none _ _, HBE.out⟩

set_option maxRecDepth 100000 in
set_option maxHeartbeats 2000000 in
theorem rfind_any (w : World) (v : Value) (L : List Rec) (t : Nat) (hL : Rcs w v L) (hs : Sm L) : Calls Try.prog 22 #[v, .int .u64 (t : Int)] w fun e w' => ∃ a c, e = found a c (findB L t) ∧ Sl w (.slice a ((findB L t).getD []).length c) ((findB L t).getD []) ∧ w' = w := by
  obtain ⟨al, cl, rfl⟩ := hL.shape
  have HL := hid hL
  obtain ⟨n, hn⟩ : ∃ n, n = L.length := ⟨_, rfl⟩
  have hn3 : n ≤ 3000 := by rw [hn]; exact hs.1
  rw [← hn]
  have HN := hid hn
  obtain ⟨A, hA⟩ : ∃ A, A = findB L t := ⟨_, rfl⟩
  rw [← hA]
  have HA := hid hA
  clear hL hs hn hA
  go_enter Try.func22, Try.ntmps22
  go_wp2_with fail
  go_loopg [6] n (fun gg v6 wr => wr = w ∧ ∃ i : Nat, i ≤ n ∧ gg = n - i ∧ v6 = .int .i64 (i : Int) ∧ ∀ j (hj : j < L.length), j < i → L[j].1 ≠ t)
  case atStart => exact ⟨rfl, 0, by omega, by omega, rfl, fun j h hj => by omega⟩
  case round =>
    obtain ⟨hwr, i, hi, rfl, rfl, hall⟩ := hrel
    subst hwr
    have HALL := hid hall
    clear hall
    by_cases hil : i < n
    · have hi1 : (i : Int) < (n : Int) := by omega
      have hiL : i < L.length := by rw [← HN.out]; exact hil
      obtain ⟨g, o, rfl, hg, _, hcap, hc⟩ := HL.out.at (fun e => by rw [e] at hiL; simp at hiL)
      rw [← HN.out] at hcap
      obtain ⟨bv, h1, h2, h3⟩ := hc i hiL
      obtain ⟨ab, cb, hbv⟩ := h3.shape
      subst hbv
      have HSL := hid h3
      have HAT := hid (fun ht => find_at (t := t) hiL HALL.out ht)
      have HNX : Hid (L[i].1 ≠ t → ∀ j (hj : j < L.length), j < i + 1 → L[j].1 ≠ t) := hid (fun h j hj hji => by
        by_cases e : j = i
        · subst e; exact h
        · exact HALL.out j hj (by omega))
      generalize L[i] = q at *
      obtain ⟨qt, qb⟩ := q
      simp only at *
      clear hc h3
      obtain ⟨m, hm⟩ : ∃ m, m = qb.length := ⟨_, rfl⟩
      rw [← hm] at h2 HSL
      have HM := hid hm
      clear hm
      by_cases he : qt = t
      · subst he
        have HAE : Hid (A = some qb) := hid (by rw [HA.out]; exact HAT.out rfl)
        go_wp2_with fail
        go_ret2
        refine ⟨ab, cb, ?_⟩
        rw [HAE.out]
        simp only [found, Option.getD_some, ← HM.out]
        exact ⟨rfl, HSL.out, by trivial⟩
      · have he1 : ((qt : Int) == (t : Int)) = false := by simp; omega
        have HNN := hid (HNX.out he)
        go_wp2_with fail
        go_roundg (n - (i + 1))
        case measure => omega
        case rel => exact ⟨rfl, i + 1, by omega, rfl, by go_num, HNN.out⟩
    · have hi1 : ¬ (i : Int) < (n : Int) := by omega
      have HAE : Hid (A = none) := hid (by rw [HA.out]; exact find_no (fun j hj => HALL.out j hj (by rw [← HN.out] at hj; omega)))
      go_wp2_with fail
      go_ret2
      refine ⟨none, 0, ?_⟩
      rw [HAE.out]
      exact ⟨rfl, Sl.nil _, rfl⟩
end Go.Proofs.Ytcmbijckhcckpaa
