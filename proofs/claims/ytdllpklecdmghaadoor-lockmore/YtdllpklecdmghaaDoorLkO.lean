/- What opens a lock. -/
import Derived.Test.YtdllpklecdmghaaDoorLkN
import Derived.Test.YtdllpklecdmghaaDoorLkGAll
namespace Go.Proofs.YtdllpklecdmghaaDoor
open Go.RowKit
open Lk (Lt)

namespace Lk
theorem all_is (ver : Bs → Bs → Bs → Bool) (s : Sp) : ∀ ks : List Lt, opnAll ver s ks = !(ks.any (fun x => !opn ver s x))
  | [] => rfl
  | x :: ks => by rw [opnAll, all_is ver s ks, List.any_cons]; cases opn ver s x <;> simp
theorem any_is (ver : Bs → Bs → Bs → Bool) (s : Sp) : ∀ ks : List Lt, opnAny ver s ks = ks.any (fun x => opn ver s x)
  | [] => rfl
  | x :: ks => by rw [opnAny, any_is ver s ks, List.any_cons]
end Lk
namespace Tm
theorem is_inv_hash {d : Nat} {l : Bs} (h : Is d (72 :: l)) : ∃ a, Is a l ∧ d = a + 1 := by
  have h1 := h.2.2 d [] (Nat.le_refl _)
  have h3 := h.1
  obtain ⟨n, rfl⟩ : ∃ k, d = k + 1 := ⟨d - 1, by omega⟩
  rw [List.append_nil, rd, if_neg (by decide), if_neg (by decide), if_neg (by decide), if_neg (by decide), if_pos rfl] at h1
  match hg : rd n l with
  | none => rw [hg] at h1; simp at h1
  | some (k, r) =>
    rw [hg] at h1
    obtain ⟨p, rfl, hk, hp⟩ := rd_good n _ _ _ hg
    simp at h1
    obtain ⟨h1, rfl⟩ := h1
    rw [List.append_nil]
    exact ⟨k, hp, by omega⟩
end Tm
/-- a preimage's digest is a right term just if it is that one -/
theorem hash_is {t : Bs} (ht : Tm.deep t ≠ 0) (x : Bs) : ((((bRes 72 [] [x]).2 : Int) == 0) && ((bRes 72 [] [x]).1 == t)) = decide (72 :: x = t) := by
  by_cases e : 72 :: x = t
  · have h1 := (Tm.deep_is ht).1
    have h2 := (Tm.deep_is ht).2
    have h3 := Tm.deep_le t
    rw [← e] at h1 h2 h3
    obtain ⟨a, ha, hd⟩ := Tm.is_inv_hash h1
    have hxl : x.length ≤ 16384 := by simp at h2; omega
    have hx : Tm.deep x = a := Tm.is_deep ha (by omega) hxl
    have ha1 := ha.1
    have hb : bRes 72 [] [x] = (72 :: x, 0) := by
      unfold bRes
      rw [if_neg (by simp [hx]; omega), if_neg (by simp [bDeep, bSize, hx] at *; omega)]
      simp
    rw [hb]
    simp [e]
  · rw [decide_eq_false e, Bool.and_eq_false_iff]
    unfold bRes
    split
    · exact .inl rfl
    · split
      · exact .inl rfl
      · right
        simpa using e
set_option maxHeartbeats 4000000 in
theorem ask55 (x t msg : Bs) (p q : Nat) (w : World) (e1 : w.cell? ⟨p, 1, none⟩ = some (St t)) (e2 : w.cell? ⟨q, 2, none⟩ = some (St msg)) : Calls Tryd.prog 49 #[St x, .pointer (some ⟨p, 0, none⟩), .pointer (some ⟨q, 0, none⟩)] w fun e w' => e = .returned (.bool (verifyRes t msg x)) ∧ Below w.heap.size w w' := by
  have HC := hid (verify_any t msg x w)
  generalize verifyRes t msg x = R at *
  go_enter Tryd.func49, Tryd.ntmps49
  go_wp2_with fail
  refine HC.out.mono ?_
  rintro e w2 ⟨rfl, hb2⟩
  have HB2 := hid hb2
  clear hb2 HC e1 e2
  go_wp2_with fail
  go_ret
  exact ⟨rfl, HB2.out⟩
set_option maxHeartbeats 4000000 in
theorem ask57 (x t : Bs) (ht : Tm.deep t ≠ 0) (p : Nat) (w : World) (e1 : w.cell? ⟨p, 1, none⟩ = some (St t)) : Calls Tryd.prog 51 #[St x, .pointer (some ⟨p, 0, none⟩)] w fun e w' => e = .returned (.bool (decide (72 :: x = t))) ∧ Below w.heap.size w w' := by
  have HC := hid (hash_any x w)
  have HR := hid (hash_is ht x)
  have HE1 : Hid (∀ W, Below w.heap.size w W → W.cell? ⟨p, 1, none⟩ = some (St t)) := hid (fun W hW => cell_later hW e1)
  clear ht e1
  generalize decide (72 :: x = t) = R at *
  unfold made at HC
  generalize hr : bRes 72 [] [x] = r at *
  obtain ⟨h, n⟩ := r
  clear hr
  go_enter Tryd.func51, Tryd.ntmps51
  go_wp2_with fail
  refine HC.out.mono ?_
  rintro e w2 ⟨rfl, hb2⟩
  have e1 := HE1.out w2 hb2
  have HB2 := hid hb2
  clear hb2 HC HE1
  by_cases hn : (n : Int) = 0
  · go_wp2_with fail
    go_ret
    exact ⟨by rw [← HR.out]; simp [hn], HB2.out⟩
  · go_wp2_with fail
    go_ret
    have hn' : ¬ n = 0 := by omega
    exact ⟨by rw [← HR.out]; simp [hn'], HB2.out⟩
end Go.Proofs.YtdllpklecdmghaaDoor
