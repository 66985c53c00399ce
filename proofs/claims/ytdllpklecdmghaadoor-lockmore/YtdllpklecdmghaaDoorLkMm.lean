/- LockMore: what is asked of locks that open, and of two put together. -/
import Derived.Test.YtdllpklecdmghaaDoorLkPAll
import Derived.Test.YtdllpklecdmghaaDoorLkHAll
import Derived.Test.YtdllpklecdmghaaDoorLkR
import Derived.Test.YtdllpklecdmghaaDoorLkD
namespace Go.Proofs.YtdllpklecdmghaaDoor
open Go.RowKit
open Lk (Lt Sp)

namespace Lk
theorem greats_ge (top : Nat) : ∀ (ks : List Lt) (n : Nat), n ≤ greats top n ks
  | [], n => Nat.le_refl n
  | x :: ks, n => by
    rw [greats]
    split
    · exact Nat.le_trans (Nat.le_add_right _ _) (greats_ge top ks _)
    · exact Nat.le_refl n
theorem great_pos (top : Nat) (l : Lt) : 1 ≤ great top l := by
  cases l with
  | mk k t n ks =>
    rw [great]
    have := greats_ge top ks (1 + t.length / 64)
    omega
theorem greats_all (top : Nat) : ∀ (ks : List Lt) (n : Nat), greats top n ks ≤ top → n + ks.length ≤ top ∧ ∀ x ∈ ks, great top x ≤ top
  | [], n, h => ⟨by simpa [greats] using h, fun x hx => by cases hx⟩
  | y :: ks, n, h => by
    rw [greats] at h
    split at h
    · obtain ⟨h1, h2⟩ := greats_all top ks _ h
      have h3 := great_pos top y
      refine ⟨by rw [List.length_cons]; omega, fun x hx => ?_⟩
      rcases List.mem_cons.1 hx with rfl | hx
      · omega
      · exact h2 x hx
    · omega
theorem greats_size (top : Nat) : ∀ (ks : List Lt) (n : Nat), greats top n ks ≤ top → (∀ x ∈ ks, great top x ≤ top → size x ≤ great top x) → n + sizes ks ≤ greats top n ks
  | [], n, h, _ => by simp [greats, sizes]
  | y :: ks, n, h, hs => by
    obtain ⟨_, hm⟩ := greats_all top (y :: ks) n h
    rw [greats] at h ⊢
    split at h
    · rename_i hn
      rw [if_pos hn, sizes]
      have h1 := greats_size top ks _ h (fun x hx => hs x (by simp [hx]))
      have h2 := hs y (by simp) (hm y (by simp))
      omega
    · omega
theorem great_size (top : Nat) : ∀ (l : Lt), great top l ≤ top → size l ≤ great top l := by
  intro l
  induction l using Lt.ind with
  | h k t n ks ih =>
    intro h
    rw [great] at h ⊢
    have h1 := greats_size top ks (1 + t.length / 64) (by omega) ih
    rw [size]
    omega
/-- what is not great is small -/
theorem great_small {top : Nat} (ht : top ≤ 300) : ∀ (l : Lt), great top l ≤ top → small l = true := by
  intro l
  induction l using Lt.ind with
  | h k t n ks ih =>
    intro h
    rw [great] at h
    have h1 : greats top (1 + t.length / 64) ks ≤ top := by omega
    obtain ⟨h2, h3⟩ := greats_all top ks _ h1
    have hs : ∀ ms : List Lt, (∀ x ∈ ms, x ∈ ks) → smalls ms = true := by
      intro ms
      induction ms with
      | nil => intro _; rfl
      | cons x ms ihm =>
        intro hm
        rw [smalls, ih x (hm x (by simp)) (h3 x (hm x (by simp))), ihm (fun y hy => hm y (by simp [hy]))]
        rfl
    have h4 := greats_size top ks _ h1 (fun x _ => great_size top x)
    rw [small, hs ks (fun _ h => h), decide_eq_true (show t.length ≤ 20000 by omega), decide_eq_true (show ks.length ≤ 1000000 by omega), decide_eq_true (show sizes ks ≤ 60000 by omega)]
    rfl
theorem any_sub {P : Bs → Bool} {a b : List Bs} (h : ∀ x ∈ a, x ∈ b) (ha : a.any P = true) : b.any P = true := by
  obtain ⟨x, hx, hp⟩ := List.any_eq_true.1 ha
  exact List.any_eq_true.2 ⟨x, h x hx, hp⟩
/-- what opens a lock opens it with more, later -/
theorem opn_more {ver : Bs → Bs → Bs → Bool} {s s' : Sp} (h1 : ∀ x ∈ s.sigs, x ∈ s'.sigs) (h2 : ∀ x ∈ s.pres, x ∈ s'.pres) (h3 : s'.msg = s.msg) (h4 : s.after ≤ s'.after) (h5 : s.age ≤ s'.age) : ∀ (l : Lt), opn ver s l = true → opn ver s' l = true := by
  intro l
  induction l using Lt.ind with
  | h k t n ks ih =>
    intro h
    rw [opn] at h ⊢
    by_cases k1 : k = 1
    · rw [if_pos k1] at h ⊢
      rw [h3]
      exact any_sub h1 h
    · rw [if_neg k1] at h ⊢
      by_cases k2 : k = 2
      · rw [if_pos k2] at h ⊢
        exact any_sub h2 h
      · rw [if_neg k2] at h ⊢
        by_cases k3 : k = 3
        · rw [if_pos k3] at h ⊢
          have := of_decide_eq_true h
          exact decide_eq_true (by omega)
        · rw [if_neg k3] at h ⊢
          by_cases k4 : k = 4
          · rw [if_pos k4] at h ⊢
            have := of_decide_eq_true h
            exact decide_eq_true (by omega)
          · rw [if_neg k4] at h ⊢
            by_cases k5 : k = 5
            · rw [if_pos k5] at h ⊢
              have hs : ∀ ms : List Lt, (∀ x ∈ ms, x ∈ ks) → opnAll ver s ms = true → opnAll ver s' ms = true := by
                intro ms
                induction ms with
                | nil => intro _ _; rfl
                | cons x ms ihm =>
                  intro hm ho
                  rw [opnAll, Bool.and_eq_true] at ho ⊢
                  exact ⟨ih x (hm x (by simp)) ho.1, ihm (fun y hy => hm y (by simp [hy])) ho.2⟩
              exact hs ks (fun _ h => h) h
            · rw [if_neg k5] at h ⊢
              have hs : ∀ ms : List Lt, (∀ x ∈ ms, x ∈ ks) → opnAny ver s ms = true → opnAny ver s' ms = true := by
                intro ms
                induction ms with
                | nil => intro _ ho; exact ho
                | cons x ms ihm =>
                  intro hm ho
                  rw [opnAny, Bool.or_eq_true] at ho ⊢
                  rcases ho with ho | ho
                  · exact .inl (ih x (hm x (by simp)) ho)
                  · exact .inr (ihm (fun y hy => hm y (by simp [hy])) ho)
              exact hs ks (fun _ h => h) h
theorem fit_pair (k : Nat) (hk : k = 5 ∨ k = 6) (a b : Lt) : fit (.mk k [] 0 [a, b]) = true := by
  rcases hk with rfl | rfl <;> rfl
theorem right_pair (a b : Lt) : right (.mk 5 [] 0 [a, b]) = right (.mk 6 [] 0 [a, b]) := by
  rw [Bool.eq_iff_iff, right_is, right_is, ok, ok, fit_pair 5 (.inl rfl), fit_pair 6 (.inr rfl), size, size]
theorem right_of_pair {a b : Lt} (h : right (.mk 5 [] 0 [a, b]) = true) : right a = true ∧ right b = true := by
  rw [right_is, ok, fit_pair 5 (.inl rfl), oks, oks, oks, size, sizes, sizes, sizes] at h
  simp only [Bool.true_and, Bool.and_true, Bool.and_eq_true] at h
  exact ⟨(right_is a).2 ⟨h.1.1, by omega⟩, (right_is b).2 ⟨h.1.2, by omega⟩⟩
end Lk
theorem op_pair {a b : Lt} (s : Sp) (h : Lk.right (.mk 5 [] 0 [a, b]) = true) : opRes (.mk 5 [] 0 [a, b]) s = (opRes a s && opRes b s) ∧ opRes (.mk 6 [] 0 [a, b]) s = (opRes a s || opRes b s) := by
  obtain ⟨h1, h2⟩ := Lk.right_of_pair h
  have h6 := h
  rw [Lk.right_pair] at h6
  unfold opRes
  rw [h, h6, h1, h2, Lk.opn, Lk.opn, if_neg (by decide), if_neg (by decide), if_neg (by decide), if_neg (by decide), if_pos rfl, if_neg (by decide), if_neg (by decide), if_neg (by decide), if_neg (by decide), if_neg (by decide), Lk.opnAll, Lk.opnAll, Lk.opnAll, Lk.opnAny, Lk.opnAny, Lk.opnAny]
  generalize decide (s.sigs.length ≤ 16) = x
  generalize decide (s.pres.length ≤ 16) = y
  generalize Lk.opn verifyRes s a = p
  generalize Lk.opn verifyRes s b = q
  cases x <;> cases y <;> cases p <;> cases q <;> exact ⟨rfl, rfl⟩
theorem op_more {l : Lt} {sg pr : List Bs} {msg m : Bs} {af ag lt : Int} (hl : 0 ≤ lt) (h : opRes l ⟨sg, pr, msg, af, ag⟩ = true) (h1 : sg.length + 1 ≤ 16) (h2 : pr.length + 1 ≤ 16) : opRes l ⟨sg ++ [m], pr ++ [m], msg, af + lt, ag + lt⟩ = true := by
  unfold opRes at h ⊢
  simp only [Bool.and_eq_true, decide_eq_true_iff] at h ⊢
  refine ⟨⟨⟨h.1.1.1, by simpa using h1⟩, by simpa using h2⟩, Lk.opn_more (s := ⟨sg, pr, msg, af, ag⟩) (s' := ⟨sg ++ [m], pr ++ [m], msg, af + lt, ag + lt⟩) (fun x hx => by simp [show x ∈ sg from hx]) (fun x hx => by simp [show x ∈ pr from hx]) rfl (by show af ≤ af + lt; omega) (by show ag ≤ ag + lt; omega) l h.2⟩
end Go.Proofs.YtdllpklecdmghaaDoor
