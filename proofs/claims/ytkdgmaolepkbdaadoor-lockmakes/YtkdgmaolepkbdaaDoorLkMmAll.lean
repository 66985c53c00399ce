import Derived.Test.YtkdgmaolepkbdaaDoorLkPAll
import Derived.Test.YtkdgmaolepkbdaaDoorLkHAll
import Derived.Test.YtkdgmaolepkbdaaDoorLkR
import Derived.Test.YtkdgmaolepkbdaaDoorLkD
import Derived.Test.YtkdgmaolepkbdaaDoorLkE
import Derived.Test.YtkdgmaolepkbdaaDoorLkVAll
/- LockMore: what is asked of locks that open, and of two put together. -/
namespace Go.Proofs.YtkdgmaolepkbdaaDoor
open Go.RowKit
open Lk (Lt Sp)

namespace Lk
theorem greats_ge (top : Nat) : ∀ (ks : List Lt) (n : Nat), n ≤ greats top n ks
  | [], n => Nat.le_refl n
  | x :: ks, n => by
    rw [greats]
    split
    · exact Nat.le_trans (Nat.le_add_right _ _) (greats_ge top ks _)
    · exact Nat.le_refl n
theorem great_pos (top : Nat) (l : Lt) : 1 ≤ great top l := by
  cases l with
  | mk k t n ks =>
    rw [great]
    have := greats_ge top ks (1 + t.length / 64)
    omega
theorem greats_all (top : Nat) : ∀ (ks : List Lt) (n : Nat), greats top n ks ≤ top → n + ks.length ≤ top ∧ ∀ x ∈ ks, great top x ≤ top
  | [], n, h => ⟨by simpa [greats] using h, fun x hx => by cases hx⟩
  | y :: ks, n, h => by
    rw [greats] at h
    split at h
    · obtain ⟨h1, h2⟩ := greats_all top ks _ h
      have h3 := great_pos top y
      refine ⟨by rw [List.length_cons]; omega, fun x hx => ?_⟩
      rcases List.mem_cons.1 hx with rfl | hx
      · omega
      · exact h2 x hx
    · omega
/-- what is not great is small -/
theorem great_small {top : Nat} (ht : top ≤ 300) : ∀ (l : Lt), great top l ≤ top → small l = true := by
  intro l
  induction l using Lt.ind with
  | h k t n ks ih =>
    intro h
    rw [great] at h
    have h1 : greats top (1 + t.length / 64) ks ≤ top := by omega
    obtain ⟨h2, h3⟩ := greats_all top ks _ h1
    have hs : ∀ ms : List Lt, (∀ x ∈ ms, x ∈ ks) → smalls ms = true := by
      intro ms
      induction ms with
      | nil => intro _; rfl
      | cons x ms ihm =>
        intro hm
        rw [smalls, ih x (hm x (by simp)) (h3 x (hm x (by simp))), ihm (fun y hy => hm y (by simp [hy]))]
        rfl
    rw [small, hs ks (fun _ h => h), decide_eq_true (show t.length ≤ 20000 by omega), decide_eq_true (show ks.length ≤ 1000000 by omega)]
    rfl
theorem any_sub {P : Bs → Bool} {a b : List Bs} (h : ∀ x ∈ a, x ∈ b) (ha : a.any P = true) : b.any P = true := by
  obtain ⟨x, hx, hp⟩ := List.any_eq_true.1 ha
  exact List.any_eq_true.2 ⟨x, h x hx, hp⟩
/-- what opens a lock opens it with more, later -/
theorem opn_more {ver : Bs → Bs → Bs → Bool} {s s' : Sp} (h1 : ∀ x ∈ s.sigs, x ∈ s'.sigs) (h2 : ∀ x ∈ s.pres, x ∈ s'.pres) (h3 : s'.msg = s.msg) (h4 : s.after ≤ s'.after) (h5 : s.age ≤ s'.age) : ∀ (l : Lt), opn ver s l = true → opn ver s' l = true := by
  intro l
  induction l using Lt.ind with
  | h k t n ks ih =>
    intro h
    rw [opn] at h ⊢
    by_cases k1 : k = 1
    · rw [if_pos k1] at h ⊢
      rw [h3]
      exact any_sub h1 h
    · rw [if_neg k1] at h ⊢
      by_cases k2 : k = 2
      · rw [if_pos k2] at h ⊢
        exact any_sub h2 h
      · rw [if_neg k2] at h ⊢
        by_cases k3 : k = 3
        · rw [if_pos k3] at h ⊢
          have := of_decide_eq_true h
          exact decide_eq_true (by omega)
        · rw [if_neg k3] at h ⊢
          by_cases k4 : k = 4
          · rw [if_pos k4] at h ⊢
            have := of_decide_eq_true h
            exact decide_eq_true (by omega)
          · rw [if_neg k4] at h ⊢
            by_cases k5 : k = 5
            · rw [if_pos k5] at h ⊢
              have hs : ∀ ms : List Lt, (∀ x ∈ ms, x ∈ ks) → opnAll ver s ms = true → opnAll ver s' ms = true := by
                intro ms
                induction ms with
                | nil => intro _ _; rfl
                | cons x ms ihm =>
                  intro hm ho
                  rw [opnAll, Bool.and_eq_true] at ho ⊢
                  exact ⟨ih x (hm x (by simp)) ho.1, ihm (fun y hy => hm y (by simp [hy])) ho.2⟩
              exact hs ks (fun _ h => h) h
            · rw [if_neg k5] at h ⊢
              have hs : ∀ ms : List Lt, (∀ x ∈ ms, x ∈ ks) → opnAny ver s ms = true → opnAny ver s' ms = true := by
                intro ms
                induction ms with
                | nil => intro _ ho; exact ho
                | cons x ms ihm =>
                  intro hm ho
                  rw [opnAny, Bool.or_eq_true] at ho ⊢
                  rcases ho with ho | ho
                  · exact .inl (ih x (hm x (by simp)) ho)
                  · exact .inr (ihm (fun y hy => hm y (by simp [hy])) ho)
              exact hs ks (fun _ h => h) h
theorem fit_pair (k : Nat) (hk : k = 5 ∨ k = 6) (a b : Lt) : fit (.mk k [] 0 [a, b]) = true := by
  rcases hk with rfl | rfl <;> rfl
theorem right_pair (a b : Lt) : right (.mk 5 [] 0 [a, b]) = right (.mk 6 [] 0 [a, b]) := by
  rw [Bool.eq_iff_iff, right_is, right_is, ok, ok, fit_pair 5 (.inl rfl), fit_pair 6 (.inr rfl), size, size]
theorem right_of_pair {a b : Lt} (h : right (.mk 5 [] 0 [a, b]) = true) : right a = true ∧ right b = true := by
  rw [right_is, ok, fit_pair 5 (.inl rfl), oks, oks, oks, size, sizes, sizes, sizes] at h
  simp only [Bool.true_and, Bool.and_true, Bool.and_eq_true] at h
  exact ⟨(right_is a).2 ⟨h.1.1, by omega⟩, (right_is b).2 ⟨h.1.2, by omega⟩⟩
end Lk
theorem op_pair {a b : Lt} (s : Sp) (h : Lk.right (.mk 5 [] 0 [a, b]) = true) : opRes (.mk 5 [] 0 [a, b]) s = (opRes a s && opRes b s) ∧ opRes (.mk 6 [] 0 [a, b]) s = (opRes a s || opRes b s) := by
  obtain ⟨h1, h2⟩ := Lk.right_of_pair h
  have h6 := h
  rw [Lk.right_pair] at h6
  unfold opRes
  rw [h, h6, h1, h2, Lk.opn, Lk.opn, if_neg (by decide), if_neg (by decide), if_neg (by decide), if_neg (by decide), if_pos rfl, if_neg (by decide), if_neg (by decide), if_neg (by decide), if_neg (by decide), if_neg (by decide), Lk.opnAll, Lk.opnAll, Lk.opnAll, Lk.opnAny, Lk.opnAny, Lk.opnAny]
  generalize decide (s.sigs.length ≤ 16) = x
  generalize decide (s.pres.length ≤ 16) = y
  generalize Lk.opn verifyRes s a = p
  generalize Lk.opn verifyRes s b = q
  cases x <;> cases y <;> cases p <;> cases q <;> exact ⟨rfl, rfl⟩
theorem op_more {l : Lt} {sg pr : List Bs} {msg m : Bs} {af ag lt : Int} (hl : 0 ≤ lt) (h : opRes l ⟨sg, pr, msg, af, ag⟩ = true) (h1 : sg.length + 1 ≤ 16) (h2 : pr.length + 1 ≤ 16) : opRes l ⟨sg ++ [m], pr ++ [m], msg, af + lt, ag + lt⟩ = true := by
  unfold opRes at h ⊢
  simp only [Bool.and_eq_true, decide_eq_true_iff] at h ⊢
  refine ⟨⟨⟨h.1.1.1, by simpa using h1⟩, by simpa using h2⟩, Lk.opn_more (s := ⟨sg, pr, msg, af, ag⟩) (s' := ⟨sg ++ [m], pr ++ [m], msg, af + lt, ag + lt⟩) (fun x hx => by simp [show x ∈ sg from hx]) (fun x hx => by simp [show x ∈ pr from hx]) rfl (by show af ≤ af + lt; omega) (by show ag ≤ ag + lt; omega) l h.2⟩
end Go.Proofs.YtkdgmaolepkbdaaDoor

/- The document's makers of locks. -/
namespace Go.Proofs.YtkdgmaolepkbdaaDoor
open Go.RowKit
open Lk (Lt)

theorem rsig_any (t : Bs) (w : World) : Calls Tryd.prog 16 #[St t] w fun e w' => e = .returned (.agg #[.int .u8 1, St t, .int .i64 0, .slice none 0 0]) ∧ Below w.heap.size w w' := by
  go_enter Tryd.func16, Tryd.ntmps16
  go_wp2_with fail
  refine bodyPost_ret (v := .agg #[.int .u8 1, St t, .int .i64 0, .slice none 0 0]) (ret_lock Tryd.results16 rfl (heap_alloc_new w _)) rfl ⟨rfl, below_al _ _⟩
theorem rpre_any (t : Bs) (w : World) : Calls Tryd.prog 18 #[St t] w fun e w' => e = .returned (.agg #[.int .u8 2, St t, .int .i64 0, .slice none 0 0]) ∧ Below w.heap.size w w' := by
  go_enter Tryd.func18, Tryd.ntmps18
  go_wp2_with fail
  refine bodyPost_ret (v := .agg #[.int .u8 2, St t, .int .i64 0, .slice none 0 0]) (ret_lock Tryd.results18 rfl (heap_alloc_new w _)) rfl ⟨rfl, below_al _ _⟩
theorem rafter_any (n : Int) (w : World) : Calls Tryd.prog 20 #[.int .i64 n] w fun e w' => e = .returned (.agg #[.int .u8 3, St [], .int .i64 n, .slice none 0 0]) ∧ Below w.heap.size w w' := by
  go_enter Tryd.func20, Tryd.ntmps20
  go_wp2_with fail
  refine bodyPost_ret (v := .agg #[.int .u8 3, St [], .int .i64 n, .slice none 0 0]) (ret_lock Tryd.results20 rfl (heap_alloc_new w _)) rfl ⟨rfl, below_al _ _⟩
theorem rolder_any (n : Int) (w : World) : Calls Tryd.prog 22 #[.int .i64 n] w fun e w' => e = .returned (.agg #[.int .u8 4, St [], .int .i64 n, .slice none 0 0]) ∧ Below w.heap.size w w' := by
  go_enter Tryd.func22, Tryd.ntmps22
  go_wp2_with fail
  refine bodyPost_ret (v := .agg #[.int .u8 4, St [], .int .i64 n, .slice none 0 0]) (ret_lock Tryd.results22 rfl (heap_alloc_new w _)) rfl ⟨rfl, below_al _ _⟩
theorem rall_any (a : Option Addr) (n c : Nat) (w : World) : Calls Tryd.prog 23 #[.slice a n c] w fun e w' => e = .returned (.agg #[.int .u8 5, St [], .int .i64 0, .slice a n c]) ∧ Below w.heap.size w w' := by
  go_enter Tryd.func23, Tryd.ntmps23
  go_wp2_with fail
  refine bodyPost_ret (v := .agg #[.int .u8 5, St [], .int .i64 0, .slice a n c]) (ret_lock Tryd.results23 rfl (heap_alloc_new w _)) rfl ⟨rfl, below_al _ _⟩
theorem rany_any (a : Option Addr) (n c : Nat) (w : World) : Calls Tryd.prog 24 #[.slice a n c] w fun e w' => e = .returned (.agg #[.int .u8 6, St [], .int .i64 0, .slice a n c]) ∧ Below w.heap.size w w' := by
  go_enter Tryd.func24, Tryd.ntmps24
  go_wp2_with fail
  refine bodyPost_ret (v := .agg #[.int .u8 6, St [], .int .i64 0, .slice a n c]) (ret_lock Tryd.results24 rfl (heap_alloc_new w _)) rfl ⟨rfl, below_al _ _⟩
end Go.Proofs.YtkdgmaolepkbdaaDoor

/- A row of locks copied by append: the parts stay shared. -/
namespace Go.Proofs.YtkdgmaolepkbdaaDoor
open Go.RowKit
open Lk (Lt)

theorem rcs_inv : ∀ (l : List (Lt × Value)) (j : Nat) (u : Value), (rcs l)[j]? = some u → ∃ i r, ∃ hi : i < l.length, r < 4 ∧ j = i * 4 + r ∧ (lcs l[i].1 l[i].2)[r]? = some u
  | [], j, u, h => by simp [rcs] at h
  | q :: l, j, u, h => by
    have ih := rcs_inv l
    unfold rcs at h ih
    rw [List.flatMap_cons] at h
    by_cases hj : j < 4
    · rw [List.getElem?_append_left (by show j < 4; exact hj), Array.getElem?_toList] at h
      exact ⟨0, j, by simp, hj, by omega, h⟩
    · rw [List.getElem?_append_right (by show 4 ≤ j; omega)] at h
      have e : j - (lcs q.1 q.2).toList.length = j - 4 := rfl
      rw [e] at h
      obtain ⟨i, r, hi, hr, hjr, hu⟩ := ih (j - 4) u h
      exact ⟨i + 1, r, by simpa using hi, hr, by omega, hu⟩
theorem lcs_one {l : Lt} {kv : Value} (hk : kv.oneCell' = true) : ∀ u ∈ (lcs l kv).toList, u.oneCell' = true := fun u hu => by
  have hu2 : u = .int .u8 (l.kind : Int) ∨ u = St l.term ∨ u = .int .i64 l.n ∨ u = kv := by simpa [lcs] using hu
  rcases hu2 with rfl | rfl | rfl | rfl
  · rfl
  · rfl
  · rfl
  · exact hk
/-- a row that lies there, as a row of one's own -/
structure Kc (W w' : World) (d : Nat) (a' : Option Addr) (n c' g : Nat) (ks : List Lt) : Prop where
  bel : Below W.heap.size W w'
  kd : Kd (fun _ => True) w' d (.slice a' n c') ks
  row : 0 < n → a' = some ⟨g, 0, none⟩ ∧ W.heap.size ≤ g ∧ ∃ cs : Array Value, w'.heap[g]? = some (.cells cs 25 (0, 0)) ∧ n * 4 ≤ cs.size
theorem kids_copy {b : Nat → Prop} {W : World} {d c n : Nat} {aa : Option Addr} {ks : List Lt} (hn : n = ks.length) (hk : Kd b W d (.slice aa n c) ks) (hl : n ≤ 100000) :
    ∃ a' c' g w', (∀ ty, (Builtin.append_ #[23, 23] ty #[.slice none 0 0, .slice aa n c]).run Tryd.prog W = .ok (.slice a' n c') w') ∧ Kc W w' d a' n c' g ks := by
  subst hn
  obtain ⟨i0, hi, hz0, hz1, hz2⟩ := info_parts lk_info25
  by_cases h0 : ks = []
  · subst h0
    refine ⟨none, 0, 0, W, fun ty => ?_, Below.refl _ _, Kd.nil _ _ _, fun h => absurd h (by simp)⟩
    cases aa <;> simp [Builtin.append_, Builtin.firstCells, run_underlying Tryd.underlying23, sizeOf, typeInfo, hi, Builtin.lenOf, go_sem]
  · have hpos := List.length_pos_iff.2 h0
    obtain ⟨_, ao, cap, hv, hkr⟩ := hk.parts
    cases hv
    obtain ⟨g, o, rfl, hbg, hc⟩ := hkr hpos
    have each : ∀ i : Nat, ∃ kv : Value, ∀ hi : i < ks.length, (∀ j u, (lcs ks[i] kv)[j]? = some u → W.cell? ⟨g, o + i * 4 + j, none⟩ = some u) ∧ Lr ks[i] ∧ ∃ d', d' < d ∧ Kd b W d' kv ks[i].kids := by
      intro i
      by_cases hi : i < ks.length
      · obtain ⟨kv, h⟩ := hc i hi
        exact ⟨kv, fun _ => h⟩
      · exact ⟨.slice none 0 0, fun h => absurd h hi⟩
    obtain ⟨f, hf⟩ := Classical.axiomOfChoice each
    obtain ⟨l, hl1, hl2⟩ : ∃ l : List (Lt × Value), ∃ h : l.length = ks.length, ∀ i (hi : i < l.length), l[i] = (ks[i]'(by omega), f i) := ⟨ks.mapIdx fun i x => (x, f i), by simp, fun i hi => by simp⟩
    have hone : ∀ u ∈ rcs l, u.oneCell' = true := fun u hu => by
      obtain ⟨q, hq, hu⟩ := List.mem_flatMap.1 hu
      obtain ⟨i, hi, rfl⟩ := List.getElem_of_mem hq
      rw [hl2 i hi] at hu
      obtain ⟨_, _, d', _, hkd⟩ := hf i (by omega)
      obtain ⟨_, a2, c2, he⟩ := hkd.shape
      exact lcs_one (by rw [he]; rfl) u hu
    obtain ⟨v', w', h1, h2, h3, _, h5⟩ := run_append_own_at (P := Tryd.prog) W W.heap.size 23 23 25 i0 _ 4 56 Tryd.underlying23 hi hz0 hz1 hz2 rfl (by decide) (.slice none 0 0) 0 [] (World.ownsRow_nil _ _ _ _) ⟨g, o, none⟩ ks.length c (rcs l) (by rw [rcs_len, hl1]) (fun j u hu => by
      obtain ⟨i, r, hi, hr, rfl, hu2⟩ := rcs_inv l j u hu
      rw [hl2 i hi] at hu2
      have h9 := (hf i (by omega)).1 r u hu2
      rw [Nat.add_assoc] at h9
      have e9 : (⟨g, o, none⟩ : Addr).add (i * 4 + r) = ⟨g, o + (i * 4 + r), none⟩ := add_plain g o _
      exact (congrArg W.cell? e9).trans h9) hone (by unfold maxLen; omega) (by omega) (Nat.le_refl _)
    rw [Nat.zero_add, List.nil_append] at h2
    have hB : Below W.heap.size W w' := ⟨h3.os, h3.tape, h3.output, h3.size, fun k hk => h3.block k hk (by simp [Value.ownBlock])⟩
    rcases h2.2 with ⟨_, e⟩ | ⟨g', cap', cur, rfl, e2, e3, e4, _, e6, e7⟩
    · omega
    · refine ⟨some ⟨g', 0, none⟩, cap', g', w', fun ty => h1, hB, ?_, fun _ => ⟨rfl, e2, cur, e3, by rw [e6]; exact Nat.mul_le_mul_right 4 e4⟩⟩
      obtain ⟨d1, rfl⟩ : ∃ d1, d = d1 + 1 := by
        obtain ⟨_, _, d', hd', _⟩ := hf 0 hpos
        exact ⟨d - 1, by omega⟩
      refine ⟨by omega, some ⟨g', 0, none⟩, cap', rfl, fun _ => ⟨g', 0, rfl, trivial, fun i hi => ⟨f i, fun j u hu => ?_, (hf i hi).2.1, ?_⟩⟩⟩
      · have h8 := rcs_at l i (by omega) j u (by rw [hl2 i (by omega)]; exact hu)
        have hj : i * 4 + j < ks.length * 4 := by
          have := (List.getElem?_eq_some_iff.1 h8).1
          rw [rcs_len, hl1] at this
          exact this
        rw [cell_of_heap e3, Nat.zero_add, ← Array.getElem?_toList, ← h8, ← e7, List.getElem?_take, if_pos hj]
      · obtain ⟨d', hd', hkd⟩ := (hf i hi).2.2
        exact ((hkd.base (fun _ _ => trivial)).low hB).more (by omega)
end Go.Proofs.YtkdgmaolepkbdaaDoor
