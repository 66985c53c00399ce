import Derived.Test.YtdllpklecdmghaaGreatDoorLkEAll
import Derived.Test.YtdllpklecdmghaaGreatDoorLkVAll
/- The document's makers of locks. -/
namespace Go.Proofs.YtdllpklecdmghaaGreatDoor
open Go.RowKit
open Lk (Lt)
theorem rsig_any (t : Bs) (w : World) : Calls Tryz.prog 50 #[St t] w fun e w' => e = .returned (.agg #[.int .u8 1, St t, .int .i64 0, .slice none 0 0]) ∧ Below w.heap.size w w' := by
  go_enter Tryz.func50, Tryz.ntmps50
  go_wp2_with fail
  refine bodyPost_ret (v := .agg #[.int .u8 1, St t, .int .i64 0, .slice none 0 0]) (ret_lock Tryz.results50 rfl (heap_alloc_new w _)) rfl ⟨rfl, below_al _ _⟩
theorem rpre_any (t : Bs) (w : World) : Calls Tryz.prog 51 #[St t] w fun e w' => e = .returned (.agg #[.int .u8 2, St t, .int .i64 0, .slice none 0 0]) ∧ Below w.heap.size w w' := by
  go_enter Tryz.func51, Tryz.ntmps51
  go_wp2_with fail
  refine bodyPost_ret (v := .agg #[.int .u8 2, St t, .int .i64 0, .slice none 0 0]) (ret_lock Tryz.results51 rfl (heap_alloc_new w _)) rfl ⟨rfl, below_al _ _⟩
theorem rafter_any (n : Int) (w : World) : Calls Tryz.prog 52 #[.int .i64 n] w fun e w' => e = .returned (.agg #[.int .u8 3, St [], .int .i64 n, .slice none 0 0]) ∧ Below w.heap.size w w' := by
  go_enter Tryz.func52, Tryz.ntmps52
  go_wp2_with fail
  refine bodyPost_ret (v := .agg #[.int .u8 3, St [], .int .i64 n, .slice none 0 0]) (ret_lock Tryz.results52 rfl (heap_alloc_new w _)) rfl ⟨rfl, below_al _ _⟩
theorem rolder_any (n : Int) (w : World) : Calls Tryz.prog 53 #[.int .i64 n] w fun e w' => e = .returned (.agg #[.int .u8 4, St [], .int .i64 n, .slice none 0 0]) ∧ Below w.heap.size w w' := by
  go_enter Tryz.func53, Tryz.ntmps53
  go_wp2_with fail
  refine bodyPost_ret (v := .agg #[.int .u8 4, St [], .int .i64 n, .slice none 0 0]) (ret_lock Tryz.results53 rfl (heap_alloc_new w _)) rfl ⟨rfl, below_al _ _⟩
theorem rall_any (a : Option Addr) (n c : Nat) (w : World) : Calls Tryz.prog 54 #[.slice a n c] w fun e w' => e = .returned (.agg #[.int .u8 5, St [], .int .i64 0, .slice a n c]) ∧ Below w.heap.size w w' := by
  go_enter Tryz.func54, Tryz.ntmps54
  go_wp2_with fail
  refine bodyPost_ret (v := .agg #[.int .u8 5, St [], .int .i64 0, .slice a n c]) (ret_lock Tryz.results54 rfl (heap_alloc_new w _)) rfl ⟨rfl, below_al _ _⟩
theorem rany_any (a : Option Addr) (n c : Nat) (w : World) : Calls Tryz.prog 55 #[.slice a n c] w fun e w' => e = .returned (.agg #[.int .u8 6, St [], .int .i64 0, .slice a n c]) ∧ Below w.heap.size w w' := by
  go_enter Tryz.func55, Tryz.ntmps55
  go_wp2_with fail
  refine bodyPost_ret (v := .agg #[.int .u8 6, St [], .int .i64 0, .slice a n c]) (ret_lock Tryz.results55 rfl (heap_alloc_new w _)) rfl ⟨rfl, below_al _ _⟩
end Go.Proofs.YtdllpklecdmghaaGreatDoor
/- A row of locks copied by append: the parts stay shared. -/
namespace Go.Proofs.YtdllpklecdmghaaGreatDoor
open Go.RowKit
open Lk (Lt)
theorem rcs_inv : ∀ (l : List (Lt × Value)) (j : Nat) (u : Value), (rcs l)[j]? = some u → ∃ i r, ∃ hi : i < l.length, r < 4 ∧ j = i * 4 + r ∧ (lcs l[i].1 l[i].2)[r]? = some u
  | [], j, u, h => by simp [rcs] at h
  | q :: l, j, u, h => by
    have ih := rcs_inv l
    unfold rcs at h ih
    rw [List.flatMap_cons] at h
    by_cases hj : j < 4
    · rw [List.getElem?_append_left (by show j < 4; exact hj), Array.getElem?_toList] at h
      exact ⟨0, j, by simp, hj, by omega, h⟩
    · rw [List.getElem?_append_right (by show 4 ≤ j; omega)] at h
      have e : j - (lcs q.1 q.2).toList.length = j - 4 := rfl
      rw [e] at h
      obtain ⟨i, r, hi, hr, hjr, hu⟩ := ih (j - 4) u h
      exact ⟨i + 1, r, by simpa using hi, hr, by omega, hu⟩
theorem lcs_one {l : Lt} {kv : Value} (hk : kv.oneCell' = true) : ∀ u ∈ (lcs l kv).toList, u.oneCell' = true := fun u hu => by
  have hu2 : u = .int .u8 (l.kind : Int) ∨ u = St l.term ∨ u = .int .i64 l.n ∨ u = kv := by simpa [lcs] using hu
  rcases hu2 with rfl | rfl | rfl | rfl
  · rfl
  · rfl
  · rfl
  · exact hk
structure Kc (W w' : World) (d : Nat) (a' : Option Addr) (n c' g : Nat) (ks : List Lt) : Prop where
  bel : Below W.heap.size W w'
  kd : Kd (fun _ => True) w' d (.slice a' n c') ks
  row : 0 < n → a' = some ⟨g, 0, none⟩ ∧ W.heap.size ≤ g ∧ ∃ cs : Array Value, w'.heap[g]? = some (.cells cs 25 (0, 0)) ∧ n * 4 ≤ cs.size
theorem kids_copy {b : Nat → Prop} {W : World} {d c n : Nat} {aa : Option Addr} {ks : List Lt} (hn : n = ks.length) (hk : Kd b W d (.slice aa n c) ks) (hl : n ≤ 100000) :
    ∃ a' c' g w', (∀ ty, (Builtin.append_ #[23, 23] ty #[.slice none 0 0, .slice aa n c]).run Tryz.prog W = .ok (.slice a' n c') w') ∧ Kc W w' d a' n c' g ks := by
  subst hn
  obtain ⟨i0, hi, hz0, hz1, hz2⟩ := info_parts lk_info25
  by_cases h0 : ks = []
  · subst h0
    refine ⟨none, 0, 0, W, fun ty => ?_, Below.refl _ _, Kd.nil _ _ _, fun h => absurd h (by simp)⟩
    cases aa <;> simp [Builtin.append_, Builtin.firstCells, run_underlying Tryz.underlying23, sizeOf, typeInfo, hi, Builtin.lenOf, go_sem]
  · have hpos := List.length_pos_iff.2 h0
    obtain ⟨_, ao, cap, hv, hkr⟩ := hk.parts
    cases hv
    obtain ⟨g, o, rfl, hbg, hc⟩ := hkr hpos
    have each : ∀ i : Nat, ∃ kv : Value, ∀ hi : i < ks.length, (∀ j u, (lcs ks[i] kv)[j]? = some u → W.cell? ⟨g, o + i * 4 + j, none⟩ = some u) ∧ Lr ks[i] ∧ ∃ d', d' < d ∧ Kd b W d' kv ks[i].kids := by
      intro i
      by_cases hi : i < ks.length
      · obtain ⟨kv, h⟩ := hc i hi
        exact ⟨kv, fun _ => h⟩
      · exact ⟨.slice none 0 0, fun h => absurd h hi⟩
    obtain ⟨f, hf⟩ := Classical.axiomOfChoice each
    obtain ⟨l, hl1, hl2⟩ : ∃ l : List (Lt × Value), ∃ h : l.length = ks.length, ∀ i (hi : i < l.length), l[i] = (ks[i]'(by omega), f i) := ⟨ks.mapIdx fun i x => (x, f i), by simp, fun i hi => by simp⟩
    have hone : ∀ u ∈ rcs l, u.oneCell' = true := fun u hu => by
      obtain ⟨q, hq, hu⟩ := List.mem_flatMap.1 hu
      obtain ⟨i, hi, rfl⟩ := List.getElem_of_mem hq
      rw [hl2 i hi] at hu
      obtain ⟨_, _, d', _, hkd⟩ := hf i (by omega)
      obtain ⟨_, a2, c2, he⟩ := hkd.shape
      exact lcs_one (by rw [he]; rfl) u hu
    obtain ⟨v', w', h1, h2, h3, _, h5⟩ := run_append_own_at (P := Tryz.prog) W W.heap.size 23 23 25 i0 _ 4 56 Tryz.underlying23 hi hz0 hz1 hz2 rfl (by decide) (.slice none 0 0) 0 [] (World.ownsRow_nil _ _ _ _) ⟨g, o, none⟩ ks.length c (rcs l) (by rw [rcs_len, hl1]) (fun j u hu => by
      obtain ⟨i, r, hi, hr, rfl, hu2⟩ := rcs_inv l j u hu
      rw [hl2 i hi] at hu2
      have h9 := (hf i (by omega)).1 r u hu2
      rw [Nat.add_assoc] at h9
      have e9 : (⟨g, o, none⟩ : Addr).add (i * 4 + r) = ⟨g, o + (i * 4 + r), none⟩ := add_plain g o _
      exact (congrArg W.cell? e9).trans h9) hone (by unfold maxLen; omega) (by omega) (Nat.le_refl _)
    rw [Nat.zero_add, List.nil_append] at h2
    have hB : Below W.heap.size W w' := ⟨h3.os, h3.tape, h3.output, h3.size, fun k hk => h3.block k hk (by simp [Value.ownBlock])⟩
    rcases h2.2 with ⟨_, e⟩ | ⟨g', cap', cur, rfl, e2, e3, e4, _, e6, e7⟩
    · omega
    · refine ⟨some ⟨g', 0, none⟩, cap', g', w', fun ty => h1, hB, ?_, fun _ => ⟨rfl, e2, cur, e3, by rw [e6]; exact Nat.mul_le_mul_right 4 e4⟩⟩
      obtain ⟨d1, rfl⟩ : ∃ d1, d = d1 + 1 := by
        obtain ⟨_, _, d', hd', _⟩ := hf 0 hpos
        exact ⟨d - 1, by omega⟩
      refine ⟨by omega, some ⟨g', 0, none⟩, cap', rfl, fun _ => ⟨g', 0, rfl, trivial, fun i hi => ⟨f i, fun j u hu => ?_, (hf i hi).2.1, ?_⟩⟩⟩
      · have h8 := rcs_at l i (by omega) j u (by rw [hl2 i (by omega)]; exact hu)
        have hj : i * 4 + j < ks.length * 4 := by
          have := (List.getElem?_eq_some_iff.1 h8).1
          rw [rcs_len, hl1] at this
          exact this
        rw [cell_of_heap e3, Nat.zero_add, ← Array.getElem?_toList, ← h8, ← e7, List.getElem?_take, if_pos hj]
      · obtain ⟨d', hd', hkd⟩ := (hf i hi).2.2
        exact ((hkd.base (fun _ _ => trivial)).low hB).more (by omega)
end Go.Proofs.YtdllpklecdmghaaGreatDoor
