/- Rows of calls that are made. -/
import Derived.Test.YtmdiggbbgcjcnaaDoorSdV
import Derived.Test.YtmdiggbbgcjcnaaDoorSdL
namespace Go.Proofs.YtmdiggbbgcjcnaaDoor
open Go.RowKit

/-- a row of calls as cells -/
def flat : List Sx → List Value
  | [] => []
  | x :: r => .int .i64 x.kind :: .int .i64 x.at' :: St x.t :: flat r
theorem flat_len : ∀ L : List Sx, (flat L).length = L.length * 3
  | [] => rfl
  | x :: r => by simp [flat, flat_len r]; omega
theorem flat_app : ∀ L M : List Sx, flat (L ++ M) = flat L ++ flat M
  | [], _ => rfl
  | x :: r, M => by simp [flat, flat_app r M]
theorem flat_one : ∀ L : List Sx, ∀ u ∈ flat L, u.oneCell' = true
  | [], _, h => by cases h
  | x :: r, u, h => by
    simp only [flat, List.mem_cons] at h
    rcases h with rfl | rfl | rfl | h
    · rfl
    · rfl
    · rfl
    · exact flat_one r u h
theorem flat_get : ∀ (L : List Sx) (i : Nat) (h : i < L.length) (j : Nat) (u : Value), (sxc L[i])[j]? = some u → (flat L)[i * 3 + j]? = some u
  | x :: r, 0, _, j, u, hu => by
    have hj : j < 3 := by have := (Array.getElem?_eq_some_iff.1 hu).1; exact this
    match j, hj with
    | 0, _ => simpa [flat, sxc] using hu
    | 1, _ => simpa [flat, sxc] using hu
    | 2, _ => simpa [flat, sxc] using hu
  | x :: r, i + 1, h, j, u, hu => by
    have := flat_get r i (by simpa using h) j u (by simpa using hu)
    rw [show (i + 1) * 3 + j = (i * 3 + j) + 3 from by omega]
    simpa [flat] using this

theorem scr_new {w : World} {g : Nat} {L : List Sx} {c : Nat} {e : TypeId} {fr : Nat × Nat} (h : w.heap[g]? = some (.cells (flat L).toArray e fr)) : Scr w (.slice (some ⟨g, 0, none⟩) L.length c) L :=
  ⟨_, _, rfl, fun _ => ⟨g, 0, rfl, lt_of_block h, fun i hi j u hu => by
    have := flat_get L i hi j u hu
    rw [Nat.zero_add]
    simp [World.cell?, h, this]⟩⟩
theorem scr_own {w : World} {B : Nat} {v : Value} {L : List Sx} (h : w.ownsRow B 36 3 v L.length (flat L)) : Scr w v L := by
  rcases h.2 with ⟨h1, h0⟩ | ⟨k, cap, cur, hv, hb, hg, hc1, hc2, hc3, hc4⟩
  · subst h1
    exact ⟨none, 0, by rw [h0], fun hp => by omega⟩
  · refine ⟨_, _, hv, fun hp => ⟨k, 0, rfl, lt_of_block hg, fun i hi j u hu => ?_⟩⟩
    have h1 := flat_get L i hi j u hu
    rw [← hc4, List.getElem?_take_of_lt (by have hj : j < 3 := (Array.getElem?_eq_some_iff.1 hu).1; omega), Array.getElem?_toList] at h1
    rw [Nat.zero_add, cell_of_heap hg]
    exact h1
theorem Scr.below {w w' : World} {v : Value} {L : List Sx} (h : Scr w v L) (hb : Below w.heap.size w w') : Scr w' v L := by
  obtain ⟨a, c, e, h1⟩ := h
  refine ⟨a, c, e, fun hp => ?_⟩
  obtain ⟨g, o, e2, hg, h2⟩ := h1 hp
  exact ⟨g, o, e2, Nat.lt_of_lt_of_le hg hb.size, fun i hi j u hu => (hb.cell (p := ⟨g, o + i * 3 + j, none⟩) hg).trans (h2 i hi j u hu)⟩
theorem Scr.cut {w : World} {g o n c : Nat} {L : List Sx} (h : Scr w (.slice (some ⟨g, o, none⟩) n c) L) (k m : Nat) (hk : k + m ≤ n) (hm : 0 < m) (c' : Nat) : Scr w (.slice (some ⟨g, o + k * 3, none⟩) m c') ((L.drop k).take m) ∧ ((L.drop k).take m).length = m := by
  obtain ⟨a, c1, e, h1⟩ := h
  have hn : n = L.length := by injection e
  have ha : a = some ⟨g, o, none⟩ := by injection e with q; exact q.symm
  obtain ⟨g2, o2, e2, hg, h2⟩ := h1 (by omega)
  have hl : ((L.drop k).take m).length = m := by rw [List.length_take, List.length_drop]; omega
  rw [ha] at e2
  obtain ⟨rfl, rfl⟩ : g = g2 ∧ o = o2 := by injection e2 with q; injection q with q1 q2; exact ⟨q1, q2⟩
  refine ⟨⟨_, c', by rw [hl], fun _ => ⟨g, o + k * 3, rfl, hg, fun i hi j u hu => ?_⟩⟩, hl⟩
  rw [hl] at hi
  have hx : ((L.drop k).take m)[i]'(by rw [hl]; exact hi) = L[k + i]'(by omega) := by simp
  rw [hx] at hu
  have := h2 (k + i) (by omega) j u hu
  rw [show o + (k + i) * 3 + j = o + k * 3 + i * 3 + j from by omega] at this
  exact this

theorem Tryd.info36 : (Tryd.prog.info? 36).map (fun i => (i.zero, i.size, i.bytes)) = some (some (.agg #[.int .i64 0, .int .i64 0, .string ⟨#[]⟩]), 3, 32) := by kernel_rfl
/-- some calls more -/
theorem app_steps {W : World} {base : Nat} {v : Value} {L : List Sx} (hown : W.ownsRow base 36 3 v L.length (flat L)) (M : List Sx) (m : Nat) (hM : m = M.length) (hn : L.length + m ≤ 1000000) (hbase : base ≤ W.heap.size) :
    ∃ ao cap w', (∀ ty, (Builtin.append_ #[28, 28] ty #[v, .slice (some ⟨W.heap.size, 0, none⟩) m m]).run Tryd.prog (W.alloc (.cells (flat M).toArray 36)) = .ok (.slice ao (L.length + m) cap) w') ∧ w'.ownsRow base 36 3 (.slice ao (L.length + m) cap) (L ++ M).length (flat (L ++ M)) ∧ W.grownBy w' v.ownBlock := by
  subst hM
  obtain ⟨i0, hi, hz0, hz1, hz2⟩ := info_parts Tryd.info36
  obtain ⟨v', w', h4, h5, h6, _⟩ := run_append_own (P := Tryd.prog) (W.alloc (.cells (flat M).toArray 36)) base 28 28 36 i0 _ 3 32 Tryd.underlying28 hi hz0 hz1 hz2 rfl (by decide) v L.length (flat L) (hown.alloc _) ⟨W.heap.size, 0, none⟩ M.length M.length (flat M) (flat_len M)
    (fun j u hj => by
      have : (W.alloc (.cells (flat M).toArray 36)).cell? ⟨W.heap.size, j, none⟩ = some u := by
        rw [cell_of_heap (heap_alloc_new W _)]
        simpa using hj
      rw [add_plain, Nat.zero_add]
      exact this) (flat_one M) (by unfold maxLen; omega) (by omega) (by simp; omega)
  obtain ⟨ao, cap, rfl⟩ := row_shape h5
  refine ⟨ao, cap, w', fun ty => h4, by rw [flat_app, List.length_append]; exact h5, ⟨h6.os, h6.tape, h6.output, ?_, fun k hk hne => ?_⟩⟩
  · have := h6.size; simp at this; omega
  · rw [h6.block k (by simp; omega) hne]; exact Below.heap_alloc W _ k hk
end Go.Proofs.YtmdiggbbgcjcnaaDoor
