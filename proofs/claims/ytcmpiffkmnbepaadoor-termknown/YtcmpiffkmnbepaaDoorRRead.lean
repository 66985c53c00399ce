/- What the document's reading of a term does. -/
import Derived.Test.YtcmpiffkmnbepaaDoorRFit
import Derived.Test.YtcmpiffkmnbepaaDoorOpen
namespace Go.Proofs.YtcmpiffkmnbepaaDoor
open Go.RowKit

/-- the places of the parts -/
def Cuts (s : ByteArray) (ps : List Nat) (ks : List Bs) : Prop :=
  ps.length = ks.length + 1 ∧ (∀ i, i < ks.length → ps.getD i 0 < ps.getD (i + 1) 0 ∧ ks.getD i [] = (rest s (ps.getD i 0)).take (ps.getD (i + 1) 0 - ps.getD i 0)) ∧ (∀ i, i < ps.length → ps.getD i 0 ≤ s.size)

abbrev ints (ps : List Nat) : List Value := ps.map (fun p : Nat => Value.int .i64 (p : Int))

theorem own_ints {w : World} {base : Nat} {kids : Value} {ps : List Nat} (h : w.ownsRow base 3 1 kids ps.length (ints ps)) (hp : ps ≠ []) :
    ∃ g kc, kids = .slice (some ⟨g, 0, none⟩) ps.length kc ∧ g < w.heap.size ∧ ∀ i, i < ps.length → w.cell? ⟨g, i, none⟩ = some (.int .i64 ((ps.getD i 0 : Nat) : Int)) := by
  rcases h.2 with ⟨h1, h0⟩ | ⟨g, cap, cur, hv, hb, hg, hc1, hc2, hc3, hc4⟩
  · exact absurd (List.eq_nil_of_length_eq_zero h0) hp
  · have hgs : g < w.heap.size := by
      apply Classical.byContradiction
      intro hn
      rw [Array.getElem?_eq_none (by omega)] at hg
      cases hg
    refine ⟨g, cap, hv, hgs, fun i hi => ?_⟩
    have e : (cur.toList.take (ps.length * 1))[i]? = some (.int .i64 ((ps.getD i 0 : Nat) : Int)) := by rw [hc4]; simp [hi]
    rw [Nat.mul_one, List.getElem?_take_of_lt hi, Array.getElem?_toList] at e
    rw [cell_of_heap hg]
    exact e

theorem cut_head {s : ByteArray} {p q : Nat} (h : p < q) (hq : q ≤ s.size) : ((rest s p).take (q - p)).head? = some (s[p]'(by omega)) := by
  rw [rest_cons (by omega), show q - p = (q - p - 1) + 1 by omega]
  rfl

/-- whether the parts fit, for every op -/
theorem fits_all (s : ByteArray) (a : Nat) (ha : a < s.size) (hs : s.size ≤ 20000) (E D N F : Int) (ps : List Nat) (ks : List Bs) (kv : Value) (base : Nat) (w : World) (hcut : Cuts s ps ks) (hown : w.ownsRow base 3 1 kv ps.length (ints ps))
    (h1 : s[a] = 80 → ks.length = 1) (h2 : s[a] = 88 ∨ s[a] = 87 ∨ s[a] = 76 → ks.length = 2) :
    Calls Tryd.prog 68 #[.string s, .int .i64 (a : Int), cutV E D N F kv] w fun en w' => en = .returned (.bool (Tm.fitB s[a] ks)) ∧ Below w.heap.size w w' := by
  obtain ⟨l1, l2, l3⟩ := hcut
  have hne : ps ≠ [] := by intro e; rw [e] at l1; simp at l1
  obtain ⟨g, kc, rfl, hg, hc⟩ := own_ints hown hne
  by_cases c80 : s[a] = 80
  · have hk := h1 c80
    match ks, hk with
    | [p], _ =>
      have q0 := l2 0 (by simp)
      have z1 := l3 1 (by rw [l1]; simp)
      have hlt : ps.getD 0 0 < s.size := by simp only [Nat.zero_add] at q0; omega
      refine (fits_80 s a ha E D N F g ps.length kc (ps.getD 0 0) w c80 (by rw [l1]; simp) hlt hs hg (hc 0 (by rw [l1]; simp))).mono ?_
      rintro e w' ⟨he, hb⟩
      refine ⟨?_, hb⟩
      rw [he, c80]
      have hp : p.head? = some (s[ps.getD 0 0]'hlt) := by
        have : p = (rest s (ps.getD 0 0)).take (ps.getD 1 0 - ps.getD 0 0) := q0.2
        rw [this]
        exact cut_head q0.1 z1
      show _ = Ending.returned (.bool (!(p.head? == some 86 || p.head? == some 75)))
      rw [hp]
      rfl
  · by_cases c88 : s[a] = 88
    · have hk := h2 (Or.inl c88)
      match ks, hk with
      | [p, q], _ =>
        have q0 := l2 0 (by simp)
        have q1 := l2 1 (by simp)
        have z2 := l3 2 (by rw [l1]; simp)
        refine (fits_88 s a ha E D N F g ps.length kc (ps.getD 0 0) (ps.getD 1 0) (ps.getD 2 0) w c88 (by rw [l1]; simp) (Nat.le_of_lt q0.1) (Nat.le_of_lt q1.1) z2 hs hg (hc 0 (by rw [l1]; simp)) (hc 1 (by rw [l1]; simp)) (hc 2 (by rw [l1]; simp))).mono ?_
        rintro e w' ⟨he, hb⟩
        refine ⟨?_, hb⟩
        rw [he, c88]
        have e0 : p = (rest s (ps.getD 0 0)).take (ps.getD 1 0 - ps.getD 0 0) := q0.2
        have e1 : q = (rest s (ps.getD 1 0)).take (ps.getD 2 0 - ps.getD 1 0) := q1.2
        rw [← e0, ← e1]
        rfl
    · by_cases c87 : s[a] = 87
      · have hk := h2 (Or.inr (Or.inl c87))
        match ks, hk with
        | [p, q], _ =>
          have q0 := l2 0 (by simp)
          have q1 := l2 1 (by simp)
          have z1 := l3 1 (by rw [l1]; simp)
          have z2 := l3 2 (by rw [l1]; simp)
          have hlt0 : ps.getD 0 0 < s.size := by simp only [Nat.zero_add] at q0; omega
          have hlt1 : ps.getD 1 0 < s.size := by have := q1.1; simp only [Nat.reduceAdd] at this; omega
          refine (fits_87 s a ha E D N F g ps.length kc (ps.getD 0 0) (ps.getD 1 0) w c87 (by rw [l1]; simp) hlt0 hlt1 hs hg (hc 0 (by rw [l1]; simp)) (hc 1 (by rw [l1]; simp))).mono ?_
          rintro e w' ⟨he, hb⟩
          refine ⟨?_, hb⟩
          rw [he, c87]
          have hp : p.head? = some (s[ps.getD 0 0]'hlt0) := by
            have : p = (rest s (ps.getD 0 0)).take (ps.getD 1 0 - ps.getD 0 0) := q0.2
            rw [this]; exact cut_head q0.1 z1
          have hq : q.head? = some (s[ps.getD 1 0]'hlt1) := by
            have : q = (rest s (ps.getD 1 0)).take (ps.getD 2 0 - ps.getD 1 0) := q1.2
            rw [this]; exact cut_head q1.1 z2
          show _ = Ending.returned (.bool (Tm.isPk p.head? && Tm.isPk q.head?))
          rw [hp, hq]
      · by_cases c76 : s[a] = 76
        · have hk := h2 (Or.inr (Or.inr c76))
          match ks, hk with
          | [p, q], _ =>
            have q0 := l2 0 (by simp)
            have z1 := l3 1 (by rw [l1]; simp)
            have hlt0 : ps.getD 0 0 < s.size := by simp only [Nat.zero_add] at q0; omega
            refine (fits_76 s a ha E D N F g ps.length kc (ps.getD 0 0) w c76 (by rw [l1]; simp) hlt0 hs hg (hc 0 (by rw [l1]; simp))).mono ?_
            rintro e w' ⟨he, hb⟩
            refine ⟨?_, hb⟩
            rw [he, c76]
            have hp : p.head? = some (s[ps.getD 0 0]'hlt0) := by
              have : p = (rest s (ps.getD 0 0)).take (ps.getD 1 0 - ps.getD 0 0) := q0.2
              rw [this]; exact cut_head q0.1 z1
            show _ = Ending.returned (.bool (Tm.isPk p.head?))
            rw [hp]
        · refine (fits_else s a ha E D N F g ps.length kc w c80 c88 c87 c76 hs).mono ?_
          rintro e w' ⟨he, hb⟩
          refine ⟨?_, hb⟩
          rw [he]
          unfold Tm.fitB
          rw [if_neg c80, if_neg c88, if_neg c87, if_neg c76]

/-- what is told of a term that was read -/
def Told (s : ByteArray) (a n : Nat) (x : Nat × Bs) (N F : Int) (kv : Value) (base : Nat) (w : World) : Prop :=
  ∃ ha : a < s.size,
    (s[a] = 110 ∧ N = Tm.nameN (rest s (a + 1)) ∧ kv = .slice none 0 0) ∨
    (s[a] = 116 ∧ kv = .slice none 0 0 ∧ ∃ f : Nat, F = f ∧ f ≤ s.size - x.2.length ∧ Tm.textX (rest s (a + 1)) = (rest s f).take (s.size - x.2.length - f)) ∨
    (s[a] ≠ 110 ∧ s[a] ≠ 116 ∧ ∃ ps, w.ownsRow base 3 1 kv ps.length (ints ps) ∧ Cuts s ps (Tm.kidsOf n (rest s a)))

/-- what the document's reading does -/
def RC (n : Nat) : Prop := ∀ (s : ByteArray) (a : Nat) (w : World), s.size ≤ 20000 → a ≤ s.size →
  Calls Tryd.prog 53 #[.string s, .int .i64 (a : Int), .int .i64 (n : Int)] w fun en w' => Below w.heap.size w w' ∧
    Ends (Tm.rd n (rest s a)) (fun x => ∃ (N F : Int) (ao : Option Addr) (kn kc : Nat), en = .returned (cutV ((s.size - x.2.length : Nat) : Int) (x.1 : Int) N F (.slice ao kn kc)) ∧ Told s a (n - 1) x N F (.slice ao kn kc) w.heap.size w')
      (∃ D N : Int, en = .returned (cutV (-1) D N 0 (.slice none 0 0)))

theorem below_alloc_self' (w : World) (o : Obj) : Below w.heap.size w (w.alloc o) := (Below.refl _ w).alloc (Nat.le_refl _) o

/-- the zero cut -/
abbrev cutZ : Array Value := #[.int .i64 0, .int .i64 0, .int .u64 0, .int .i64 0, .slice none 0 0]

/-- the result's block, as the walk wants it -/
theorem cutZ_cells {w : World} {b : Nat} (h : w.heap[b]? = some (.cells cutZ 59 (0, 0))) :
    w.cell? ⟨b, 0, none⟩ = some (.int .i64 0) ∧ w.cell? ⟨b, 1, none⟩ = some (.int .i64 0) ∧ w.cell? ⟨b, 2, none⟩ = some (.int .u64 0) ∧ w.cell? ⟨b, 3, none⟩ = some (.int .i64 0) ∧ w.cell? ⟨b, 4, none⟩ = some (.slice none 0 0) ∧ (∀ o, w.frozen? ⟨b, o, none⟩ = false) :=
  ⟨by rw [cell_of_heap h]; rfl, by rw [cell_of_heap h]; rfl, by rw [cell_of_heap h]; rfl, by rw [cell_of_heap h]; rfl, by rw [cell_of_heap h]; rfl, fun o => frozen_of_heap h o⟩

set_option maxHeartbeats 2000000 in
theorem read_none (s : ByteArray) (a n : Nat) (w : World) (h : s.size ≤ a ∨ n = 0) :
    Calls Tryd.prog 53 #[.string s, .int .i64 (a : Int), .int .i64 (n : Int)] w fun en w' => Below w.heap.size w w' ∧ en = .returned (cutV (-1) 0 0 0 (.slice none 0 0)) := by
  have fin : ∀ (w1 : World) (hb : Below (w.alloc (.cells cutZ 59)).heap.size (w.alloc (.cells cutZ 59)) w1), Below w.heap.size w w1 ∧ w1.heap[w.heap.size]? = some (.cells cutZ 59 (0, 0)) := fun w1 hb =>
    ⟨(below_alloc_self' w _).trans (hb.mono (by simp)), by rw [hb.block _ (by simp)]; exact heap_alloc_new w _⟩
  by_cases h1 : s.size ≤ a
  · have h1' : (s.size : Int) ≤ (a : Int) := by omega
    go_enter Tryd.func53, Tryd.ntmps53
    go_wp2_with fail
    refine (rnone_any _).mono ?_
    rintro e w1 ⟨rfl, hb⟩
    obtain ⟨hbl, hh⟩ := fin w1 hb
    obtain ⟨q0, q1, q2, q3, q4, qf⟩ := cutZ_cells hh
    have HB := hid hbl
    clear fin hb hbl hh h
    go_wp2_with fail
    refine bodyPost_ret (v := cutV (-1) 0 0 0 (.slice none 0 0)) (by simp [results, Tryd.results53, go_sem, q0, q1, q2, q3, q4]) rfl ⟨?_, rfl⟩
    exact ((((HB.out.setCell (by simp) _).setCell (by simp) _).setCell (by simp) _).setCell (by simp) _).setCell (by simp) _
  · have h1' : ¬ (s.size : Int) ≤ (a : Int) := by omega
    have hn : ((n : Int) == 0) = true := by
      rcases h with h | h
      · exact absurd h h1
      · simp [h]
    go_enter Tryd.func53, Tryd.ntmps53
    go_wp2_with fail
    refine (rnone_any _).mono ?_
    rintro e w1 ⟨rfl, hb⟩
    obtain ⟨hbl, hh⟩ := fin w1 hb
    obtain ⟨q0, q1, q2, q3, q4, qf⟩ := cutZ_cells hh
    have HB := hid hbl
    clear fin hb hbl hh h
    go_wp2_with fail
    refine bodyPost_ret (v := cutV (-1) 0 0 0 (.slice none 0 0)) (by simp [results, Tryd.results53, go_sem, q0, q1, q2, q3, q4]) rfl ⟨?_, rfl⟩
    exact ((((HB.out.setCell (by simp) _).setCell (by simp) _).setCell (by simp) _).setCell (by simp) _).setCell (by simp) _
end Go.Proofs.YtcmpiffkmnbepaaDoor
