/- Read: its answer is in memory of its own. -/
import Derived.Test.YtojnembakhhgiaaGreatPagAll
namespace Go.Proofs.YtojnembakhhgiaaGreat
open Go.RowKit

/-- bytes in a block of their own, at or above a mark -/
def Bw (lo : Nat) (w : World) (v : Value) (b : Bs) : Prop := (v = .slice none 0 0 ∧ b = []) ∨ ∃ g ty, v = .slice (some ⟨g, 0, none⟩) b.length b.length ∧ w.heap[g]? = some (.cells (bcs b).toArray ty (0, 0)) ∧ lo ≤ g
theorem Bw.br {lo : Nat} {w : World} {v : Value} {b : Bs} (h : Bw lo w v b) : Br w v b := by
  rcases h with ⟨h1, h2⟩ | ⟨g, ty, h1, h2, _⟩
  · exact .inl ⟨h1, h2⟩
  · refine .inr ⟨g, h1, fun j u hu => ?_⟩
    rw [cell_of_heap h2, Nat.zero_add, List.getElem?_toArray]
    exact hu

set_option maxRecDepth 100000 in
set_option maxHeartbeats 4000000 in
theorem read_own (w : World) (d : Nat) (s : Ds) (mb : Option Nat) (ms : List Fm) (h : Dv w d s mb ms) (t : Bs) (htl : t.length ≤ 140737488355328) (n : Int) (hn : -9223372036854775808 ≤ n ∧ n < 9223372036854775808) :
    Calls Tryz.prog 21 #[.pointer (some ⟨d, 0, none⟩), St t, .int .i64 n] w fun e w' => (∃ v, e = .returned (.tuple #[v, .int .i64 ((readDk s t n).2 : Int)]) ∧ Bw w.heap.size w' v (readDk s t n).1) ∧ Below w.heap.size w w' := by
  have HFI := hid (find_any w d s mb ms h t htl)
  obtain ⟨R, hR⟩ : ∃ R, R = readDk s t n := ⟨_, rfl⟩
  rw [← hR]
  have HR := hid hR
  clear hR
  cases ho : s.off with
  | true =>
    rw [ho] at HFI
    have HRE : Hid (R = ([], 7)) := hid (by rw [HR.out]; unfold readDk; rw [if_pos ho])
    clear h
    go_enter Tryz.func21, Tryz.ntmps21
    go_wp2_with fail
    refine HFI.out.mono ?_
    rintro e w1 ⟨rfl, hw⟩
    subst hw
    go_wp2_with fail
    go_ret2
    rw [HRE.out]
    exact ⟨⟨_, rfl, .inl ⟨rfl, rfl⟩⟩, Below.refl _ _⟩
  | false =>
    rw [ho] at HFI
    have hR1 : R = match findF s t with
      | none => ([], 91)
      | some f => if n < 0 ∨ ((pagesOf s f).length : Int) ≤ n then ([], 92) else ((pagesOf s f).getD n.toNat [], 0) := by
      rw [HR.out]
      unfold readDk
      rw [if_neg (by rw [ho]; decide)]
      cases findF s t <;> rfl
    rcases find_at (s := s) h.len (t := t) with ⟨e1, e2⟩ | ⟨f, m, e0, e1, e2, e3⟩
    · rw [e1] at HFI
      rw [e2] at hR1
      have HRE : Hid (R = ([], 91)) := hid hR1
      clear h hR1 e1 e2
      go_enter Tryz.func21, Tryz.ntmps21
      go_wp2_with fail
      refine HFI.out.mono ?_
      rintro e w1 ⟨rfl, hw⟩
      subst hw
      go_wp2_with fail
      go_ret2
      rw [HRE.out]
      exact ⟨⟨_, rfl, .inl ⟨rfl, rfl⟩⟩, Below.refl _ _⟩
    · rw [e3] at HFI
      rw [e2] at hR1
      have hR1 : R = if n < 0 ∨ ((pagesOf s f).length : Int) ≤ n then ([], 92) else ((pagesOf s f).getD n.toNat [], 0) := hR1
      have hfa := h.filz _ e0
      have hpl := pages_ok h.ok (List.of_mem_zip e0).1
      have hpl2 : ∀ q ∈ pagesOf s f, q.length = 256 := hpl
      generalize hP : pagesOf s f = P at *
      have hpg : w.ownsRow 0 83 256 m.pv P.length (pcs P) := hP ▸ hfa.pg
      obtain ⟨ao, cap, hpv⟩ := row_shape hpg
      have c0 : w.cell? ⟨m.p, 0, none⟩ = some (.slice ao P.length cap) := by rw [← hpv]; exact (cell_of_heap hfa.blk 0).trans rfl
      by_cases hb : n < 0 ∨ (P.length : Int) ≤ n
      · have HRE : Hid (R = ([], 92)) := hid (by rw [hR1, if_pos hb])
        clear h hR1 e0 e1 e2 e3 hfa hpv hpg hpl hpl2 hP
        generalize P.length = l at *
        generalize m.p = p at *
        by_cases h0 : n < 0
        · go_enter Tryz.func21, Tryz.ntmps21
          go_wp2_with fail
          refine HFI.out.mono ?_
          rintro e w1 ⟨rfl, hw⟩
          subst hw
          go_wp2_with fail
          go_ret2
          rw [HRE.out]
          exact ⟨⟨_, rfl, .inl ⟨rfl, rfl⟩⟩, Below.refl _ _⟩
        · have h1 : (l : Int) ≤ n := by omega
          clear hb
          go_enter Tryz.func21, Tryz.ntmps21
          go_wp2_with fail
          refine HFI.out.mono ?_
          rintro e w1 ⟨rfl, hw⟩
          subst hw
          go_wp2_with fail
          go_ret2
          rw [HRE.out]
          exact ⟨⟨_, rfl, .inl ⟨rfl, rfl⟩⟩, Below.refl _ _⟩
      · obtain ⟨k, hk⟩ : ∃ k : Nat, n = (k : Int) := ⟨n.toNat, by omega⟩
        have hkl : k < P.length := by omega
        obtain ⟨g, cap', hv', hra, _, _⟩ := page_at hpg hpl2 k hkl
        have HRE : Hid (R = (P[k], 0)) := hid (by
          rw [hR1, if_neg hb, show n.toNat = k by omega, List.getD_eq_getElem?_getD, List.getElem?_eq_getElem hkl]
          rfl)
        have hP2 : P[k].length = 256 := hpl2 _ (List.getElem_mem hkl)
        have hpv2 : ao = some ⟨g, 0, none⟩ ∧ cap = cap' := by rw [hpv] at hv'; cases hv'; exact ⟨rfl, rfl⟩
        obtain ⟨rfl, rfl⟩ := hpv2
        have hk0 : (0 : Int) ≤ n := by omega
        have hk1 : n < (P.length : Int) := by omega
        obtain ⟨cs, hcs⟩ : ∃ cs, cs = bcs P[k] := ⟨_, rfl⟩
        rw [← hcs] at hra
        have hcl : cs.length = 256 := by rw [hcs, bcs_len, hP2]
        have hu := Tryz.underlying83
        have hi : (Tryz.prog.info? 83).map (·.size) = some cs.length := by rw [size78, hcl]
        obtain ⟨wn, hstc, hwn, hbn⟩ := new_page w cs hcl (by rw [hcs]; exact bcs_one _)
        have HB := hid hbn
        have HW := hid hwn
        clear hbn hwn
        have HCS := hid hcs
        have HP2 := hid hP2
        clear hR1
        clear h HR e0 e1 e2 e3 hfa hpv hv' hpg hpl hpl2 hP hb hcs hP2
        generalize P[k] = pg at *
        generalize P.length = l at *
        generalize m.p = p at *
        subst hk
        go_enter Tryz.func21, Tryz.ntmps21
        go_wp2_with fail
        refine HFI.out.mono ?_
        rintro e w1 ⟨rfl, hw⟩
        subst hw
        go_wp2_with fail
        refine wp_load_mid 83 (.tmp 38) rfl g (k * 256) rfl cs _ hra hu rfl hi ?_
        go_wp2_with fail
        go_ret2
        rw [HRE.out]
        refine ⟨⟨_, rfl, .inr ⟨w1.heap.size, 83, ?_, ?_, Nat.le_refl _⟩⟩, HB.out⟩
        · show Value.slice (some ⟨w1.heap.size, 0, none⟩) 256 256 = Value.slice (some ⟨w1.heap.size, 0, none⟩) pg.length pg.length
          rw [HP2.out]
        · rw [HW.out, HCS.out]
end Go.Proofs.YtojnembakhhgiaaGreat
