import Derived.Test.YtojnembakhhgiaaGreatPagAll
import Derived.Test.YtojnembakhhgiaaGreatQuo
/- Read: its answer is in memory of its own. -/
namespace Go.Proofs.YtojnembakhhgiaaGreat
open Go.RowKit

/-- bytes in a block of their own, at or above a mark -/
def Bw (lo : Nat) (w : World) (v : Value) (b : Bs) : Prop := (v = .slice none 0 0 ∧ b = []) ∨ ∃ g ty, v = .slice (some ⟨g, 0, none⟩) b.length b.length ∧ w.heap[g]? = some (.cells (bcs b).toArray ty (0, 0)) ∧ lo ≤ g
theorem Bw.br {lo : Nat} {w : World} {v : Value} {b : Bs} (h : Bw lo w v b) : Br w v b := by
  rcases h with ⟨h1, h2⟩ | ⟨g, ty, h1, h2, _⟩
  · exact .inl ⟨h1, h2⟩
  · refine .inr ⟨g, h1, fun j u hu => ?_⟩
    rw [cell_of_heap h2, Nat.zero_add, List.getElem?_toArray]
    exact hu

set_option maxRecDepth 100000 in
set_option maxHeartbeats 4000000 in
theorem read_own (w : World) (d : Nat) (s : Ds) (mb : Option Nat) (ms : List Fm) (h : Dv w d s mb ms) (t : Bs) (htl : t.length ≤ 140737488355328) (n : Int) (hn : -9223372036854775808 ≤ n ∧ n < 9223372036854775808) :
    Calls Tryz.prog 21 #[.pointer (some ⟨d, 0, none⟩), St t, .int .i64 n] w fun e w' => (∃ v, e = .returned (.tuple #[v, .int .i64 ((readDk s t n).2 : Int)]) ∧ Bw w.heap.size w' v (readDk s t n).1) ∧ Below w.heap.size w w' := by
  have HFI := hid (find_any w d s mb ms h t htl)
  obtain ⟨R, hR⟩ : ∃ R, R = readDk s t n := ⟨_, rfl⟩
  rw [← hR]
  have HR := hid hR
  clear hR
  cases ho : s.off with
  | true =>
    rw [ho] at HFI
    have HRE : Hid (R = ([], 7)) := hid (by rw [HR.out]; unfold readDk; rw [if_pos ho])
    clear h
    go_enter Tryz.func21, Tryz.ntmps21
    go_wp2_with fail
    refine HFI.out.mono ?_
    rintro e w1 ⟨rfl, hw⟩
    subst hw
    go_wp2_with fail
    go_ret2
    rw [HRE.out]
    exact ⟨⟨_, rfl, .inl ⟨rfl, rfl⟩⟩, Below.refl _ _⟩
  | false =>
    rw [ho] at HFI
    have hR1 : R = match findF s t with
      | none => ([], 91)
      | some f => if n < 0 ∨ ((pagesOf s f).length : Int) ≤ n then ([], 92) else ((pagesOf s f).getD n.toNat [], 0) := by
      rw [HR.out]
      unfold readDk
      rw [if_neg (by rw [ho]; decide)]
      cases findF s t <;> rfl
    rcases find_at (s := s) h.len (t := t) with ⟨e1, e2⟩ | ⟨f, m, e0, e1, e2, e3⟩
    · rw [e1] at HFI
      rw [e2] at hR1
      have HRE : Hid (R = ([], 91)) := hid hR1
      clear h hR1 e1 e2
      go_enter Tryz.func21, Tryz.ntmps21
      go_wp2_with fail
      refine HFI.out.mono ?_
      rintro e w1 ⟨rfl, hw⟩
      subst hw
      go_wp2_with fail
      go_ret2
      rw [HRE.out]
      exact ⟨⟨_, rfl, .inl ⟨rfl, rfl⟩⟩, Below.refl _ _⟩
    · rw [e3] at HFI
      rw [e2] at hR1
      have hR1 : R = if n < 0 ∨ ((pagesOf s f).length : Int) ≤ n then ([], 92) else ((pagesOf s f).getD n.toNat [], 0) := hR1
      have hfa := h.filz _ e0
      have hpl := pages_ok h.ok (List.of_mem_zip e0).1
      have hpl2 : ∀ q ∈ pagesOf s f, q.length = 256 := hpl
      generalize hP : pagesOf s f = P at *
      have hpg : w.ownsRow 0 83 256 m.pv P.length (pcs P) := hP ▸ hfa.pg
      obtain ⟨ao, cap, hpv⟩ := row_shape hpg
      have c0 : w.cell? ⟨m.p, 0, none⟩ = some (.slice ao P.length cap) := by rw [← hpv]; exact (cell_of_heap hfa.blk 0).trans rfl
      by_cases hb : n < 0 ∨ (P.length : Int) ≤ n
      · have HRE : Hid (R = ([], 92)) := hid (by rw [hR1, if_pos hb])
        clear h hR1 e0 e1 e2 e3 hfa hpv hpg hpl hpl2 hP
        generalize P.length = l at *
        generalize m.p = p at *
        by_cases h0 : n < 0
        · go_enter Tryz.func21, Tryz.ntmps21
          go_wp2_with fail
          refine HFI.out.mono ?_
          rintro e w1 ⟨rfl, hw⟩
          subst hw
          go_wp2_with fail
          go_ret2
          rw [HRE.out]
          exact ⟨⟨_, rfl, .inl ⟨rfl, rfl⟩⟩, Below.refl _ _⟩
        · have h1 : (l : Int) ≤ n := by omega
          clear hb
          go_enter Tryz.func21, Tryz.ntmps21
          go_wp2_with fail
          refine HFI.out.mono ?_
          rintro e w1 ⟨rfl, hw⟩
          subst hw
          go_wp2_with fail
          go_ret2
          rw [HRE.out]
          exact ⟨⟨_, rfl, .inl ⟨rfl, rfl⟩⟩, Below.refl _ _⟩
      · obtain ⟨k, hk⟩ : ∃ k : Nat, n = (k : Int) := ⟨n.toNat, by omega⟩
        have hkl : k < P.length := by omega
        obtain ⟨g, cap', hv', hra, _, _⟩ := page_at hpg hpl2 k hkl
        have HRE : Hid (R = (P[k], 0)) := hid (by
          rw [hR1, if_neg hb, show n.toNat = k by omega, List.getD_eq_getElem?_getD, List.getElem?_eq_getElem hkl]
          rfl)
        have hP2 : P[k].length = 256 := hpl2 _ (List.getElem_mem hkl)
        have hpv2 : ao = some ⟨g, 0, none⟩ ∧ cap = cap' := by rw [hpv] at hv'; cases hv'; exact ⟨rfl, rfl⟩
        obtain ⟨rfl, rfl⟩ := hpv2
        have hk0 : (0 : Int) ≤ n := by omega
        have hk1 : n < (P.length : Int) := by omega
        obtain ⟨cs, hcs⟩ : ∃ cs, cs = bcs P[k] := ⟨_, rfl⟩
        rw [← hcs] at hra
        have hcl : cs.length = 256 := by rw [hcs, bcs_len, hP2]
        have hu := Tryz.underlying83
        have hi : (Tryz.prog.info? 83).map (·.size) = some cs.length := by rw [size78, hcl]
        obtain ⟨wn, hstc, hwn, hbn⟩ := new_page w cs hcl (by rw [hcs]; exact bcs_one _)
        have HB := hid hbn
        have HW := hid hwn
        clear hbn hwn
        have HCS := hid hcs
        have HP2 := hid hP2
        clear hR1
        clear h HR e0 e1 e2 e3 hfa hpv hv' hpg hpl hpl2 hP hb hcs hP2
        generalize P[k] = pg at *
        generalize P.length = l at *
        generalize m.p = p at *
        subst hk
        go_enter Tryz.func21, Tryz.ntmps21
        go_wp2_with fail
        refine HFI.out.mono ?_
        rintro e w1 ⟨rfl, hw⟩
        subst hw
        go_wp2_with fail
        refine wp_load_mid 83 (.tmp 38) rfl g (k * 256) rfl cs _ hra hu rfl hi ?_
        go_wp2_with fail
        go_ret2
        rw [HRE.out]
        refine ⟨⟨_, rfl, .inr ⟨w1.heap.size, 83, ?_, ?_, Nat.le_refl _⟩⟩, HB.out⟩
        · show Value.slice (some ⟨w1.heap.size, 0, none⟩) 256 256 = Value.slice (some ⟨w1.heap.size, 0, none⟩) pg.length pg.length
          rw [HP2.out]
        · rw [HW.out, HCS.out]
end Go.Proofs.YtojnembakhhgiaaGreat

/- A file that was synced, and not written to since: its mathematics. -/
namespace Go.Proofs.YtojnembakhhgiaaGreat

def Kept (s : Ds) (t : Bs) (P : List Bs) : Prop := ∃ f, f ∈ s.files ∧ f.name = t ∧ f.settled = P ∧ ofNo s.opn f.no = []
theorem no_inj {s : Ds} (h : Dok s) {f g : Df} (hf : f ∈ s.files) (hg : g ∈ s.files) (e : f.no = g.no) : f = g := by
  have := h.nos
  generalize s.files = l at this hf hg
  induction l with
  | nil => cases hf
  | cons a l ih =>
    rw [List.map_cons, List.nodup_cons] at this
    rcases List.mem_cons.1 hf with h1 | h1 <;> rcases List.mem_cons.1 hg with h2 | h2
    · rw [h1, h2]
    · exact absurd (List.mem_map.2 ⟨g, h2, by rw [← e, h1]⟩) this.1
    · exact absurd (List.mem_map.2 ⟨f, h1, by rw [e, h2]⟩) this.1
    · exact ih this.2 h1 h2
theorem name_inj {s : Ds} (h : Dok s) {f g : Df} (hf : f ∈ s.files) (hg : g ∈ s.files) (e : f.name = g.name) : f = g := by
  have := h.names
  generalize s.files = l at this hf hg
  induction l with
  | nil => cases hf
  | cons a l ih =>
    rw [List.map_cons, List.nodup_cons] at this
    rcases List.mem_cons.1 hf with h1 | h1 <;> rcases List.mem_cons.1 hg with h2 | h2
    · rw [h1, h2]
    · exact absurd (List.mem_map.2 ⟨g, h2, by rw [← e, h1]⟩) this.1
    · exact absurd (List.mem_map.2 ⟨f, h1, by rw [e, h2]⟩) this.1
    · exact ih this.2 h1 h2
theorem Kept.same {s s' : Ds} {t : Bs} {P : List Bs} (h : Kept s t P) (hf : s'.files = s.files) (ho : s'.opn = s.opn) : Kept s' t P := by
  obtain ⟨f, h1, h2, h3, h4⟩ := h
  exact ⟨f, by rw [hf]; exact h1, h2, h3, by rw [ho]; exact h4⟩
theorem Kept.step {s s' : Ds} {t : Bs} {P : List Bs} (h : Kept s t P) (hok : Dok s) (e : stepD s = some s') : Kept s' t P :=
  h.same (step_ok hok e).2.1 (step_ok hok e).2.2.1
theorem Kept.done {s : Ds} {f : Ds → Ds} {t : Bs} {P : List Bs} (h : Kept s t P) (hok : Dok s) (hf : ∀ s', stepD s = some s' → Dok s' → s'.files = s.files → Kept s' t P → Kept (f s') t P) : Kept (doD s f).2 t P := by
  unfold doD
  split
  · exact h.same rfl rfl
  · rename_i s' e
    exact hf s' e (step_ok hok e).1 (step_ok hok e).2.1 (h.step hok e)
theorem Kept.drop {s : Ds} {t : Bs} {P : List Bs} (h : Kept s t P) (hok : Dok s) {g : Df} (hg : g ∈ s.files) (hn : g.name ≠ t) : Kept (dropF s g.no) t P := by
  obtain ⟨f, h1, h2, h3, h4⟩ := h
  have hne : f.no ≠ g.no := fun e => hn (by rw [← no_inj hok h1 hg e]; exact h2)
  refine ⟨f, List.mem_filter.2 ⟨h1, by simpa using hne⟩, h2, h3, ?_⟩
  show ofNo (notNo s.opn g.no) f.no = []
  rw [of_not (Ne.symm hne)]
  exact h4
theorem Kept.renamed {s : Ds} {t : Bs} {P : List Bs} (h : Kept s t P) {no : Nat} (hno : ∀ f ∈ s.files, f.name = t → f.no ≠ no) (to : Bs) : Kept (renamed s no to) t P := by
  obtain ⟨f, h1, h2, h3, h4⟩ := h
  refine ⟨f, List.mem_map.2 ⟨f, h1, ?_⟩, h2, h3, h4⟩
  rw [if_neg (by simpa using hno f h1 h2)]
theorem Kept.create {s : Ds} {t : Bs} {P : List Bs} (h : Kept s t P) (hok : Dok s) (n : Bs) : Kept (createD s n).2 t P := by
  unfold createD
  split
  · exact h
  · split
    · exact h
    · split
      · exact h
      · split
        · exact h
        · refine h.done hok fun s' _ _ _ h' => ?_
          obtain ⟨f, h1, h2, h3, h4⟩ := h'
          exact ⟨f, List.mem_append.2 (.inl h1), h2, h3, h4⟩
theorem Kept.remove {s : Ds} {t : Bs} {P : List Bs} (h : Kept s t P) (hok : Dok s) {n : Bs} (hn : n ≠ t) : Kept (removeD s n).2 t P := by
  unfold removeD
  split
  · exact h
  · split
    · exact h
    · rename_i g hg
      obtain ⟨g1, g2⟩ := find_mem hg
      exact h.done hok fun s' _ hok' hf h' => h'.drop hok' (hf ▸ g1) (by rw [g2]; exact hn)
theorem Kept.rename {s : Ds} {t : Bs} {P : List Bs} (h : Kept s t P) (hok : Dok s) {a b : Bs} (ha : a ≠ t) (hb : b ≠ t) : Kept (renameD s a b).2 t P := by
  unfold renameD
  split
  · exact h
  · split
    · exact h
    · rename_i g hg
      obtain ⟨g1, g2⟩ := find_mem hg
      split
      · exact h
      · refine h.done hok fun s' _ hok' hf h' => ?_
        have hg' : g ∈ s'.files := hf ▸ g1
        show Kept (if a = b then s' else _) t P
        split
        · exact h'
        · split
          · exact h'.renamed (fun f hf2 e2 e3 => ha (by rw [← g2, ← no_inj hok' hf2 hg' e3]; exact e2)) b
          · rename_i k hk
            obtain ⟨k1, k2⟩ := find_mem hk
            refine (h'.drop hok' k1 (by rw [k2]; exact hb)).renamed (fun f hf2 e2 e3 => ha ?_) b
            have hf3 : f ∈ s'.files := (List.mem_filter.1 hf2).1
            rw [← g2, ← no_inj hok' hf3 hg' e3]
            exact e2
theorem Kept.write {s : Ds} {t : Bs} {P : List Bs} (h : Kept s t P) (hok : Dok s) {n : Bs} (hn : n ≠ t) (p : Int) (b : Bs) : Kept (writeD s n p b).2 t P := by
  unfold writeD
  split
  · exact h
  · split
    · exact h
    · rename_i g hg
      obtain ⟨g1, g2⟩ := find_mem hg
      split
      · exact h
      · split
        · exact h
        · split
          · exact h
          · refine h.done hok fun s' _ hok' hf h' => ?_
            obtain ⟨f, h1, h2, h3, h4⟩ := h'
            refine ⟨f, h1, h2, h3, ?_⟩
            show ofNo (s'.opn ++ [_]) f.no = []
            rw [ofNo_snoc, h4, if_neg]
            · rfl
            · intro e
              exact hn (by rw [← g2, no_inj hok' (hf ▸ g1) h1 e]; exact h2)
theorem Kept.sync {s : Ds} {t : Bs} {P : List Bs} (h : Kept s t P) (hok : Dok s) {n : Bs} (hn : n ≠ t) : Kept (syncD s n).2 t P := by
  unfold syncD
  split
  · exact h
  · split
    · exact h
    · rename_i g hg
      obtain ⟨g1, g2⟩ := find_mem hg
      refine h.done hok fun s' _ hok' hf h' => ?_
      obtain ⟨f, h1, h2, h3, h4⟩ := h'.drop hok' (hf ▸ g1) (by rw [g2]; exact hn)
      exact ⟨f, List.mem_append.2 (.inl h1), h2, h3, h4⟩
theorem Kept.fail {s : Ds} {t : Bs} {P : List Bs} (h : Kept s t P) (i : Int) (k : Nat) : Kept (failD s i k) t P := by
  unfold failD
  split
  · exact h
  · exact h.same rfl rfl
theorem Kept.on {s : Ds} {t : Bs} {P : List Bs} (h : Kept s t P) : Kept (onD s) t P := by
  unfold onD
  split
  · exact h
  · obtain ⟨f, h1, h2, h3, h4⟩ := h
    refine ⟨{ f with settled := layAll f.settled (ofNo (stay s.keep 0 s.opn) f.no) }, List.mem_map.2 ⟨f, h1, rfl⟩, h2, ?_, rfl⟩
    have : ofNo (stay s.keep 0 s.opn) f.no = [] := by
      have hs := ofNo_sub (stay_sub s.keep 0 s.opn) f.no
      rw [h4] at hs
      exact List.sublist_nil.1 hs
    rw [this]
    exact h3
theorem Kept.len {s : Ds} {t : Bs} {P : List Bs} (h : Kept s t P) (hok : Dok s) (ho : s.off = false) : lenD s t = (P.length, 0) := by
  obtain ⟨f, h1, h2, h3, h4⟩ := h
  unfold lenD
  rw [if_neg (by rw [ho]; decide), ← h2, find_is hok h1]
  show ((pagesOf s f).length, 0) = _
  unfold pagesOf
  rw [h4, layAll_nil, h3]
theorem Kept.read {s : Ds} {t : Bs} {P : List Bs} (h : Kept s t P) (hok : Dok s) (ho : s.off = false) {i : Nat} (hi : i < P.length) : readDk s t (i : Int) = (P[i], 0) := by
  obtain ⟨f, h1, h2, h3, h4⟩ := h
  have hp : pagesOf s f = P := by unfold pagesOf; rw [h4, layAll_nil, h3]
  unfold readDk
  rw [if_neg (by rw [ho]; decide), ← h2, find_is hok h1]
  show (if (i : Int) < 0 ∨ ((pagesOf s f).length : Int) ≤ (i : Int) then _ else _) = _
  rw [hp, if_neg (by omega)]
  simp [hi]
/-- the power fails at the next step: Sync answers so -/
theorem Kept.crash {s : Ds} {t : Bs} {P : List Bs} (h : Kept s t P) (hok : Dok s) (ho : s.off = false) (k : Nat) : syncD (failD s 0 k) t = (7, offD (failD s 0 k)) := by
  obtain ⟨f, h1, h2, h3, h4⟩ := h
  have hf : failD s 0 k = { s with set := true, inn := 0, keep := k } := by unfold failD; rw [if_neg (by rw [ho]; decide)]; rfl
  have hfi : findF (failD s 0 k) t = some f := by rw [hf, ← h2]; exact find_is hok h1
  unfold syncD
  rw [hfi, if_neg (by rw [hf]; show ¬ s.off = true; rw [ho]; decide)]
  show doD (failD s 0 k) _ = _
  unfold doD stepD
  rw [hf]
  rfl
/-- a file under way: synced nowhere yet, its pages known, the power good for a while -/
structure Way (s : Ds) (t : Bs) (P : List Bs) (left : Nat) : Prop where
  off : s.off = false
  set : s.set = true
  inn : left ≤ s.inn
  fil : ∃ f, f ∈ s.files ∧ f.name = t ∧ pagesOf s f = P
theorem Way.step {s : Ds} {t : Bs} {P : List Bs} {left : Nat} (h : Way s t P (left + 1)) : ∃ s', stepD s = some s' ∧ s' = { s with steps := s.steps + 1, inn := s.inn - 1 } := by
  have := h.inn
  unfold stepD
  rw [if_neg (by omega), h.set]
  exact ⟨_, rfl, rfl⟩
theorem Way.create {s : Ds} {t : Bs} (hok : Dok s) (k : Nat) (left : Nat) (hl : left + 1 ≤ 1073741824) (he : (createD (failD (onD s) 1073741824 k) t).1 = 0) : Way (createD (failD (onD s) 1073741824 k) t).2 t [] left := by
  have hoff : (onD s).off = false := by
    unfold onD
    split
    · assumption
    · rfl
  have hok1 := on_ok hok
  generalize onD s = u at hoff hok1 he ⊢
  have hf : failD u 1073741824 k = { u with set := true, inn := 1073741824, keep := k } := by unfold failD; rw [if_neg (by rw [hoff]; decide)]; rfl
  have hok2 := fail_ok hok1 1073741824 k
  rw [hf] at he hok2 ⊢
  unfold createD at he ⊢
  rw [if_neg (by show ¬ u.off = true; rw [hoff]; decide)] at he ⊢
  split at he
  · cases he
  · split at he
    · cases he
    · split at he
      · cases he
      · rename_i h1 h2 h3
        rw [if_neg h1, if_neg h2, if_neg h3]
        unfold doD stepD
        rw [if_neg (by rintro ⟨_, e⟩; exact absurd e (show ¬ (1073741824 : Nat) = 0 by decide))]
        refine ⟨hoff, rfl, by show left ≤ 1073741824 - 1; omega, ⟨u.next, t, []⟩, List.mem_append.2 (.inr (by simp)), rfl, ?_⟩
        show layAll [] (ofNo u.opn u.next) = []
        rw [show ofNo u.opn u.next = [] from ofNo_next hok1]
        rfl
theorem Way.write {s : Ds} {t : Bs} {P : List Bs} {left : Nat} (h : Way s t P (left + 1)) (hok : Dok s) (b : Bs) (he : (writeD s t (P.length : Int) b).1 = 0) : Way (writeD s t (P.length : Int) b).2 t (P ++ [pageB b]) left := by
  obtain ⟨s', hs, es⟩ := h.step
  obtain ⟨f, h1, h2, h3⟩ := h.fil
  have hfi := find_is hok h1
  rw [h2] at hfi
  unfold writeD at he ⊢
  rw [if_neg (by rw [h.off]; decide), hfi] at he ⊢
  simp only [h3] at he ⊢
  split at he
  · cases he
  · split at he
    · cases he
    · split at he
      · cases he
      · rename_i a1 a2 a3
        rw [if_neg a1, if_neg a2, if_neg a3]
        unfold doD
        rw [hs]
        have hi := h.inn
        refine ⟨by show s'.off = false; rw [es]; exact h.off, by show s'.set = true; rw [es]; exact h.set, by show left ≤ s'.inn; rw [es]; show left ≤ s.inn - 1; omega, f, by show f ∈ s'.files; rw [es]; exact h1, h2, ?_⟩
        show layAll f.settled (ofNo (s'.opn ++ [_]) f.no) = P ++ [pageB b]
        rw [ofNo_snoc, if_pos rfl, layAll_snoc]
        have e1 : layAll f.settled (ofNo s'.opn f.no) = P := by rw [es]; exact h3
        rw [e1]
        show lay P (P.length : Int).toNat (pageB b) = _
        rw [Int.toNat_natCast]
        unfold lay
        rw [show P.length + 1 - P.length = 1 by omega, List.set_append_right _ _ (Nat.le_refl _)]
        simp
theorem Way.read {s : Ds} {t : Bs} {P : List Bs} {left : Nat} (h : Way s t P left) (hok : Dok s) {i : Nat} (hi : i < P.length) : readDk s t (i : Int) = (P[i], 0) := by
  obtain ⟨f, h1, h2, h3⟩ := h.fil
  unfold readDk
  rw [if_neg (by rw [h.off]; decide), ← h2, find_is hok h1]
  show (if (i : Int) < 0 ∨ ((pagesOf s f).length : Int) ≤ (i : Int) then _ else _) = _
  rw [h3, if_neg (by omega)]
  simp [hi]
theorem Way.sync {s : Ds} {t : Bs} {P : List Bs} {left : Nat} (h : Way s t P (left + 1)) (hok : Dok s) : (syncD s t).1 = 0 ∧ Kept (syncD s t).2 t P ∧ (syncD s t).2.off = false := by
  obtain ⟨s', hs, es⟩ := h.step
  obtain ⟨f, h1, h2, h3⟩ := h.fil
  have hfi := find_is hok h1
  rw [h2] at hfi
  unfold syncD
  rw [if_neg (by rw [h.off]; decide), hfi]
  show (doD s _).1 = 0 ∧ Kept (doD s _).2 t P ∧ (doD s _).2.off = false
  unfold doD
  rw [hs]
  refine ⟨rfl, ⟨{ f with settled := pagesOf s' f }, List.mem_append.2 (.inr (by simp)), h2, ?_, ?_⟩, by show s'.off = false; rw [es]; exact h.off⟩
  · show pagesOf s' f = P
    rw [es]
    exact h3
  · exact of_not_same _ _
end Go.Proofs.YtojnembakhhgiaaGreat
