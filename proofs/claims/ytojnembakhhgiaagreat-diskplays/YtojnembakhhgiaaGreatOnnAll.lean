import Derived.Test.YtojnembakhhgiaaGreatOnmAll
/- The power is back: files restored one by one. No program in it. -/
namespace Go.Proofs.YtojnembakhhgiaaGreat
open Go.RowKit

/-- what a file is when the power is back -/
def keptS (s : Ds) (f : Df) : List Bs := layAll f.settled (ofNo (stay s.keep 0 s.opn) f.no)
def rs (s : Ds) (K : List Bs) (f : Df) : Df := if f.name ∈ K then { f with settled := keptS s f } else f
/-- the files of these names are restored -/
def rst (s : Ds) (K : List Bs) : Ds := { s with files := s.files.map (rs s K), opn := s.opn.filter fun w => !(s.files.any fun f => f.no == w.no && decide (f.name ∈ K)) }
theorem rs_no (s : Ds) (K : List Bs) (f : Df) : (rs s K f).no = f.no := by unfold rs; split <;> rfl
theorem rs_name (s : Ds) (K : List Bs) (f : Df) : (rs s K f).name = f.name := by unfold rs; split <;> rfl
theorem rst_nil (s : Ds) : rst s [] = s := by
  have e1 : s.files.map (rs s []) = s.files := by
    conv => rhs; rw [← List.map_id s.files]
    apply List.map_congr_left
    intro f _
    unfold rs
    simp
  have e2 : (s.opn.filter fun w => !(s.files.any fun f => f.no == w.no && decide (f.name ∈ ([] : List Bs)))) = s.opn := by
    rw [List.filter_eq_self]
    intro w _
    simp
  unfold rst
  rw [e1, e2]
theorem rst_of {s : Ds} (h : Dok s) (K : List Bs) {f : Df} (hf : f ∈ s.files) : ofNo (rst s K).opn f.no = if f.name ∈ K then [] else ofNo s.opn f.no := by
  unfold rst ofNo
  simp only
  rw [List.filter_filter]
  split
  · rename_i hk
    rw [List.filter_eq_nil_iff]
    intro w _ hc
    simp only [Bool.and_eq_true, beq_iff_eq, Bool.not_eq_true'] at hc
    have : (s.files.any fun f => f.no == w.no && decide (f.name ∈ K)) = true := List.any_eq_true.2 ⟨f, hf, by simp [hc.1, hk]⟩
    rw [this] at hc
    cases hc.2
  · rename_i hk
    apply List.filter_congr
    intro w hw
    by_cases e : w.no = f.no
    · have : (s.files.any fun g => g.no == w.no && decide (g.name ∈ K)) = false := by
        rw [List.any_eq_false]
        intro g hg hc
        simp only [Bool.and_eq_true, beq_iff_eq, decide_eq_true_eq] at hc
        have := no_uniq h hg hf (hc.1.trans e)
        subst this
        exact hk hc.2
      rw [this]
      simp
    · simp [e]
theorem keptS_pgs {s : Ds} (h : Dok s) {f : Df} (hf : f ∈ s.files) : ∀ q ∈ keptS s f, q.length = 256 :=
  layAll_pgs _ (h.pgs f hf) (fun w hw => (h.own w ((stay_sub s.keep 0 s.opn).subset (List.mem_filter.1 hw).1)).1)
theorem rst_ok {s : Ds} (h : Dok s) (K : List Bs) : Dok (rst s K) := by
  have e1 : (rst s K).files.map Df.no = s.files.map Df.no := by
    show (s.files.map (rs s K)).map Df.no = _
    rw [List.map_map]
    apply List.map_congr_left
    intro f _
    exact rs_no s K f
  have e2 : (rst s K).files.map Df.name = s.files.map Df.name := by
    show (s.files.map (rs s K)).map Df.name = _
    rw [List.map_map]
    apply List.map_congr_left
    intro f _
    exact rs_name s K f
  refine ⟨h.quota, by rw [e1]; exact h.nos, by rw [e2]; exact h.names, fun f hf => ?_, by show (s.files.map _).length ≤ 256; rw [List.length_map]; exact h.few, fun f hf => ?_, fun f hf => ?_, fun w hw => ?_, ?_⟩
  · obtain ⟨g, hg, rfl⟩ := List.mem_map.1 (show f ∈ s.files.map (rs s K) from hf)
    rw [rs_name]
    exact h.lens g hg
  · obtain ⟨g, hg, rfl⟩ := List.mem_map.1 (show f ∈ s.files.map (rs s K) from hf)
    rw [rs_no]
    exact h.next g hg
  · obtain ⟨g, hg, rfl⟩ := List.mem_map.1 (show f ∈ s.files.map (rs s K) from hf)
    unfold rs
    split
    · exact keptS_pgs h hg
    · exact h.pgs g hg
  · obtain ⟨a, b, f, hf, e⟩ := h.own w (List.mem_filter.1 (show w ∈ s.opn.filter _ from hw)).1
    exact ⟨a, b, rs s K f, List.mem_map.2 ⟨f, hf, rfl⟩, by rw [rs_no]; exact e⟩
  · exact h.rise.sublist ((List.filter_sublist (l := s.opn)).map _)
theorem rst_set {s : Ds} (h : Dok s) (K : List Bs) {i : Nat} (hi : i < s.files.length) : (rst s (K ++ [s.files[i].name])).files = (rst s K).files.set i { s.files[i] with settled := keptS s s.files[i] } := by
  show s.files.map (rs s _) = (s.files.map (rs s K)).set i _
  apply List.ext_getElem
  · simp
  · intro j h1 h2
    have hj : j < s.files.length := by simpa using h1
    rw [List.getElem_map]
    by_cases e : j = i
    · subst e
      rw [List.getElem_set_self]
      unfold rs
      rw [if_pos (by simp)]
    · rw [List.getElem_set_ne (fun e2 => e e2.symm), List.getElem_map]
      have hn : s.files[j].name ≠ s.files[i].name := fun e2 => e (by
        have := (List.getElem_inj (xs := s.files.map Df.name) (i := j) (j := i) (h₀ := by simpa using hj) (h₁ := by simpa using hi) h.names).1 (by simpa using e2)
        exact this)
      unfold rs
      by_cases hk : s.files[j].name ∈ K
      · rw [if_pos (by simp [hk]), if_pos hk]
      · rw [if_neg (by simp [hk, hn]), if_neg hk]
theorem rst_all {s : Ds} (h : Dok s) (ho : s.off = true) {K : List Bs} (hK : K.Perm (s.files.map Df.name)) : onD s = { rst s K with off := false, set := false, inn := 0, keep := 0 } := by
  have hin : ∀ f ∈ s.files, f.name ∈ K := fun f hf => hK.mem_iff.2 (List.mem_map.2 ⟨f, hf, rfl⟩)
  have e1 : s.files.map (rs s K) = s.files.map (fun f => { f with settled := layAll f.settled (ofNo (stay s.keep 0 s.opn) f.no) }) := by
    apply List.map_congr_left
    intro f hf
    unfold rs
    rw [if_pos (hin f hf)]
    rfl
  have e2 : (s.opn.filter fun w => !(s.files.any fun f => f.no == w.no && decide (f.name ∈ K))) = [] := by
    rw [List.filter_eq_nil_iff]
    intro w hw
    obtain ⟨_, _, f, hf, e⟩ := h.own w hw
    have : (s.files.any fun f => f.no == w.no && decide (f.name ∈ K)) = true := List.any_eq_true.2 ⟨f, hf, by simp [e, hin f hf]⟩
    simp [this]
  unfold onD rst
  rw [if_neg (by rw [ho]; decide), e1, e2]
theorem names_pos {s : Ds} {ms : List Fm} (hl : ms.length = s.files.length) {t : Bs} {p : Nat} (h : namesOf s ms t = some p) : ∃ i, ∃ (hi : i < s.files.length) (hi' : i < ms.length), s.files[i].name = t ∧ ms[i].p = p := by
  rcases find_at (s := s) hl (t := t) with ⟨e1, _⟩ | ⟨f, m, e0, e1, e2, e3⟩
  · rw [e1] at h; cases h
  · obtain ⟨i, hi, hi', ef, em⟩ := at_index e0
    rw [e3] at h
    cases h
    exact ⟨i, hi, hi', by rw [ef]; exact e1, by rw [em]⟩
end Go.Proofs.YtojnembakhhgiaaGreat

/- On. -/
namespace Go.Proofs.YtojnembakhhgiaaGreat
open Go.RowKit Go.Maps Go.WideElems

/-- while files are restored -/
structure Ov (r : Nat) (w1 : World) (d : Nat) (s : Ds) (b : Nat) (ms : List Fm) (K : List Bs) (ms' : List Fm) (wr : World) : Prop where
  dv : Dv wr d (rst s K) (some b) ms'
  len : ms'.length = ms.length
  ps : ∀ i (h : i < ms.length) (h' : i < ms'.length), ms'[i].p = ms[i].p
  kf : Kf (r :: ms.flatMap Fm.blocks) w1 wr
  new : ∀ g ∈ ms'.flatMap Fm.blocks, g ∈ ms.flatMap Fm.blocks ∨ w1.heap.size ≤ g
theorem flat_upd {ms : List Fm} {i : Nat} (hi : i < ms.length) (m' : Fm) {g : Nat} (hg : g ∈ (ms.set i m').flatMap Fm.blocks) : g ∈ ms.flatMap Fm.blocks ∨ g ∈ m'.blocks := by
  rw [flat_set Fm.blocks ms i hi] at hg
  rw [flat_get Fm.blocks ms i hi]
  simp only [List.mem_append] at hg ⊢
  rcases hg with h | h | h
  · exact .inl (.inl h)
  · exact .inr h
  · exact .inl (.inr (.inr h))
/-- one file more is restored -/
theorem Ov.step {r : Nat} {w1 : World} {d : Nat} {s : Ds} {b : Nat} {ms : List Fm} {K : List Bs} {ms' : List Fm} {wr w' : World} (h : Ov r w1 d s b ms K ms' wr) (hok : Dok s) (hl : ms.length = s.files.length) {i : Nat} (hi : i < s.files.length) (hi' : i < ms'.length) (hR : Rst wr ms'[i] (keptS s s.files[i]) w') : ∃ ms2, Ov r w1 d s b ms (K ++ [s.files[i].name]) ms2 w' := by
  obtain ⟨m', e1, hfa, hk, hn, hd⟩ := hR
  have him : i < ms.length := by rw [hl]; exact hi
  have hri : i < (rst s K).files.length := by show i < (s.files.map _).length; rw [List.length_map]; exact hi
  have hfm : s.files[i] ∈ s.files := List.getElem_mem hi
  have hrf : (rst s K).files[i] = rs s K s.files[i] := List.getElem_map (rs s K)
  have hdl := lt_of_block h.dv.blk
  have hbl := blocks_nodup h.dv (List.getElem_mem hi')
  refine ⟨ms'.set i m', ⟨?_, by rw [List.length_set]; exact h.len, fun j hj hj' => ?_, ?_, fun g hg => ?_⟩⟩
  · refine h.dv.upd1 (i := i) hri (s' := rst s (K ++ [s.files[i].name])) (f' := { s.files[i] with settled := keptS s s.files[i] }) (m' := m') (rst_set hok K hi) ?_ e1 (fun j hj hne => ?_) ?_ ?_ (fun g hg hg2 hgd => ?_) hn hd (rst_ok hok _) ?_
    · rw [hrf, rs_name]
    · have hj2 : j < s.files.length := by have : j < (s.files.map (rs s K)).length := hj; rwa [List.length_map] at this
      have hrj : (rst s K).files[j] = rs s K s.files[j] := List.getElem_map (rs s K)
      have hn2 : s.files[j].name ≠ s.files[i].name := fun e2 => hne (by
        have := (List.getElem_inj (xs := s.files.map Df.name) (i := j) (j := i) (h₀ := by simpa using hj2) (h₁ := by simpa using hi) hok.names).1 (by simpa using e2)
        exact this)
      rw [hrj, rs_no, rst_of hok _ (List.getElem_mem hj2), rst_of hok _ (List.getElem_mem hj2)]
      by_cases hk2 : s.files[j].name ∈ K
      · rw [if_pos (by simp [hk2]), if_pos hk2]
      · rw [if_neg (by simp [hk2, hn2]), if_neg hk2]
    · have e3 : ofNo (rst s (K ++ [s.files[i].name])).opn s.files[i].no = [] := by rw [rst_of hok _ hfm, if_pos (by simp)]
      have e4 : pagesOf (rst s (K ++ [s.files[i].name])) { s.files[i] with settled := keptS s s.files[i] } = keptS s s.files[i] := by
        unfold pagesOf
        show layAll (keptS s s.files[i]) (ofNo _ s.files[i].no) = _
        rw [e3]
        rfl
      rw [e4]
      show FileAt w' _ (keptS s s.files[i]) (ofNo _ s.files[i].no) m'
      rw [e3]
      exact hfa
    · rw [hk.blk d hdl hbl.2.1]
      exact h.dv.blk
    · exact hk.blk g (h.dv.lt hg) hg2
    · exact h.dv.small
  · have hj2 : j < ms'.length := by simpa using hj'
    by_cases e : j = i
    · subst e
      rw [List.getElem_set_self, e1]
      exact h.ps j hj hj2
    · rw [List.getElem_set_ne (fun e2 => e e2.symm)]
      exact h.ps j hj hj2
  · refine h.kf.trans hk (fun g hg => ?_)
    exact (h.new g (List.mem_flatMap.2 ⟨_, List.getElem_mem hi', hg⟩)).imp (fun h => List.mem_cons_of_mem _ h) id
  · rcases flat_upd hi' m' hg with h1 | h1
    · exact h.new g h1
    · rcases hn g h1 with h2 | h2
      · exact h.new g (List.mem_flatMap.2 ⟨_, List.getElem_mem hi', h2⟩)
      · exact .inr (Nat.le_trans h.kf.size h2)
/-- the range's own block turns -/
theorem Ov.turn {r : Nat} {w1 : World} {d : Nat} {s : Ds} {b : Nat} {ms : List Fm} {K : List Bs} {ms' : List Fm} {wr w2 : World} (h : Ov r w1 d s b ms K ms' wr) (hg : wr.grownBy w2 (some r)) (hr : r ∉ Fp d (some b) ms') : Ov r w1 d s b ms K ms' w2 :=
  ⟨h.dv.same (fun g hm => hg.block g (h.dv.lt hm) (fun e => hr (by cases e; exact hm))), h.len, h.ps, h.kf.trans (⟨hg.os, hg.tape, hg.output, hg.size, fun g hgl hF => hg.block g hgl (fun e => hF (by cases e; simp))⟩ : Kf [r] wr w2) (fun g hm => .inl (by simp at hm; simp [hm])), h.new⟩
end Go.Proofs.YtojnembakhhgiaaGreat
