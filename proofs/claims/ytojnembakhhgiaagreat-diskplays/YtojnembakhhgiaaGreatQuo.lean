/- Never more pages than the quota. No program in it. -/
import Derived.Test.YtojnembakhhgiaaGreatRenAll
namespace Go.Proofs.YtojnembakhhgiaaGreat

theorem layAll_len_mono : ∀ (ws : List Dw) {l k : List Bs}, l.length ≤ k.length → (layAll l ws).length ≤ (layAll k ws).length
  | [], _, _, h => h
  | w :: ws, l, k, h => layAll_len_mono ws (l := lay l w.at' w.pg) (k := lay k w.at' w.pg) (by rw [lay_len, lay_len]; omega)
theorem layAll_len_ge : ∀ (ws : List Dw) (l : List Bs), l.length ≤ (layAll l ws).length
  | [], _ => Nat.le_refl _
  | w :: ws, l => Nat.le_trans (by rw [lay_len]; omega) (layAll_len_ge ws (lay l w.at' w.pg))
theorem layAll_len_at : ∀ (ws : List Dw) (l : List Bs), ∀ w ∈ ws, w.at' + 1 ≤ (layAll l ws).length
  | [], _, _, h => by cases h
  | v :: ws, l, w, h => by
    rcases List.mem_cons.1 h with rfl | h
    · exact Nat.le_trans (by rw [lay_len]; omega) (layAll_len_ge ws (lay l w.at' w.pg))
    · exact layAll_len_at ws (lay l v.at' v.pg) w h
theorem layAll_len_sub {a b : List Dw} (h : a.Sublist b) : ∀ (l : List Bs), (layAll l a).length ≤ (layAll l b).length := by
  induction h with
  | slnil => intro l; exact Nat.le_refl _
  | cons w _ ih => intro l; exact Nat.le_trans (ih l) (layAll_len_mono _ (by rw [lay_len]; omega))
  | cons_cons w _ ih => intro l; exact ih _
theorem sum_le {α : Type} {f g : α → Nat} : ∀ {l : List α}, (∀ a ∈ l, f a ≤ g a) → (l.map f).sum ≤ (l.map g).sum
  | [], _ => Nat.le_refl _
  | a :: l, h => by
    have h1 := h a (by simp)
    have h2 := sum_le (l := l) (fun b hb => h b (by simp [hb]))
    simp only [List.map_cons, List.sum_cons]
    omega
theorem sum_eq {α : Type} {f g : α → Nat} {l : List α} (h : ∀ a ∈ l, f a = g a) : (l.map f).sum = (l.map g).sum := by rw [List.map_congr_left h]
theorem sum_sub {α : Type} (f : α → Nat) {l k : List α} (h : l.Sublist k) : (l.map f).sum ≤ (k.map f).sum := by
  induction h with
  | slnil => exact Nat.le_refl _
  | cons a _ ih => simp only [List.map_cons, List.sum_cons]; omega
  | cons_cons a _ ih => simp only [List.map_cons, List.sum_cons]; omega
theorem sum_mem {α : Type} (f : α → Nat) : ∀ {l : List α} {a : α}, a ∈ l → f a ≤ (l.map f).sum
  | b :: l, a, h => by
    simp only [List.map_cons, List.sum_cons]
    rcases List.mem_cons.1 h with rfl | h
    · omega
    · have := sum_mem f h
      omega
/-- the one with a number, and the others -/
theorem sum_one (g : Df → Nat) : ∀ {l : List Df}, (l.map Df.no).Nodup → ∀ {f : Df}, f ∈ l → (l.map g).sum = ((l.filter fun x => x.no != f.no).map g).sum + g f
  | [], _, _, h => by cases h
  | x :: l, hn, f, h => by
    obtain ⟨h1, h2⟩ := List.nodup_cons.1 (by simpa using hn : (x.no :: l.map Df.no).Nodup)
    rcases List.mem_cons.1 h with rfl | h
    · have e : (l.filter fun x => x.no != f.no) = l := by
        rw [List.filter_eq_self]
        intro y hy
        have : y.no ≠ f.no := fun e => h1 (e ▸ List.mem_map.2 ⟨y, hy, rfl⟩)
        simpa using this
      rw [List.filter_cons_of_neg (by simp), e]
      simp only [List.map_cons, List.sum_cons]
      omega
    · have hx : x.no ≠ f.no := fun e => h1 (e ▸ List.mem_map.2 ⟨f, h, rfl⟩)
      rw [List.filter_cons_of_pos (by simpa using hx)]
      simp only [List.map_cons, List.sum_cons]
      have := sum_one g h2 h
      omega
theorem used_file {s : Ds} {f : Df} (hf : f ∈ s.files) : (pagesOf s f).length ≤ usedN s := sum_mem (fun f => (pagesOf s f).length) hf
theorem used_same {s s' : Ds} (h1 : s'.files = s.files) (h2 : s'.opn = s.opn) : usedN s' = usedN s := by
  unfold usedN pagesOf
  rw [h1, h2]
theorem quo_step {s s' : Ds} (h : usedN s ≤ s.quota) (hok : Dok s) (e : stepD s = some s') : usedN s' ≤ s'.quota := by
  obtain ⟨_, e1, e2, _, _, e5, _⟩ := step_ok hok e
  rw [used_same e1 e2, e5]
  exact h
theorem quo_do {s : Ds} {f : Ds → Ds} (h : usedN s ≤ s.quota) (hok : Dok s) (hf : ∀ s', stepD s = some s' → usedN s' ≤ s'.quota → Dok s' → usedN (f s') ≤ (f s').quota) : usedN (doD s f).2 ≤ (doD s f).2.quota := by
  unfold doD
  split
  · exact h
  · rename_i s' e
    exact hf s' e (quo_step h hok e) (step_ok hok e).1
theorem ofNo_next {s : Ds} (hok : Dok s) : ofNo s.opn s.next = [] := by
  unfold ofNo
  rw [List.filter_eq_nil_iff]
  intro x hx
  obtain ⟨_, _, f, hf, e⟩ := hok.own x hx
  have := hok.next f hf
  simp
  omega
theorem quo_create {s : Ds} (h : usedN s ≤ s.quota) (hok : Dok s) (t : Bs) : usedN (createD s t).2 ≤ (createD s t).2.quota := by
  unfold createD
  split
  · exact h
  · split
    · exact h
    · split
      · exact h
      · split
        · exact h
        · refine quo_do h hok fun s' _ h' hok' => ?_
          refine Nat.le_trans (Nat.le_of_eq ?_) h'
          show ((s'.files ++ [_]).map fun f => (pagesOf _ f).length).sum = _
          rw [List.map_append, List.sum_append]
          show ((s'.files.map fun f => (layAll f.settled (ofNo s'.opn f.no)).length).sum + ((layAll [] (ofNo s'.opn s'.next)).length + 0)) = _
          rw [ofNo_next hok']
          rfl
theorem used_drop {s : Ds} (no : Nat) : usedN (dropF s no) = ((s.files.filter fun f => f.no != no).map fun f => (pagesOf s f).length).sum := by
  unfold usedN
  refine sum_eq fun f hf => ?_
  have : no ≠ f.no := fun e => by
    have := (List.mem_filter.1 (show f ∈ s.files.filter _ from hf)).2
    simp [e] at this
  show (layAll f.settled (ofNo (notNo s.opn no) f.no)).length = _
  rw [of_not this]
  rfl
theorem quo_drop {s : Ds} (h : usedN s ≤ s.quota) (no : Nat) : usedN (dropF s no) ≤ (dropF s no).quota := by
  rw [used_drop]
  exact Nat.le_trans (sum_sub _ List.filter_sublist) h
theorem quo_remove {s : Ds} (h : usedN s ≤ s.quota) (hok : Dok s) (t : Bs) : usedN (removeD s t).2 ≤ (removeD s t).2.quota := by
  unfold removeD
  split
  · exact h
  · split
    · exact h
    · exact quo_do h hok fun s' _ h' _ => quo_drop h' _
theorem used_renamed (s : Ds) (no : Nat) (to : Bs) : usedN (renamed s no to) = usedN s := by
  unfold usedN renamed
  rw [List.map_map]
  refine sum_eq fun f _ => ?_
  show (layAll (if f.no == no then { f with name := to } else f).settled (ofNo s.opn (if f.no == no then { f with name := to } else f).no)).length = _
  split <;> rfl
theorem quo_rename {s : Ds} (h : usedN s ≤ s.quota) (hok : Dok s) (a b : Bs) : usedN (renameD s a b).2 ≤ (renameD s a b).2.quota := by
  unfold renameD
  split
  · exact h
  · split
    · exact h
    · split
      · exact h
      · refine quo_do h hok fun s' _ h' _ => ?_
        split
        · exact h'
        · split
          · rw [used_renamed]; exact h'
          · rw [used_renamed]; exact quo_drop h' _
theorem ofNo_snoc (ws : List Dw) (x : Dw) (no : Nat) : ofNo (ws ++ [x]) no = ofNo ws no ++ (if x.no = no then [x] else []) := by
  unfold ofNo
  rw [List.filter_append]
  by_cases e : x.no = no <;> simp [e]
theorem quo_write {s : Ds} (h : usedN s ≤ s.quota) (hok : Dok s) (t : Bs) (n : Int) (b : Bs) : usedN (writeD s t n b).2 ≤ (writeD s t n b).2.quota := by
  unfold writeD
  split
  · exact h
  · split
    · exact h
    · rename_i f hf
      split
      · exact h
      · split
        · exact h
        · rename_i hn
          split
          · exact h
          · rename_i hq
            refine quo_do h hok fun s' e h' hok' => ?_
            obtain ⟨_, e1, e2, _, _, e5, _⟩ := step_ok hok e
            have hfm : f ∈ s'.files := e1 ▸ (find_mem hf).1
            have hu : usedN s' = usedN s := used_same e1 e2
            have hp : pagesOf s' f = pagesOf s f := by unfold pagesOf; rw [e2]
            obtain ⟨s2, hs2⟩ : ∃ s2 : Ds, s2 = { s' with opn := s'.opn ++ [⟨s.steps, f.no, n.toNat, pageB b⟩] } := ⟨_, rfl⟩
            rw [← hs2]
            have h1 : ∀ g ∈ s'.files.filter (fun x => x.no != f.no), (pagesOf s2 g).length = (pagesOf s' g).length := fun g hg => by
              have hne : f.no ≠ g.no := fun e => by
                have := (List.mem_filter.1 hg).2
                simp [e] at this
              rw [hs2]
              show (layAll g.settled (ofNo (s'.opn ++ [_]) g.no)).length = _
              rw [ofNo_snoc, if_neg hne, List.append_nil]
              rfl
            have h2 : (pagesOf s2 f).length = max (pagesOf s' f).length (n.toNat + 1) := by
              rw [hs2]
              show (layAll f.settled (ofNo (s'.opn ++ [_]) f.no)).length = _
              rw [ofNo_snoc, if_pos rfl, layAll_snoc, lay_len]
              rfl
            have h3 : usedN s2 = ((s'.files.filter fun x => x.no != f.no).map fun f => (pagesOf s2 f).length).sum + (pagesOf s2 f).length := by
              unfold usedN
              rw [hs2]
              exact sum_one _ hok'.nos hfm
            have h4 : usedN s' = ((s'.files.filter fun x => x.no != f.no).map fun f => (pagesOf s' f).length).sum + (pagesOf s' f).length := sum_one (fun f => (pagesOf s' f).length) hok'.nos hfm
            have h5 := sum_eq h1
            have h6 : s2.quota = s.quota := by rw [hs2]; exact e5
            rw [hp] at h2 h4
            omega
theorem quo_sync {s : Ds} (h : usedN s ≤ s.quota) (hok : Dok s) (t : Bs) : usedN (syncD s t).2 ≤ (syncD s t).2.quota := by
  unfold syncD
  split
  · exact h
  · split
    · exact h
    · rename_i f hf
      refine quo_do h hok fun s' e h' hok' => ?_
      obtain ⟨_, e1, e2, _, _, e5, _⟩ := step_ok hok e
      have hfm : f ∈ s'.files := e1 ▸ (find_mem hf).1
      refine Nat.le_trans (Nat.le_of_eq ?_) h'
      have h4 : usedN s' = ((s'.files.filter fun x => x.no != f.no).map fun f => (pagesOf s' f).length).sum + (pagesOf s' f).length := sum_one (fun f => (pagesOf s' f).length) hok'.nos hfm
      have h5 := used_drop (s := s') f.no
      unfold usedN at h5 ⊢
      show (((dropF s' f.no).files ++ [_]).map fun g : Df => (layAll g.settled (ofNo (notNo s'.opn f.no) g.no)).length).sum = _
      rw [List.map_append, List.sum_append]
      show ((dropF s' f.no).files.map fun g : Df => (layAll g.settled (ofNo (notNo s'.opn f.no) g.no)).length).sum + ((layAll (pagesOf s' f) (ofNo (notNo s'.opn f.no) f.no)).length + 0) = _
      rw [of_not_same, layAll_nil]
      unfold usedN at h4
      rw [h4, ← h5]
      rfl
theorem quo_fail {s : Ds} (h : usedN s ≤ s.quota) (i : Int) (k : Nat) : usedN (failD s i k) ≤ (failD s i k).quota := by
  unfold failD
  split
  · exact h
  · exact h
theorem ofNo_sub {a b : List Dw} (h : a.Sublist b) (no : Nat) : (ofNo a no).Sublist (ofNo b no) := h.filter _
theorem quo_on {s : Ds} (h : usedN s ≤ s.quota) : usedN (onD s) ≤ (onD s).quota := by
  unfold onD
  split
  · exact h
  · refine Nat.le_trans ?_ h
    show (((s.files.map _).map fun f => (pagesOf _ f).length).sum) ≤ _
    rw [List.map_map]
    unfold usedN
    refine sum_le fun f _ => ?_
    show (layAll (layAll f.settled (ofNo (stay s.keep 0 s.opn) f.no)) (ofNo [] f.no)).length ≤ _
    show (layAll f.settled (ofNo (stay s.keep 0 s.opn) f.no)).length ≤ (layAll f.settled (ofNo s.opn f.no)).length
    exact layAll_len_sub (ofNo_sub (stay_sub _ _ _) _) _
theorem rise_lo : ∀ {l : List Nat} {lo n : Nat}, l.Pairwise (· < ·) → (∀ a ∈ l, lo ≤ a ∧ a < n) → l.length ≤ n - lo
  | [], _, _, _, _ => Nat.zero_le _
  | a :: l, lo, n, hp, hb => by
    obtain ⟨h1, h2⟩ := List.pairwise_cons.1 hp
    have := rise_lo (l := l) (lo := a + 1) (n := n) h2 (fun x hx => ⟨h1 x hx, (hb x (by simp [hx])).2⟩)
    have ha := hb a (by simp)
    rw [List.length_cons]
    omega
theorem rise_len {l : List Nat} {n : Nat} (hp : l.Pairwise (· < ·)) (hb : ∀ a ∈ l, a < n) : l.length ≤ n := rise_lo (lo := 0) hp (fun a ha => ⟨Nat.zero_le _, hb a ha⟩)
theorem opn_len {s : Ds} (h : Dok s) : s.opn.length ≤ s.steps := by
  have := rise_len h.rise (n := s.steps) (fun a ha => by
    obtain ⟨w, hw, rfl⟩ := List.mem_map.1 ha
    exact (h.own w hw).2.1)
  rwa [List.length_map] at this
end Go.Proofs.YtojnembakhhgiaaGreat
