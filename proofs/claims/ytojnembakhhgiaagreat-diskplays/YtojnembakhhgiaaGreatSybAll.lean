import Derived.Test.YtojnembakhhgiaaGreatSynAll
/- A step by a bound method. -/
namespace Go.Proofs.YtojnembakhhgiaaGreat
open Go.RowKit

/-- a step that happens: what happens is a method bound to what it is of -/
theorem step_bound (w : World) (d : Nat) (s s' : Ds) (mb : Option Nat) (ms : List Fm) (h : Dv w d s mb ms) (hs : stepD s = some s') (k : Nat) (caps : Array Value) (eg : ∀ args w, (callFunc k args).run Tryz.prog w = .ok (.enter k args) w) (Post : World → Prop)
    (HC : ∀ W, Dv W d (preD s) mb ms → Kf [d] w W → Calls Tryz.prog k caps W fun e w' => e = .returned (.tuple #[]) ∧ w'.cell? ⟨d, 2, none⟩ = some (.int .i64 (s.steps : Int)) ∧ w'.frozen? ⟨d, 2, none⟩ = false ∧ Post (w'.setCell ⟨d, 2, none⟩ (.int .i64 ((s.steps + 1 : Nat) : Int)))) :
    Calls Tryz.prog 44 #[.pointer (some ⟨d, 0, none⟩), .func (.func k) caps #[]] w fun e w' => e = .returned (.int .i64 0) ∧ Post w' := by
  have hst := h.small.1
  have hsw : IntKind.i64.wrap ((s.steps : Int) + 1) = ((s.steps + 1 : Nat) : Int) := by rw [IntKind.wrap_i64]; omega
  have c3 : w.cell? ⟨d, 3, none⟩ = some (.bool s.set) := (cell_of_heap h.blk 3).trans rfl
  have c4 : w.cell? ⟨d, 4, none⟩ = some (.int .i64 (s.inn : Int)) := (cell_of_heap h.blk 4).trans rfl
  have f4 := frozen_of_heap h.blk 4
  have HCH := hid HC
  have HD := hid h
  cases hset : s.set with
  | false =>
    have hpre : preD s = s := by unfold preD; rw [if_neg (by rw [hset]; decide)]
    have HG := hid (HC w (by rw [hpre]; exact h) (Kf.refl _ _))
    rw [hset] at c3
    clear h HC HCH HD hs hpre hset
    go_enter Tryz.func44, Tryz.ntmps44
    go_wp2_with fail
    refine HG.out.mono ?_
    rintro e w1 ⟨rfl, q2, q3, hp⟩
    have HP := hid hp
    clear hp HG
    go_wp2_with fail
    go_ret
    exact ⟨rfl, HP.out⟩
  | true =>
    have hn : s.inn ≠ 0 := fun e => by
      unfold stepD at hs
      rw [if_pos ⟨hset, e⟩] at hs
      cases hs
    have hi1 : ¬ (s.inn : Int) = 0 := by omega
    have hi2 : ((s.inn : Int) == 0) = false := by simpa using hi1
    have hi64 := h.small.2.1
    have hiw : IntKind.i64.wrap ((s.inn : Int) - 1) = ((s.inn - 1 : Nat) : Int) := by rw [IntKind.wrap_i64]; omega
    have hpre : preD s = { s with inn := s.inn - 1 } := by unfold preD; rw [if_pos hset]
    have HG := hid (HC (w.setCell ⟨d, 4, none⟩ (.int .i64 ((s.inn - 1 : Nat) : Int))) (h.upd (by rw [hpre]) (by rw [hpre]) (pre_ok h.ok) (by rw [hpre]; have := h.small; refine ⟨this.1, ?_, this.2.2⟩; show s.inn - 1 < _; omega) (by rw [heap_setCell_same h.blk 4 _, hpre]; rfl) (fun g hg => Below.heap_setCell _ _ _ _ (h.not_d hg))) (Kf.set _ (List.mem_singleton.2 rfl) _ _))
    rw [hset] at c3
    generalize ((s.inn - 1 : Nat) : Int) = I at hiw HG
    clear h HC HCH HD hs hpre hset hi64 hn
    go_enter Tryz.func44, Tryz.ntmps44
    go_wp2_with fail
    refine HG.out.mono ?_
    rintro e w1 ⟨rfl, q2, q3, hp⟩
    have HP := hid hp
    clear hp HG
    go_wp2_with fail
    go_ret
    exact ⟨rfl, HP.out⟩
theorem eg45 : ∀ args w, (callFunc 53 args).run Tryz.prog w = .ok (.enter 53 args) w := Go.Proofs.enters_of Tryz.func53 (by kernel_rfl) rfl
end Go.Proofs.YtojnembakhhgiaaGreat

/- Files in another order; Sync. -/
namespace Go.Proofs.YtojnembakhhgiaaGreat
open Go.RowKit

theorem zip_snd {α β : Type} : ∀ {l : List α} {k : List β}, k.length = l.length → (l.zip k).map (·.2) = k
  | [], [], _ => rfl
  | [], _ :: _, h => by simp at h
  | _ :: _, [], h => by simp at h
  | a :: l, b :: k, h => by rw [List.zip_cons_cons, List.map_cons, zip_snd (l := l) (k := k) (by simpa using h)]
theorem zip_fst {α β : Type} : ∀ {l : List α} {k : List β}, k.length = l.length → (l.zip k).map (·.1) = l
  | [], [], _ => rfl
  | [], _ :: _, h => by simp at h
  | _ :: _, [], h => by simp at h
  | a :: l, b :: k, h => by rw [List.zip_cons_cons, List.map_cons, zip_fst (l := l) (k := k) (by simpa using h)]
theorem Dv.perm {w : World} {d : Nat} {s : Ds} {mb : Option Nat} {ms ms' : List Fm} {fs : List Df} (h : Dv w d s mb ms) (hl : ms'.length = fs.length) (hz : (fs.zip ms').Perm (s.files.zip ms)) (hok : Dok { s with files := fs }) : Dv w d { s with files := fs } mb ms' := by
  have hms : ms'.Perm ms := by
    have := hz.map (·.2)
    rwa [zip_snd hl, zip_snd h.len] at this
  have hfs : fs.Perm s.files := by
    have := hz.map (·.1)
    rwa [zip_fst hl, zip_fst h.len] at this
  refine ⟨h.blk, hl, fil_of (fun x hx => ?_), fun b e => ?_, fun e => ?_, ?_, hok, h.small⟩
  · exact h.filz x (hz.mem_iff.1 hx)
  · have : namesOf { s with files := fs } ms' = namesOf s ms := by
      funext t
      rcases find_at (s := s) h.len (t := t) with ⟨e1, e2⟩ | ⟨f, m, e0, e1, e2, e3⟩
      · rw [e1]
        rcases find_at (s := { s with files := fs }) hl (t := t) with ⟨g1, _⟩ | ⟨f, m, g0, g1, _, _⟩
        · exact g1
        · have := find_none e2 f (hfs.mem_iff.1 (List.of_mem_zip g0).1)
          exact absurd g1 this
      · rw [e3, ← e1]
        exact names_at hok hl (hz.mem_iff.2 e0)
    rw [this]
    exact h.map b e
  · have := h.nomap e
    rw [this] at hfs
    exact hfs.eq_nil
  · refine (List.Perm.nodup_iff ?_).2 h.apart
    refine List.Perm.cons d (List.Perm.append_left _ ?_)
    exact List.Perm.flatMap_right _ hms
theorem filter_erase {l : List (Df × Fm)} (hn : (l.map (·.1.no)).Nodup) {i : Nat} (hi : i < l.length) : l.filter (fun x => x.1.no != l[i].1.no) = l.eraseIdx i := by
  induction l generalizing i with
  | nil => simp at hi
  | cons a l ih =>
    obtain ⟨h1, h2⟩ := List.nodup_cons.1 (by simpa using hn : (a.1.no :: l.map (·.1.no)).Nodup)
    cases i with
    | zero =>
      rw [List.filter_cons_of_neg (by simp), List.eraseIdx_cons_zero, List.filter_eq_self]
      intro x hx
      have : x.1.no ≠ a.1.no := fun e => h1 (e ▸ List.mem_map.2 ⟨x, hx, rfl⟩)
      simpa using this
    | succ i =>
      have hi' : i < l.length := by simpa using hi
      have : a.1.no ≠ l[i].1.no := fun e => h1 (e ▸ List.mem_map.2 ⟨l[i], List.getElem_mem hi', rfl⟩)
      rw [List.getElem_cons_succ, List.filter_cons_of_pos (by simpa using this), List.eraseIdx_cons_succ, ih h2 hi']
/-- what a sync makes of a disk -/
def syF (s : Ds) (f : Df) : Ds := { dropF s f.no with files := (dropF s f.no).files ++ [{ f with settled := pagesOf s f }] }
/-- the same, the file in its place -/
def sySet (s : Ds) (i : Nat) (f : Df) : Ds := { s with files := s.files.set i { f with settled := pagesOf s f }, opn := notNo s.opn f.no }
theorem syF_ok {s : Ds} (h : Dok s) {f : Df} (hf : f ∈ s.files) : Dok (syF s f) := by
  obtain ⟨s2, hs2⟩ : ∃ s2 : Ds, s2 = { s with off := false, set := false } := ⟨_, rfl⟩
  have h2 : Dok s2 := by rw [hs2]; exact ⟨h.quota, h.nos, h.names, h.lens, h.few, h.next, h.pgs, h.own, h.rise⟩
  have hfind : findF s2 f.name = some f := find_is h2 (by rw [hs2]; exact hf)
  have := sync_ok h2 f.name
  unfold syncD at this
  rw [if_neg (by rw [hs2]; simp), hfind] at this
  unfold doD stepD at this
  rw [if_neg (by rw [hs2]; simp)] at this
  have t2 : Dok (syF { s2 with steps := s2.steps + 1, inn := if s2.set = true then s2.inn - 1 else s2.inn } f) := this
  rw [hs2] at t2
  exact ⟨t2.quota, t2.nos, t2.names, t2.lens, t2.few, t2.next, t2.pgs, fun w hw => ⟨(t2.own w hw).1, (h.own w (List.mem_filter.1 hw).1).2.1, (t2.own w hw).2.2⟩, t2.rise⟩
end Go.Proofs.YtojnembakhhgiaaGreat

/- Sync: its step. -/
namespace Go.Proofs.YtojnembakhhgiaaGreat
open Go.RowKit

theorem Dok.perm {s : Ds} {fs : List Df} (h : Dok s) (hp : fs.Perm s.files) : Dok { s with files := fs } :=
  ⟨h.quota, ((hp.map Df.no).nodup_iff).2 h.nos, ((hp.map Df.name).nodup_iff).2 h.names, fun f hf => h.lens f (hp.mem_iff.1 hf), by show fs.length ≤ 256; rw [hp.length_eq]; exact h.few, fun f hf => h.next f (hp.mem_iff.1 hf), fun f hf => h.pgs f (hp.mem_iff.1 hf), fun w hw => by
    obtain ⟨a, b, f, hf, e⟩ := h.own w hw
    exact ⟨a, b, f, hp.mem_iff.2 hf, e⟩, h.rise⟩
theorem zip_nos {s : Ds} (hok : Dok s) {ms : List Fm} (hl : ms.length = s.files.length) : ((s.files.zip ms).map (·.1.no)).Nodup := by
  have : (s.files.zip ms).map (·.1.no) = ((s.files.zip ms).map (·.1)).map Df.no := by rw [List.map_map]; rfl
  rw [this, zip_fst hl]
  exact hok.nos
theorem set_perm {α : Type} (x : α) : ∀ {l : List α} {i : Nat}, i < l.length → (l.set i x).Perm (x :: l.eraseIdx i)
  | [], _, h => by simp at h
  | _ :: _, 0, _ => List.Perm.refl _
  | a :: l, i + 1, h => by
    rw [List.set_cons_succ, List.eraseIdx_cons_succ]
    exact (List.Perm.cons a (set_perm x (by simpa using h))).trans (List.Perm.swap x a _)
/-- the file in its place, or last: the same but for the order -/
theorem sy_perm {s : Ds} (hok : Dok s) {ms : List Fm} (hl : ms.length = s.files.length) {i : Nat} (hi : i < s.files.length) (f' : Df) (m' : Fm) : ((((dropF s s.files[i].no).files ++ [f']).zip (dropM s ms s.files[i].no ++ [m']))).Perm ((s.files.set i f').zip (ms.set i m')) := by
  have hzl : i < (s.files.zip ms).length := by rw [List.length_zip]; omega
  have hz1 : (s.files.zip ms)[i].1 = s.files[i] := by simp
  have h1 : (s.files.zip ms).filter (fun x => x.1.no != s.files[i].no) = (s.files.zip ms).eraseIdx i := by
    rw [← hz1]
    exact filter_erase (zip_nos hok hl) hzl
  rw [List.zip_append (by rw [dropM]; exact (len_filter (fun f : Df => f.no != s.files[i].no) s.files ms hl).symm), drop_zip hl, h1, zip_set]
  refine List.Perm.trans ?_ (set_perm (f', m') hzl).symm
  exact List.perm_append_comm
theorem sync_step (w0 : World) (d : Nat) (s : Ds) (mb : Option Nat) (ms : List Fm) (h : Dv w0 d s mb ms) (hst : s.steps + 1 < 1000000) (hq : usedN s ≤ s.quota) (i : Nat) (hi : i < s.files.length) (hi' : i < ms.length) :
    Calls Tryz.prog 44 #[.pointer (some ⟨d, 0, none⟩), .func (.func 53) #[.pointer (some ⟨ms[i].p, 0, none⟩)] #[]] w0 fun e w' => e = .returned (.int .i64 ((doD s fun s' => syF s' s.files[i]).1 : Int)) ∧ Left w0 d mb ms (doD s fun s' => syF s' s.files[i]).2 w' := by
  unfold doD
  cases hs : stepD s with
  | none =>
    refine (step_crash w0 d s mb ms h hs _).mono ?_
    rintro e w' ⟨rfl, q1, q2⟩
    exact ⟨rfl, mb, ms, q1, q2.more (fun g hg => by simp at hg; subst hg; simp [Fp]), fun g hg => .inl hg⟩
  | some s' =>
    simp only
    have hfm : s.files[i] ∈ s.files := List.getElem_mem hi
    refine step_bound w0 d s s' mb ms h hs 53 _ eg45 (Left w0 d mb ms (syF s' s.files[i])) ?_
    intro W hD hK
    have hbl := blocks_nodup hD (List.getElem_mem hi')
    have hfa : FileAt W (pagesOf s s.files[i]) s.files[i].settled (ofNo s.opn s.files[i].no) ms[i] := hD.fil i hi hi'
    have hpl : (pagesOf s s.files[i]).length ≤ 65536 := Nat.le_trans (used_file hfm) (Nat.le_trans hq h.ok.quota)
    have hws : (ofNo s.opn s.files[i].no).length ≤ 1000000 := by
      have h5 := opn_len h.ok
      have h6 : (ofNo s.opn s.files[i].no).length ≤ s.opn.length := List.length_filter_le _ _
      omega
    have hapB : (ms[i].p :: (ob ms[i].pv ++ (ob ms[i].sv ++ ob ms[i].ov))).Nodup := hbl.1
    obtain ⟨a1, a2⟩ := List.nodup_cons.1 hapB
    obtain ⟨a3, a4, a5⟩ := List.nodup_append.1 a2
    obtain ⟨a6, a7, a8⟩ := List.nodup_append.1 a4
    have hltm : ∀ g ∈ ms[i].blocks, g < W.heap.size := fun g hg => hfa.lt hg
    refine (fsync_any W ms[i].p ms[i].pv ms[i].sv ms[i].ov s.files[i].settled (ofNo s.opn s.files[i].no) hfa.blk hfa.st hfa.op (fun g hg e => a1 (by subst e; simp [hg])) (fun g hg => ⟨fun e => a1 (by subst e; simp [hg]), fun hg2 => a8 g hg2 g hg rfl⟩) (h.ok.pgs _ hfm) (fun x hx => (h.ok.own x (List.mem_filter.1 hx).1).1) (by show (pagesOf s s.files[i]).length ≤ 100000; omega) hws).mono ?_
    rintro e w' ⟨rfl, sv', q1, q2, q4, q5⟩
    have hin : ∀ g, g ∈ (ms[i].p :: ob ms[i].sv) → g ∈ ms[i].blocks := fun g hg => by
      unfold Fm.blocks
      simp only [List.mem_cons, List.mem_append] at hg ⊢
      rcases hg with h | h
      · exact .inl h
      · exact .inr (.inr (.inl h))
    have hdw : w'.heap[d]? = some (.cells (dcs (preD s) mb) 56 (0, 0)) := (q4.blk d (lt_of_block hD.blk) (fun hg => hbl.2.1 (hin _ hg))).trans hD.blk
    obtain ⟨m', hm'⟩ : ∃ m' : Fm, m' = ⟨ms[i].p, ms[i].pv, sv', .slice none 0 0⟩ := ⟨_, rfl⟩
    have hmb : ∀ g, g ∈ m'.blocks → g ∈ ms[i].blocks ∨ W.heap.size ≤ g := fun g hg => by
      rw [hm'] at hg
      have hg' : g ∈ (ms[i].p :: (ob ms[i].pv ++ (ob sv' ++ []))) := hg
      simp only [List.mem_cons, List.mem_append, List.append_nil] at hg'
      rcases hg' with e | e | e
      · exact .inl (by simp [Fm.blocks, e])
      · exact .inl (by simp [Fm.blocks, e])
      · rcases (q5 g e).2 with h | h
        · exact .inl (by simp [Fm.blocks, h])
        · exact .inr h
    have hfp : ∀ g, g ∈ Fp d mb (dropM s ms s.files[i].no ++ [m']) → g ∈ Fp d mb ms ∨ W.heap.size ≤ g := fun g hg => by
      unfold Fp at hg ⊢
      rw [List.flatMap_append] at hg
      simp only [List.mem_cons, List.mem_append] at hg ⊢
      rcases hg with e | e | e | e
      · exact .inl (.inl e)
      · exact .inl (.inr (.inl e))
      · obtain ⟨x, hx, hgx⟩ := List.mem_flatMap.1 e
        unfold dropM at hx
        obtain ⟨y, hy, rfl⟩ := List.mem_map.1 hx
        exact .inl (.inr (.inr (List.mem_flatMap.2 ⟨y.2, (List.of_mem_zip (List.mem_filter.1 hy).1).2, hgx⟩)))
      · have e' : g ∈ m'.blocks := by simpa using e
        rcases hmb g e' with h | h
        · exact .inl (.inr (.inr (List.mem_flatMap.2 ⟨ms[i], List.getElem_mem hi', h⟩)))
        · exact .inr h
    have hs'f : s'.files = s.files := (step_ok h.ok hs).2.1
    have hs'o : s'.opn = s.opn := (step_ok h.ok hs).2.2.1
    have hok' : Dok s' := (step_ok h.ok hs).1
    refine ⟨rfl, (cell_of_heap hdw 2).trans rfl, frozen_of_heap hdw 2, mb, dropM s ms s.files[i].no ++ [m'], ?_, ?_, fun g hg => ?_⟩
    · have hpg' : pagesOf s' s.files[i] = pagesOf s s.files[i] := by unfold pagesOf; rw [hs'o]
      obtain ⟨f', hf'⟩ : ∃ f' : Df, f' = { s.files[i] with settled := pagesOf s s.files[i] } := ⟨_, rfl⟩
      obtain ⟨s1, hs1⟩ : ∃ s1 : Ds, s1 = { s' with files := s.files.set i f', opn := notNo s.opn s.files[i].no } := ⟨_, rfl⟩
      have hsy : syF s' s.files[i] = { s1 with files := (dropF s s.files[i].no).files ++ [f'] } := by
        rw [hs1, hf']
        unfold syF dropF
        rw [hpg', hs'f, hs'o]
      have hokF : Dok (syF s' s.files[i]) := syF_ok hok' (by rw [hs'f]; exact hfm)
      have hperm := sy_perm h.ok h.len hi f' m'
      have hpf : ((dropF s s.files[i].no).files ++ [f']).Perm (s.files.set i f') := by
        have := hperm.map (·.1)
        rw [zip_fst (by rw [List.length_append, List.length_append]; congr 1; rw [dropM]; exact len_filter (fun f : Df => f.no != s.files[i].no) s.files ms h.len), zip_fst (by rw [List.length_set, List.length_set]; exact h.len)] at this
        exact this
      have hok1 : Dok s1 := by
        have := hokF.perm (fs := s.files.set i f') (by rw [hsy]; exact hpf.symm)
        rw [hsy] at this
        rw [hs1] at this ⊢
        exact this
      have hoth : ∀ j (hj : j < s.files.length), j ≠ i → ofNo s1.opn s.files[j].no = ofNo s.opn s.files[j].no := fun j hj hne => by
        have hne2 : s.files[i].no ≠ s.files[j].no := fun e => hne (by
          have h7 := h.ok.nos
          have := (List.getElem_inj (xs := s.files.map Df.no) (i := i) (j := j) (h₀ := by simpa using hi) (h₁ := by simpa using hj) h7).1 (by simpa using e)
          exact this.symm)
        rw [hs1]
        exact of_not hne2
      have hset : ∀ g, g ≠ d → (w'.setCell ⟨d, 2, none⟩ (.int .i64 ((s.steps + 1 : Nat) : Int))).heap[g]? = w'.heap[g]? := fun g hg => Below.heap_setCell _ _ _ _ hg
      have hgd : ∀ g, g ∈ ms[i].blocks ∨ W.heap.size ≤ g → g ≠ d := fun g hg e => by
        subst e
        rcases hg with hg | hg
        · exact hbl.2.1 hg
        · have := lt_of_block hD.blk
          omega
      have hDv1 : Dv (w'.setCell ⟨d, 2, none⟩ (.int .i64 ((s.steps + 1 : Nat) : Int))) d s1 mb (ms.set i m') := by
        refine hD.upd1 (i := i) hi (f' := f') (m' := m') (by rw [hs1]; rfl) (by rw [hf']; rfl) (by rw [hm']) (fun j hj hne => hoth j hj hne) ?_ ?_ (fun g hg hg2 hgd2 => ?_) hmb ?_ hok1 ⟨?_, ?_, ?_⟩
        · have e1 : ofNo s1.opn f'.no = [] := by rw [hs1, hf']; exact of_not_same _ _
          have e2 : pagesOf s1 f' = pagesOf s s.files[i] := by
            unfold pagesOf
            rw [e1, hf']
            rfl
          have e3 : f'.settled = pagesOf s s.files[i] := by rw [hf']
          rw [e1, e2, e3, hm']
          refine ⟨(hset _ (hgd _ (.inl (by simp [Fm.blocks])))).trans q1, ownsRow_same hfa.pg (fun g hg => ?_), ownsRow_same q2 (fun g hg => hset g (hgd g ?_)), World.ownsRow_nil _ _ _ _⟩
          · have hgp : g ∈ ob ms[i].pv := mem_ob.2 hg
            have hgb : g ∈ ms[i].blocks := by simp [Fm.blocks, hgp]
            rw [hset g (hgd g (.inl hgb))]
            refine q4.blk g (hltm g hgb) (fun hm => ?_)
            rcases List.mem_cons.1 hm with e | e
            · subst e
              exact a1 (by simp [hgp])
            · exact a5 g hgp g (by simp [e]) rfl
          · rcases (q5 g (mem_ob.2 hg)).2 with h | h
            · exact .inl (by simp [Fm.blocks, h])
            · exact .inr h
        · rw [heap_setCell_same hdw 2 _, hs1]
          have := step_is hs
          show some (Obj.cells _ 56 (0, 0)) = some (Obj.cells (dcs { s' with files := _, opn := _ } mb) 56 (0, 0))
          rw [this]
          rfl
        · rw [hset g hgd2]
          exact q4.blk g (hD.lt hg) (fun hm => hg2 (hin g hm))
        · rw [hm']
          show (ms[i].p :: (ob ms[i].pv ++ (ob sv' ++ []))).Nodup
          have hone : ∀ v : Value, (ob v).Nodup := fun v => by unfold ob; cases v.ownBlock <;> simp
          rw [List.append_nil, List.nodup_cons, List.nodup_append]
          refine ⟨fun hm => ?_, hone _, hone _, fun a ha c hc e => ?_⟩
          · rcases List.mem_append.1 hm with e | e
            · exact a1 (by simp [e])
            · exact (q5 _ e).1 rfl
          · subst e
            rcases (q5 a hc).2 with h | h
            · exact a5 a ha a (by simp [h]) rfl
            · have := hltm a (by simp [Fm.blocks, ha])
              omega
        · rw [hs1]
          show s'.steps < 1000000
          have : s'.steps = s.steps + 1 := (step_ok h.ok hs).2.2.2.1
          omega
        · have := hD.small.2.1
          rw [hs1, step_is hs]
          exact this
        · have := hD.small.2.2
          rw [hs1, step_is hs]
          exact this
      rw [hsy]
      refine hDv1.perm (by rw [List.length_append, List.length_append]; congr 1; rw [dropM]; exact len_filter (fun f : Df => f.no != s.files[i].no) s.files ms h.len) ?_ (by rw [← hsy]; exact hokF)
      rw [hs1]
      exact hperm
    · refine Kf.trans (hK.more (fun g hg => by simp at hg; subst hg; simp [Fp])) ((q4.more (fun g hg => hbl.2.2 g (hin g hg))).trans (Kf.set (F := Fp d mb ms) w' (by simp [Fp]) _ _) (fun g hg => .inl hg)) (fun g hg => .inl hg)
    · rcases hfp g hg with h | h
      · exact .inl h
      · exact .inr (Nat.le_trans hK.size h)
end Go.Proofs.YtojnembakhhgiaaGreat

/- Sync: the call. -/
namespace Go.Proofs.YtojnembakhhgiaaGreat
open Go.RowKit

set_option maxRecDepth 100000 in
set_option maxHeartbeats 4000000 in
theorem sync_any (w : World) (d : Nat) (s : Ds) (mb : Option Nat) (ms : List Fm) (h : Dv w d s mb ms) (hst : s.steps + 1 < 1000000) (hq : usedN s ≤ s.quota) (t : Bs) (htl : t.length ≤ 140737488355328) :
    Calls Tryz.prog 23 #[.pointer (some ⟨d, 0, none⟩), St t] w fun e w' => e = .returned (.int .i64 ((syncD s t).1 : Int)) ∧ Left w d mb ms (syncD s t).2 w' := by
  have HFI := hid (find_any w d s mb ms h t htl)
  obtain ⟨R, hR⟩ : ∃ R, R = syncD s t := ⟨_, rfl⟩
  rw [← hR]
  have HR := hid hR
  have HST : Hid (Left w d mb ms s w) := hid (Left.stay h (Below.refl _ _))
  clear hR
  cases ho : s.off with
  | true =>
    rw [ho] at HFI
    have HRE : Hid (R = (7, s)) := hid (by rw [HR.out]; unfold syncD; rw [if_pos ho])
    clear h
    go_enter Tryz.func23, Tryz.ntmps23
    go_wp2_with fail
    refine HFI.out.mono ?_
    rintro e w1 ⟨rfl, hw⟩
    subst hw
    go_wp2_with fail
    go_ret
    rw [HRE.out]
    exact ⟨rfl, HST.out⟩
  | false =>
    rw [ho] at HFI
    have hR1 : R = match findF s t with
      | none => (91, s)
      | some f => doD s fun s' => syF s' f := by
      rw [HR.out]
      unfold syncD
      rw [if_neg (by rw [ho]; decide)]
      cases findF s t <;> rfl
    rcases find_at (s := s) h.len (t := t) with ⟨e1, e2⟩ | ⟨f, m, e0, e1, e2, e3⟩
    · rw [e1] at HFI
      rw [e2] at hR1
      have HRE : Hid (R = (91, s)) := hid hR1
      clear h hR1 e1 e2
      go_enter Tryz.func23, Tryz.ntmps23
      go_wp2_with fail
      refine HFI.out.mono ?_
      rintro e w1 ⟨rfl, hw⟩
      subst hw
      go_wp2_with fail
      go_ret
      rw [HRE.out]
      exact ⟨rfl, HST.out⟩
    · rw [e3] at HFI
      rw [e2] at hR1
      have HRE : Hid (R = doD s fun s' => syF s' f) := hid hR1
      obtain ⟨ix, hi, hi', ef, em⟩ := at_index e0
      have HSP : Hid (Calls Tryz.prog 44 #[.pointer (some ⟨d, 0, none⟩), .func (.func 53) #[.pointer (some ⟨m.p, 0, none⟩)] #[]] w fun e w' => e = .returned (.int .i64 ((doD s fun s' => syF s' f).1 : Int)) ∧ Left w d mb ms (doD s fun s' => syF s' f).2 w') := hid (by
        subst ef em
        exact sync_step w d s mb ms h hst hq ix hi hi')
      clear h hR1 e0 e1 e2 e3 ef em hi hi'
      generalize m.p = p at *
      go_enter Tryz.func23, Tryz.ntmps23
      go_wp2_with fail
      refine HFI.out.mono ?_
      rintro e w1 ⟨rfl, hw⟩
      subst hw
      go_wp2_with fail
      refine HSP.out.mono ?_
      rintro e w' ⟨rfl, hL⟩
      have HL := hid hL
      clear hL
      go_wp2_with fail
      go_ret
      rw [HRE.out]
      exact ⟨rfl, HL.out⟩
end Go.Proofs.YtojnembakhhgiaaGreat
