import Derived.Test.YtojnembakhhgiaaGreatCreAll
/- Remove. -/
namespace Go.Proofs.YtojnembakhhgiaaGreat
open Go.RowKit

theorem zip_filter {α β : Type} (q : α → Bool) : ∀ (l : List α) (k : List β), k.length = l.length → (l.filter q).zip (((l.zip k).filter fun x => q x.1).map (·.2)) = (l.zip k).filter fun x => q x.1
  | [], _, _ => rfl
  | a :: l, [], h => by simp at h
  | a :: l, b :: k, h => by
    have ih := zip_filter q l k (by simpa using h)
    rw [List.zip_cons_cons, List.filter_cons, List.filter_cons]
    simp only
    cases hq : q a with
    | true =>
      simp only [if_true, List.map_cons, List.zip_cons_cons, ih]
    | false =>
      simp only [Bool.false_eq_true, if_false, ih]
theorem len_filter {α β : Type} (q : α → Bool) : ∀ (l : List α) (k : List β), k.length = l.length → (((l.zip k).filter fun x => q x.1).map (·.2)).length = (l.filter q).length
  | [], _, _ => by simp
  | a :: l, [], h => by simp at h
  | a :: l, b :: k, h => by
    have ih := len_filter q l k (by simpa using h)
    rw [List.zip_cons_cons, List.filter_cons, List.filter_cons]
    simp only
    cases hq : q a with
    | true => simpa using ih
    | false => simpa using ih
theorem find_congr {α : Type} {p q : α → Bool} : ∀ {l : List α}, (∀ a ∈ l, p a = q a) → l.find? p = l.find? q
  | [], _ => rfl
  | a :: l, h => by
    rw [List.find?_cons, List.find?_cons, h a (by simp), find_congr (l := l) (fun b hb => h b (by simp [hb]))]
/-- what lies there, file by file -/
theorem Dv.filz {w : World} {d : Nat} {s : Ds} {mb : Option Nat} {ms : List Fm} (h : Dv w d s mb ms) : ∀ x ∈ s.files.zip ms, FileAt w (pagesOf s x.1) x.1.settled (ofNo s.opn x.1.no) x.2 := fun x hx => by
  obtain ⟨i, hi, rfl⟩ := List.getElem_of_mem hx
  rw [List.length_zip] at hi
  rw [List.getElem_zip]
  exact h.fil i (by omega) (by omega)
theorem fil_of {w : World} {s : Ds} {ms : List Fm} (h : ∀ x ∈ s.files.zip ms, FileAt w (pagesOf s x.1) x.1.settled (ofNo s.opn x.1.no) x.2) : ∀ i (hi : i < s.files.length) (hi' : i < ms.length), FileAt w (pagesOf s s.files[i]) s.files[i].settled (ofNo s.opn s.files[i].no) ms[i] := fun i hi hi' => by
  have := h (s.files[i], ms[i]) (by
    have hz : i < (s.files.zip ms).length := by rw [List.length_zip]; omega
    have := List.getElem_mem hz
    rw [List.getElem_zip] at this
    exact this)
  exact this
def dropM (s : Ds) (ms : List Fm) (no : Nat) : List Fm := ((s.files.zip ms).filter fun x => x.1.no != no).map (·.2)
theorem drop_zip {s : Ds} {ms : List Fm} (hl : ms.length = s.files.length) (no : Nat) : (dropF s no).files.zip (dropM s ms no) = (s.files.zip ms).filter fun x => x.1.no != no := zip_filter (fun f : Df => f.no != no) s.files ms hl
theorem names_drop {s : Ds} {ms : List Fm} (hl : ms.length = s.files.length) (hok : Dok s) {f : Df} (hf : f ∈ s.files) : namesOf (dropF s f.no) (dropM s ms f.no) = ndel (namesOf s ms) f.name := by
  funext u
  unfold namesOf ndel
  rw [drop_zip hl, List.find?_filter]
  by_cases e : u = f.name
  · rw [if_pos e]
    have : (s.files.zip ms).find? (fun a => decide ((a.1.no != f.no) = true ∧ (a.1.name == u) = true)) = none := by
      rw [List.find?_eq_none]
      intro x hx
      have hm := (List.of_mem_zip hx).1
      by_cases e2 : x.1.name = u
      · have := name_uniq hok hm hf (e2.trans e)
        simp [this]
      · simp [e2]
    rw [this]
    rfl
  · rw [if_neg e]
    congr 1
    apply find_congr
    intro x hx
    have hm := (List.of_mem_zip hx).1
    by_cases e2 : x.1.name = u
    · have : x.1.no ≠ f.no := fun e3 => e (by rw [← e2, no_uniq hok hm hf e3])
      simp [e2, this]
    · simp [e2]
theorem flat_sub {α β : Type} {f : α → List β} {l k : List α} (h : l.Sublist k) : (l.flatMap f).Sublist (k.flatMap f) := by
  induction h with
  | slnil => exact List.Sublist.slnil
  | cons a _ ih => rw [List.flatMap_cons]; exact List.Sublist.trans ih (List.sublist_append_right _ _)
  | cons_cons a _ ih => rw [List.flatMap_cons, List.flatMap_cons]; exact (List.Sublist.refl _).append ih
theorem Dv.drop {W w' : World} {d : Nat} {s : Ds} {b : Nat} {ms : List Fm} (h : Dv W d s (some b) ms) {f : Df} (hf : f ∈ s.files) (hblk : w'.heap[d]? = W.heap[d]?) (hom : Om w' b (ndel (namesOf s ms) f.name)) (hold : ∀ g ∈ ms.flatMap Fm.blocks, w'.heap[g]? = W.heap[g]?) :
    Dv w' d (dropF s f.no) (some b) (dropM s ms f.no) ∧ ∀ g ∈ Fp d (some b) (dropM s ms f.no), g ∈ Fp d (some b) ms := by
  have hsub : (dropM s ms f.no).Sublist ms := by
    unfold dropM
    have h1 : ((s.files.zip ms).filter fun x => x.1.no != f.no).Sublist (s.files.zip ms) := List.filter_sublist
    have h2 := h1.map (fun x : Df × Fm => x.2)
    rw [List.map_snd_zip (by rw [h.len]; exact Nat.le_refl _)] at h2
    exact h2
  have hbs : ((dropM s ms f.no).flatMap Fm.blocks).Sublist (ms.flatMap Fm.blocks) := by
    exact flat_sub hsub
  refine ⟨⟨hblk.trans h.blk, len_filter (fun x : Df => x.no != f.no) s.files ms h.len, fil_of (fun x hx => ?_), fun b' e => ?_, fun e => (by cases e), ?_, drop_ok h.ok _, h.small⟩, fun g hg => ?_⟩
  · rw [drop_zip h.len] at hx
    obtain ⟨hx1, hx2⟩ := List.mem_filter.1 hx
    have hne : f.no ≠ x.1.no := fun e => by simp [e] at hx2
    have h1 := (h.filz x hx1).same (w' := w') (fun g hg => hold g (List.mem_flatMap.2 ⟨x.2, (List.of_mem_zip hx1).2, hg⟩))
    have e1 : ofNo (dropF s f.no).opn x.1.no = ofNo s.opn x.1.no := of_not hne
    have e2 : pagesOf (dropF s f.no) x.1 = pagesOf s x.1 := by unfold pagesOf; rw [e1]
    rw [e1, e2]
    exact h1
  · cases e
    rw [names_drop h.len h.ok hf]
    exact hom
  · exact h.apart.sublist (List.Sublist.cons_cons _ (List.Sublist.cons_cons _ hbs))
  · unfold Fp at hg ⊢
    simp only [List.mem_cons, List.mem_append] at hg ⊢
    rcases hg with e | e | e
    · exact .inl e
    · exact .inr (.inl e)
    · exact .inr (.inr (hbs.subset e))
end Go.Proofs.YtojnembakhhgiaaGreat

/- Remove: the walk. -/
namespace Go.Proofs.YtojnembakhhgiaaGreat
open Go.RowKit

/-- delete, its run known, as a step of a region that draws -/
theorem step_del_run {P : Program} {ops : Array Oper} {o : Oper} {a : Act} {w : World} {K : Act → World → Prop} {Q : Exit → Act → World → Prop} {E : Prop} (hg : o.guard = none) (m x : Operand) (t k : TypeId)
    (hop : o.op = Op.call { callee := Callee.builtin Builtin.delete, args := #[m, x], argTypes := #[t, k] }) (v xv : Value) (w' : World) (hm : a.eval m = v) (hx : a.eval x = xv)
    (hrun : ∀ ty, (Builtin.delete_ #[t, k] ty #[v, xv]).run P w = .ok (.tuple #[]) w') (hK : K (a.put o.dst (.tuple #[])) w') :
    if Region.wanted o (yielded ops a.tmps) = true then Oper.wp P o a w K Q else E := by
  rw [if_pos (by simp [Region.wanted, hg])]
  unfold Oper.wp
  simp [execOp, hop, resolve, invoke, builtin, hm, hx, hrun, Result.andThen]
  exact hK
theorem find_mb {w : World} {d : Nat} {s : Ds} {mb : Option Nat} {ms : List Fm} (h : Dv w d s mb ms) {f : Df} (hf : f ∈ s.files) : ∃ b, mb = some b := by
  cases mb with
  | some b => exact ⟨b, rfl⟩
  | none => rw [h.nomap rfl] at hf; cases hf
set_option maxRecDepth 100000 in
set_option maxHeartbeats 4000000 in
theorem remove1_any (W : World) (d : Nat) (s : Ds) (mb : Option Nat) (ms : List Fm) (h : Dv W d s mb ms) (x y : Nat) (f : Df) (hf : f ∈ s.files) (hx : W.cell? ⟨x, 0, none⟩ = some (.pointer (some ⟨d, 0, none⟩))) (hy : W.cell? ⟨y, 0, none⟩ = some (St f.name)) (hxF : x ∉ Fp d mb ms) (hyF : y ∉ Fp d mb ms) :
    Calls Tryz.prog 54 #[.pointer (some ⟨x, 0, none⟩), .pointer (some ⟨y, 0, none⟩)] W fun e w' => e = .returned (.tuple #[]) ∧ Left W d mb ms (dropF s f.no) w' := by
  obtain ⟨b, rfl⟩ := find_mb h hf
  have htl := (named_len (h.ok.lens f hf)).2
  obtain ⟨w1, hrun0, hom, hg⟩ := ((h.map b rfl).same (w' := W.drew) rfl).drop f.name (by omega) 0
  have hbd : d ≠ b := fun e => (List.nodup_cons.1 h.apart).1 (by rw [e]; simp)
  have hbm : b ∉ ms.flatMap Fm.blocks := (List.nodup_cons.1 (show (b :: ms.flatMap Fm.blocks).Nodup from (List.nodup_cons.1 h.apart).2)).1
  have hblk : ∀ g, g < W.heap.size → g ≠ b → w1.heap[g]? = W.heap[g]? := fun g hl hne => hg.block g hl (fun e => hne (by cases e; rfl))
  have hd : d < W.heap.size := lt_of_block h.blk
  obtain ⟨h1, h2⟩ := h.drop hf (hblk d hd hbd) hom (fun g hgm => hblk g (h.lt (by simp only [Fp, List.mem_cons, List.mem_append]; exact .inr (.inr hgm))) (fun e => hbm (e ▸ hgm)))
  have hk : Kf (Fp d (some b) ms) W w1 := ⟨hg.os, hg.tape, hg.output, hg.size, fun g hl hF => hblk g hl (fun e => hF (by simp [Fp, e]))⟩
  have HP : Hid (Left W d (some b) ms (dropF s f.no) w1) := hid ⟨some b, dropM s ms f.no, h1, hk, fun g hgm => .inl (h2 g hgm)⟩
  have hxb : x ≠ b := fun e => hxF (by simp [Fp, e])
  have hyb : y ≠ b := fun e => hyF (by simp [Fp, e])
  have c1 : W.cell? ⟨d, 1, none⟩ = some (.map (some b)) := (cell_of_heap h.blk 1).trans rfl
  have e1 : w1.cell? ⟨d, 1, none⟩ = some (.map (some b)) := (World.cell?_of_block (hblk d hd hbd)).trans c1
  have ex : w1.cell? ⟨x, 0, none⟩ = some (.pointer (some ⟨d, 0, none⟩)) := (World.cell?_of_block (hblk x (World.block_lt_of_cell? W ⟨x, 0, none⟩ hx) hxb)).trans hx
  have ey : w1.cell? ⟨y, 0, none⟩ = some (St f.name) := (World.cell?_of_block (hblk y (World.block_lt_of_cell? W ⟨y, 0, none⟩ hy) hyb)).trans hy
  have HRUN : Hid (∀ ty, (Builtin.delete_ #[52, 9] ty #[.map (some b), St f.name]).run Tryz.prog W.drew = .ok (.tuple #[]) w1) := hid (fun ty => hrun0)
  clear h hf hom hg hbd hbm hblk hd h1 h2 hk hxb hyb htl hrun0 hxF hyF
  generalize f.name = t at *
  generalize dropF s f.no = s' at *
  go_enter Tryz.func54, Tryz.ntmps54
  go_wp2_with fail
  go_region_held3 (fun w' => w'.cell? ⟨d, 1, none⟩ = some (.map (some b)) ∧ w'.cell? ⟨x, 0, none⟩ = some (.pointer (some ⟨d, 0, none⟩)) ∧ w'.cell? ⟨y, 0, none⟩ = some (St t)) (go_keep) (first | (refine step_del_run rfl (.tmp 5) (.tmp 6) 52 9 rfl (.map (some b)) (St t) w1 rfl rfl HRUN.out ?_))
  refine bodyPost_end (results_none rfl _ _ _) rfl ?_
  exact ⟨rfl, HP.out⟩
end Go.Proofs.YtojnembakhhgiaaGreat

/- A step by a function that is handed on; Remove: the call. -/
namespace Go.Proofs.YtojnembakhhgiaaGreat
open Go.RowKit

theorem do_step (w0 : World) (d : Nat) (s : Ds) (mb : Option Nat) (ms : List Fm) (h : Dv w0 d s mb ms) (hst : s.steps + 1 < 1000000) (k : Nat) (caps : Array Value) (eg : ∀ args w, (callFunc k args).run Tryz.prog w = .ok (.enter k args) w) (F : Ds → Ds) (hF : F { preD s with steps := s.steps + 1 } = { F (preD s) with steps := s.steps + 1 }) (hFs : (F (preD s)).steps = s.steps)
    (HC : ∀ W, Dv W d (preD s) mb ms → Kf [d] w0 W → Calls Tryz.prog k caps W fun e w' => e = .returned (.tuple #[]) ∧ Left W d mb ms (F (preD s)) w') :
    Calls Tryz.prog 44 #[.pointer (some ⟨d, 0, none⟩), .func (.func k) #[] caps] w0 fun e w' => e = .returned (.int .i64 ((doD s F).1 : Int)) ∧ Left w0 d mb ms (doD s F).2 w' := by
  unfold doD
  cases hs : stepD s with
  | none =>
    refine (step_crash w0 d s mb ms h hs _).mono ?_
    rintro e w' ⟨rfl, h1, h2⟩
    exact ⟨rfl, mb, ms, h1, h2.more (fun g hg => by simp at hg; subst hg; simp [Fp]), fun g hg => .inl hg⟩
  | some s' =>
    simp only
    refine step_go w0 d s s' mb ms h hs k caps eg (Left w0 d mb ms (F s')) ?_
    intro W hD hK
    refine (HC W hD hK).mono ?_
    rintro e w' ⟨rfl, mb', ms', h1, h2, h3⟩
    have e1 : F s' = { F (preD s) with steps := s.steps + 1 } := by rw [step_is hs]; exact hF
    refine ⟨rfl, ?_, frozen_of_heap h1.blk 2, mb', ms', ?_, ?_, fun g hg => ?_⟩
    · rw [cell_of_heap h1.blk 2, ← hFs]
      rfl
    · rw [e1]
      exact h1.tick (by rw [hFs]) hst
    · refine Kf.trans (hK.more (fun g hg => by simp at hg; subst hg; simp [Fp])) (h2.trans (Kf.set (F := Fp d mb ms) w' (by simp [Fp]) _ _) (fun g hg => .inl hg)) (fun g hg => .inl hg)
    · rcases h3 g hg with h4 | h4
      · exact .inl h4
      · exact .inr (Nat.le_trans hK.size h4)
theorem cell_kf {F : List Nat} {w W : World} (hK : Kf F w W) {g : Nat} (hg : g ∉ F) {u : Value} (hu : w.cell? ⟨g, 0, none⟩ = some u) : W.cell? ⟨g, 0, none⟩ = some u := by
  rw [← hu]
  exact World.cell?_of_block (hK.blk g (World.block_lt_of_cell? w ⟨g, 0, none⟩ hu) hg)
theorem Left.of {w w0 W : World} {d : Nat} {s' : Ds} {mb : Option Nat} {ms : List Fm} (hb : Below w.heap.size w w0) (hL : Left w0 d mb ms s' W) : Left w d mb ms s' W := by
  obtain ⟨mb', ms', h1, h2, h3⟩ := hL
  exact ⟨mb', ms', h1, (below_kf hb).trans h2 (fun g hg => .inl hg), fun g hg => by
    rcases h3 g hg with h4 | h4
    · exact .inl h4
    · exact .inr (Nat.le_trans hb.size h4)⟩
/-- where a file lies -/
theorem find_at {s : Ds} {ms : List Fm} (hl : ms.length = s.files.length) {t : Bs} : (namesOf s ms t = none ∧ findF s t = none) ∨ ∃ f m, (f, m) ∈ s.files.zip ms ∧ f.name = t ∧ findF s t = some f ∧ namesOf s ms t = some m.p := by
  have h1 : ∀ (l : List Df) (k : List Fm), k.length = l.length → (((l.zip k).find? fun x => x.1.name == t) = none ∧ (l.find? fun f => f.name == t) = none) ∨ ∃ f m, (f, m) ∈ l.zip k ∧ f.name = t ∧ (l.find? fun f => f.name == t) = some f ∧ ((l.zip k).find? fun x => x.1.name == t) = some (f, m) := by
    intro l
    induction l with
    | nil => intro k _; exact .inl ⟨rfl, rfl⟩
    | cons a l ih =>
      intro k hk
      cases k with
      | nil => simp at hk
      | cons b k =>
        rw [List.zip_cons_cons, List.find?_cons, List.find?_cons]
        simp only
        by_cases e : a.name = t
        · rw [show (a.name == t) = true by simpa using e]
          exact .inr ⟨a, b, by simp, e, rfl, rfl⟩
        · rw [show (a.name == t) = false by simpa using e]
          rcases ih k (by simpa using hk) with ⟨h2, h3⟩ | ⟨f, m, h2, h3, h4, h5⟩
          · exact .inl ⟨h2, h3⟩
          · exact .inr ⟨f, m, by simp [h2], h3, h4, h5⟩
  unfold namesOf findF
  rcases h1 s.files ms hl with ⟨h2, h3⟩ | ⟨f, m, h2, h3, h4, h5⟩
  · exact .inl ⟨by rw [h2]; rfl, h3⟩
  · exact .inr ⟨f, m, h2, h3, h4, by rw [h5]; rfl⟩
theorem eg46 : ∀ args w, (callFunc 54 args).run Tryz.prog w = .ok (.enter 54 args) w := Go.Proofs.enters_of Tryz.func54 (by kernel_rfl) rfl
set_option maxRecDepth 100000 in
set_option maxHeartbeats 8000000 in
theorem remove_any (w : World) (d : Nat) (s : Ds) (mb : Option Nat) (ms : List Fm) (h : Dv w d s mb ms) (hst : s.steps + 1 < 1000000) (t : Bs) (htl : t.length ≤ 140737488355328) :
    Calls Tryz.prog 24 #[.pointer (some ⟨d, 0, none⟩), St t] w fun e w' => e = .returned (.int .i64 ((removeD s t).1 : Int)) ∧ Left w d mb ms (removeD s t).2 w' := by
  obtain ⟨w0, hw0⟩ : ∃ w0, w0 = (w.alloc (.cells #[.pointer (some ⟨d, 0, none⟩)] 24)).alloc (.cells #[St t] 9) := ⟨_, rfl⟩
  have hb0 : Below w.heap.size w w0 := hw0 ▸ ((Below.refl _ _).alloc (Nat.le_refl _) _).alloc (by simp) _
  have hx0 : w0.heap[w.heap.size]? = some (.cells #[.pointer (some ⟨d, 0, none⟩)] 24 (0, 0)) := by
    rw [hw0, Below.heap_alloc _ _ _ (by simp)]
    exact heap_alloc_new _ _
  have hy0 : w0.heap[w.heap.size + 1]? = some (.cells #[St t] 9 (0, 0)) := by
    have := heap_alloc_new (w.alloc (.cells #[.pointer (some ⟨d, 0, none⟩)] 24)) (.cells #[St t] 9)
    rw [hw0]
    simpa using this
  have hD0 := h.low hb0
  have HFI := hid (find_any w0 d s mb ms hD0 t htl)
  have HST : Hid (Left w d mb ms s w0) := hid (Left.stay h hb0)
  have cx : w0.cell? ⟨w.heap.size, 0, none⟩ = some (.pointer (some ⟨d, 0, none⟩)) := (cell_of_heap hx0 0).trans rfl
  have cy : w0.cell? ⟨w.heap.size + 1, 0, none⟩ = some (St t) := (cell_of_heap hy0 0).trans rfl
  have hFl : ∀ g, w.heap.size ≤ g → g ∉ Fp d mb ms := fun g hg hm => by have := h.lt hm; omega
  obtain ⟨R, hR⟩ : ∃ R, R = removeD s t := ⟨_, rfl⟩
  rw [← hR]
  have HR := hid hR
  clear hR
  cases ho : s.off with
  | true =>
    rw [ho] at HFI
    have HRE : Hid (R = (7, s)) := hid (by rw [HR.out]; unfold removeD; rw [if_pos ho])
    clear hx0 hy0 hD0 hb0 h
    go_enter Tryz.func24, Tryz.ntmps24
    go_wp2_with fail
    rw [← hw0]
    clear hw0
    refine HFI.out.mono ?_
    rintro e w1 ⟨rfl, hw⟩
    subst hw
    go_wp2_with fail
    go_ret
    rw [HRE.out]
    exact ⟨rfl, HST.out⟩
  | false =>
    rw [ho] at HFI
    have hR1 : R = match findF s t with
      | none => (91, s)
      | some f => doD s fun s => dropF s f.no := by
      rw [HR.out]
      unfold removeD
      rw [if_neg (by rw [ho]; decide)]
      cases findF s t <;> rfl
    rcases find_at (s := s) h.len (t := t) with ⟨e1, e2⟩ | ⟨f, m, e0, e1, e2, e3⟩
    · rw [e1] at HFI
      rw [e2] at hR1
      have HRE : Hid (R = (91, s)) := hid hR1
      clear hx0 hy0 hD0 hb0 h hR1 e1 e2
      go_enter Tryz.func24, Tryz.ntmps24
      go_wp2_with fail
      rw [← hw0]
      clear hw0
      refine HFI.out.mono ?_
      rintro e w1 ⟨rfl, hw⟩
      subst hw
      go_wp2_with fail
      go_ret
      rw [HRE.out]
      exact ⟨rfl, HST.out⟩
    · rw [e3] at HFI
      rw [e2] at hR1
      have HRE : Hid (R = doD s fun s => dropF s f.no) := hid hR1
      have hfm := (List.of_mem_zip e0).1
      have HC := hid (do_step w0 d s mb ms hD0 hst 54 #[.pointer (some ⟨w.heap.size, 0, none⟩), .pointer (some ⟨w.heap.size + 1, 0, none⟩)] eg46 (fun s => dropF s f.no) rfl rfl (fun W hDW hK => by
        have hsz : w.heap.size ≠ d ∧ w.heap.size + 1 ≠ d := by have := lt_of_block h.blk; omega
        exact remove1_any W d (preD s) mb ms hDW _ _ f hfm (cell_kf hK (by simpa using hsz.1) cx) (cell_kf hK (by simpa using hsz.2) (by rw [e1]; exact cy)) (hFl _ (by omega)) (hFl _ (by omega))))
      have HB := hid hb0
      clear hx0 hy0 hD0 hb0 h hR1 e0 e1 e2 e3 hfm hFl
      go_enter Tryz.func24, Tryz.ntmps24
      go_wp2_with fail
      rw [← hw0]
      clear hw0
      refine HFI.out.mono ?_
      rintro e w1 ⟨rfl, hw⟩
      subst hw
      go_wp2_with fail
      refine HC.out.mono ?_
      rintro e w' ⟨rfl, hL⟩
      have HL := hid (Left.of HB.out hL)
      clear hL
      go_wp2_with fail
      go_ret
      rw [HRE.out]
      exact ⟨rfl, HL.out⟩
end Go.Proofs.YtojnembakhhgiaaGreat
