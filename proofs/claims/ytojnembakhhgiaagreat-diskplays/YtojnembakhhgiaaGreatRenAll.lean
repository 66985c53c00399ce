import Derived.Test.YtojnembakhhgiaaGreatLen
/- Rename. -/
namespace Go.Proofs.YtojnembakhhgiaaGreat
open Go.RowKit

theorem zip_uniq : ∀ {l : List Df} {k : List Fm}, (l.map Df.no).Nodup → ∀ {f g : Df} {m n : Fm}, (f, m) ∈ l.zip k → (g, n) ∈ l.zip k → f.no = g.no → m = n
  | [], _, _, _, _, _, _, h, _, _ => by simp at h
  | a :: l, [], _, _, _, _, _, h, _, _ => by simp at h
  | a :: l, b :: k, hd, f, g, m, n, h1, h2, e => by
    rw [List.map_cons, List.nodup_cons] at hd
    rw [List.zip_cons_cons] at h1 h2
    rcases List.mem_cons.1 h1 with h1 | h1
    · rcases List.mem_cons.1 h2 with h2 | h2
      · cases h1; cases h2; rfl
      · cases h1
        exact absurd (List.mem_map.2 ⟨g, (List.of_mem_zip h2).1, e.symm⟩) hd.1
    · rcases List.mem_cons.1 h2 with h2 | h2
      · cases h2
        exact absurd (List.mem_map.2 ⟨f, (List.of_mem_zip h1).1, e⟩) hd.1
      · exact zip_uniq hd.2 h1 h2 e
/-- a file under another name -/
def ren (no : Nat) (to : Bs) (f : Df) : Df := if f.no == no then { f with name := to } else f
theorem ren_zip (no : Nat) (to : Bs) : ∀ (l : List Df) (k : List Fm), (l.map (ren no to)).zip k = (l.zip k).map fun x => (ren no to x.1, x.2)
  | [], _ => rfl
  | a :: l, [] => rfl
  | a :: l, b :: k => by rw [List.map_cons, List.zip_cons_cons, List.zip_cons_cons, List.map_cons, ren_zip no to l k]
theorem names_rename {s : Ds} {ms : List Fm} (hok : Dok s) {f : Df} {m : Fm} (hf : (f, m) ∈ s.files.zip ms) {to : Bs} (hno : ∀ g ∈ s.files, g.name ≠ to) : namesOf (renamed s f.no to) ms = nput (ndel (namesOf s ms) f.name) to m.p := by
  funext u
  have hfm := (List.of_mem_zip hf).1
  unfold namesOf nput ndel
  show ((((s.files.map (ren f.no to)).zip ms)).find? fun x => x.1.name == u).map (fun x => x.2.p) = _
  rw [ren_zip, List.find?_map, Option.map_map]
  by_cases e : u = to
  · rw [if_pos e]
    subst e
    have hfd : ∃ x, (s.files.zip ms).find? ((fun x : Df × Fm => x.1.name == u) ∘ fun x => (ren f.no u x.1, x.2)) = some x := by
      apply Option.isSome_iff_exists.1
      rw [List.find?_isSome]
      exact ⟨(f, m), hf, by simp [ren]⟩
    obtain ⟨x, hx⟩ := hfd
    have hxm := List.mem_of_find?_eq_some hx
    have hxp := List.find?_some hx
    have hxn : x.1.no = f.no := by
      apply Classical.byContradiction
      intro hne
      simp [ren, hne] at hxp
      exact hno x.1 (List.of_mem_zip hxm).1 hxp
    have := zip_uniq hok.nos (show (x.1, x.2) ∈ s.files.zip ms from hxm) hf hxn
    rw [hx]
    simp [this]
  · rw [if_neg e]
    by_cases e2 : u = f.name
    · rw [if_pos e2]
      have : (s.files.zip ms).find? ((fun x : Df × Fm => x.1.name == u) ∘ fun x => (ren f.no to x.1, x.2)) = none := by
        rw [List.find?_eq_none]
        intro x hx
        by_cases hn : x.1.no = f.no
        · simp [ren, hn]
          exact fun h => e h.symm
        · have : x.1.name ≠ u := fun h => hn (congrArg Df.no (name_uniq hok (List.of_mem_zip hx).1 hfm (h.trans e2)))
          simp [ren, hn, this]
      rw [this]
      rfl
    · rw [if_neg e2]
      have : (s.files.zip ms).find? ((fun x : Df × Fm => x.1.name == u) ∘ fun x => (ren f.no to x.1, x.2)) = (s.files.zip ms).find? (fun x => x.1.name == u) := by
        apply find_congr
        intro x hx
        by_cases hn : x.1.no = f.no
        · have hxf : x.1.name ≠ u := by
            have := no_uniq hok (List.of_mem_zip hx).1 hfm hn
            rw [this]
            exact fun h => e2 h.symm
          have h1 : (to == u) = false := by simpa using fun h => e (Eq.symm h)
          have h2 : (x.1.name == u) = false := by simpa using hxf
          show ((ren f.no to x.1).name == u) = (x.1.name == u)
          rw [show (ren f.no to x.1).name = to by simp [ren, hn], h1, h2]
        · simp [ren, hn]
      rw [this]
      rfl
/-- the disk with a file under another name, from what lies there -/
theorem Dv.rename {W w' : World} {d : Nat} {s : Ds} {b : Nat} {ms : List Fm} (h : Dv W d s (some b) ms) {f : Df} {m : Fm} (hf : (f, m) ∈ s.files.zip ms) {to : Bs} (ht : named to = true) (hno : ∀ g ∈ s.files, g.name ≠ to) (hblk : w'.heap[d]? = W.heap[d]?) (hom : Om w' b (nput (ndel (namesOf s ms) f.name) to m.p)) (hold : ∀ g ∈ ms.flatMap Fm.blocks, w'.heap[g]? = W.heap[g]?) :
    Dv w' d (renamed s f.no to) (some b) ms := by
  refine ⟨hblk.trans h.blk, by show ms.length = (s.files.map _).length; rw [List.length_map]; exact h.len, fil_of (fun x hx => ?_), fun b' e => ?_, fun e => (by cases e), h.apart, named_ok h.ok ht hno, h.small⟩
  · have hx2 : x ∈ (s.files.map (ren f.no to)).zip ms := hx
    rw [ren_zip] at hx2
    obtain ⟨y, hy, rfl⟩ := List.mem_map.1 hx2
    have h1 := (h.filz y hy).same (w' := w') (fun g hg => hold g (List.mem_flatMap.2 ⟨y.2, (List.of_mem_zip hy).2, hg⟩))
    have e1 : (ren f.no to y.1).no = y.1.no := by unfold ren; split <;> rfl
    have e2 : (ren f.no to y.1).settled = y.1.settled := by unfold ren; split <;> rfl
    have e3 : pagesOf (renamed s f.no to) (ren f.no to y.1) = pagesOf s y.1 := by unfold pagesOf; rw [e1, e2]; rfl
    show FileAt w' (pagesOf (renamed s f.no to) (ren f.no to y.1)) (ren f.no to y.1).settled (ofNo s.opn (ren f.no to y.1).no) y.2
    rw [e1, e2, e3]
    exact h1
  · cases e
    rw [names_rename h.ok hf hno]
    exact hom
end Go.Proofs.YtojnembakhhgiaaGreat

/- Rename: the walk. -/
namespace Go.Proofs.YtojnembakhhgiaaGreat
open Go.RowKit

/-- what happens when a file gets another name -/
def renF (fr to : Bs) (no : Nat) (s : Ds) : Ds := if fr = to then s else match findF s to with
  | none => renamed s no to
  | some g => renamed (dropF s g.no) no to
theorem Dv.remap {W w' : World} {d : Nat} {s : Ds} {b : Nat} {ms : List Fm} (h : Dv W d s (some b) ms) (hblk : w'.heap[d]? = W.heap[d]?) (hom : Om w' b (namesOf s ms)) (hold : ∀ g ∈ ms.flatMap Fm.blocks, w'.heap[g]? = W.heap[g]?) : Dv w' d s (some b) ms :=
  ⟨hblk.trans h.blk, h.len, fil_of (fun x hx => (h.filz x hx).same (fun g hg => hold g (List.mem_flatMap.2 ⟨x.2, (List.of_mem_zip hx).2, hg⟩))), fun b' e => (by cases e; exact hom), fun e => (by cases e), h.apart, h.ok, h.small⟩
theorem names_at {s : Ds} {ms : List Fm} (hok : Dok s) (hl : ms.length = s.files.length) {f : Df} {m : Fm} (hf : (f, m) ∈ s.files.zip ms) : namesOf s ms f.name = some m.p := by
  rcases find_at (s := s) hl (t := f.name) with ⟨_, e2⟩ | ⟨g, n, h1, h2, _, h4⟩
  · exact absurd rfl (find_none e2 f (List.of_mem_zip hf).1)
  · rw [h4]
    have := name_uniq hok (List.of_mem_zip h1).1 (List.of_mem_zip hf).1 h2
    rw [zip_uniq hok.nos h1 hf (congrArg Df.no this)]
/-- the disk behind it, from what lies there -/
theorem Dv.ren {W w' : World} {d : Nat} {s : Ds} {b : Nat} {ms : List Fm} (h : Dv W d s (some b) ms) {f : Df} {m : Fm} (hf : (f, m) ∈ s.files.zip ms) {to : Bs} (ht : named to = true) (hblk : w'.heap[d]? = W.heap[d]?) (hom : Om w' b (nput (ndel (namesOf s ms) f.name) to m.p)) (hold : ∀ g ∈ ms.flatMap Fm.blocks, w'.heap[g]? = W.heap[g]?) :
    ∃ ms', Dv w' d (renF f.name to f.no s) (some b) ms' ∧ ∀ g ∈ Fp d (some b) ms', g ∈ Fp d (some b) ms := by
  have hfm := (List.of_mem_zip hf).1
  unfold renF
  by_cases e : f.name = to
  · rw [if_pos e]
    refine ⟨ms, h.remap hblk ?_ hold, fun g hg => hg⟩
    have hN : nput (ndel (namesOf s ms) f.name) to m.p = namesOf s ms := by
      funext u
      unfold nput ndel
      by_cases hu : u = to
      · rw [if_pos hu, hu, ← e, names_at h.ok h.len hf]
      · rw [if_neg hu, if_neg (by rw [e]; exact hu)]
    rw [hN] at hom
    exact hom
  · rw [if_neg e]
    cases hg : findF s to with
    | none => exact ⟨ms, h.rename hf ht (find_none hg) hblk hom hold, fun g hg => hg⟩
    | some g =>
      obtain ⟨hgm, hgn⟩ := find_mem hg
      have hne : f.no ≠ g.no := fun e2 => e (by rw [no_uniq h.ok hfm hgm e2]; exact hgn)
      have hgl := (named_len (h.ok.lens g hgm)).2
      obtain ⟨wv, _, ho, hgr⟩ := (h.map b rfl).drop g.name (by omega) 0
      have hbd : d ≠ b := fun e => (List.nodup_cons.1 h.apart).1 (by rw [e]; simp)
      have hbm : b ∉ ms.flatMap Fm.blocks := (List.nodup_cons.1 (show (b :: ms.flatMap Fm.blocks).Nodup from (List.nodup_cons.1 h.apart).2)).1
      have hb2 : ∀ k, k < W.heap.size → k ≠ b → wv.heap[k]? = W.heap[k]? := fun k hl hne => hgr.block k hl (fun e => hne (by cases e; rfl))
      have hml : ∀ k ∈ ms.flatMap Fm.blocks, wv.heap[k]? = W.heap[k]? := fun k hk => hb2 k (h.lt (by simp only [Fp, List.mem_cons, List.mem_append]; exact .inr (.inr hk))) (fun e => hbm (e ▸ hk))
      obtain ⟨h1, h2⟩ := h.drop hgm (hb2 d (lt_of_block h.blk) hbd) ho hml
      have hf2 : (f, m) ∈ (dropF s g.no).files.zip (dropM s ms g.no) := by
        rw [drop_zip h.len]
        exact List.mem_filter.2 ⟨hf, by simpa using hne⟩
      refine ⟨dropM s ms g.no, h1.rename hf2 ht (fun k hk ek => ?_) (hblk.trans (hb2 d (lt_of_block h.blk) hbd).symm) ?_ (fun k hk => ?_), h2⟩
      · obtain ⟨a, c⟩ := List.mem_filter.1 (show k ∈ s.files.filter _ from hk)
        have := name_uniq h.ok a hgm (ek.trans hgn.symm)
        rw [this] at c
        simp at c
      · rw [names_drop h.len h.ok hgm]
        have hN : nput (ndel (ndel (namesOf s ms) g.name) f.name) to m.p = nput (ndel (namesOf s ms) f.name) to m.p := by
          funext u
          unfold nput ndel
          by_cases hu : u = to
          · rw [if_pos hu, if_pos hu]
          · rw [if_neg hu, if_neg hu, hgn, if_neg hu]
        rw [hN]
        exact hom
      · have hk2 : k ∈ ms.flatMap Fm.blocks := by
          have h3 := h2 k (by simp only [Fp, List.mem_cons, List.mem_append]; exact .inr (.inr hk))
          simp only [Fp, List.mem_cons, List.mem_append] at h3
          rcases h3 with h3 | h3 | h3
          · exact absurd h3 (h1.not_d (List.mem_append.2 (.inr hk)))
          · exact absurd (by simpa using h3 : k = b) (fun e => by
              have := (List.nodup_cons.1 (show (b :: (dropM s ms g.no).flatMap Fm.blocks).Nodup from (List.nodup_cons.1 h1.apart).2)).1
              exact this (e ▸ hk))
          · exact h3
        rw [hold k hk2, hml k hk2]
end Go.Proofs.YtojnembakhhgiaaGreat

/- Rename: what happens. -/
namespace Go.Proofs.YtojnembakhhgiaaGreat
open Go.RowKit

set_option maxRecDepth 100000 in
set_option maxHeartbeats 4000000 in
theorem rename1_any (W : World) (d : Nat) (s : Ds) (mb : Option Nat) (ms : List Fm) (h : Dv W d s mb ms) (x y z u : Nat) (f : Df) (m : Fm) (hf : (f, m) ∈ s.files.zip ms) (to : Bs) (ht : named to = true) (hx : W.cell? ⟨x, 0, none⟩ = some (.pointer (some ⟨d, 0, none⟩))) (hy : W.cell? ⟨y, 0, none⟩ = some (St f.name)) (hz : W.cell? ⟨z, 0, none⟩ = some (St to)) (hu : W.cell? ⟨u, 0, none⟩ = some (.pointer (some ⟨m.p, 0, none⟩))) (hxF : x ∉ Fp d mb ms) (hyF : y ∉ Fp d mb ms) (hzF : z ∉ Fp d mb ms) (huF : u ∉ Fp d mb ms) :
    Calls Tryz.prog 62 #[.pointer (some ⟨x, 0, none⟩), .pointer (some ⟨y, 0, none⟩), .pointer (some ⟨z, 0, none⟩), .pointer (some ⟨u, 0, none⟩)] W fun e w' => e = .returned (.tuple #[]) ∧ Left W d mb ms (renF f.name to f.no s) w' := by
  have hfm := (List.of_mem_zip hf).1
  obtain ⟨b, rfl⟩ := find_mb h hfm
  have htl := (named_len (h.ok.lens f hfm)).2
  have htt := (named_len ht).2
  obtain ⟨w1, hrun0, hom, hg⟩ := ((h.map b rfl).same (w' := W.drew) rfl).drop f.name (by omega) 0
  have hbd : d ≠ b := fun e => (List.nodup_cons.1 h.apart).1 (by rw [e]; simp)
  have hbm : b ∉ ms.flatMap Fm.blocks := (List.nodup_cons.1 (show (b :: ms.flatMap Fm.blocks).Nodup from (List.nodup_cons.1 h.apart).2)).1
  have hblk : ∀ g, g < W.heap.size → g ≠ b → w1.heap[g]? = W.heap[g]? := fun g hl hne => hg.block g hl (fun e => hne (by cases e; rfl))
  have hd : d < W.heap.size := lt_of_block h.blk
  have hk : Kf (Fp d (some b) ms) W w1 := ⟨hg.os, hg.tape, hg.output, hg.size, fun g hl hF => hblk g hl (fun e => hF (by simp [Fp, e]))⟩
  have hml : ∀ g ∈ ms.flatMap Fm.blocks, g < W.heap.size := fun g hgm => h.lt (by simp only [Fp, List.mem_cons, List.mem_append]; exact .inr (.inr hgm))
  have HPL := hid (place_some w1 d b m.p _ (ndel (namesOf s ms) f.name) to htt ((hblk d hd hbd).trans h.blk) rfl hom (fun e => hbd e.symm) (s.files.map Df.name) (fun t ht => names_few h.len t (by
    unfold ndel at ht
    split at ht
    · cases ht
    · exact ht)) (by rw [List.length_map]; have := h.ok.few; omega))
  have HP : Hid (∀ w', w'.heap[d]? = W.heap[d]? → Om w' b (nput (ndel (namesOf s ms) f.name) to m.p) → Kf [b] w1 w' → Left W d (some b) ms (renF f.name to f.no s) w') := hid (fun w' hb' ho' hk' => by
    obtain ⟨ms', h1, h2⟩ := h.ren hf ht hb' ho' (fun g hgm => by
      have hgb : g ≠ b := fun e => hbm (e ▸ hgm)
      rw [hk'.blk g (Nat.lt_of_lt_of_le (hml g hgm) hg.size) (by simpa using hgb), hblk g (hml g hgm) hgb])
    exact ⟨some b, ms', h1, hk.trans hk' (fun g hg => .inl (by simp at hg; simp [Fp, hg])), fun g hgm => .inl (h2 g hgm)⟩)
  have HB := hid h.blk
  have hne : ∀ g, g ∉ Fp d (some b) ms → g ≠ b := fun g hgF e => hgF (by simp [Fp, e])
  have c1 : W.cell? ⟨d, 1, none⟩ = some (.map (some b)) := (cell_of_heap h.blk 1).trans rfl
  have e1 : w1.cell? ⟨d, 1, none⟩ = some (.map (some b)) := (World.cell?_of_block (hblk d hd hbd)).trans c1
  have ex : w1.cell? ⟨x, 0, none⟩ = some (.pointer (some ⟨d, 0, none⟩)) := (World.cell?_of_block (hblk x (World.block_lt_of_cell? W ⟨x, 0, none⟩ hx) (hne x hxF))).trans hx
  have ey : w1.cell? ⟨y, 0, none⟩ = some (St f.name) := (World.cell?_of_block (hblk y (World.block_lt_of_cell? W ⟨y, 0, none⟩ hy) (hne y hyF))).trans hy
  have ez : w1.cell? ⟨z, 0, none⟩ = some (St to) := (World.cell?_of_block (hblk z (World.block_lt_of_cell? W ⟨z, 0, none⟩ hz) (hne z hzF))).trans hz
  have eu : w1.cell? ⟨u, 0, none⟩ = some (.pointer (some ⟨m.p, 0, none⟩)) := (World.cell?_of_block (hblk u (World.block_lt_of_cell? W ⟨u, 0, none⟩ hu) (hne u huF))).trans hu
  have HRUN : Hid (∀ ty, (Builtin.delete_ #[52, 9] ty #[.map (some b), St f.name]).run Tryz.prog W.drew = .ok (.tuple #[]) w1) := hid (fun ty => hrun0)
  clear h hf hom hg hbd hbm hblk hd hk htl hrun0 hxF hyF hzF huF hml hne hfm htt ht
  generalize renF f.name to f.no s = s' at *
  generalize ndel (namesOf s ms) f.name = N at *
  generalize f.name = t at *
  generalize m.p = p at *
  go_enter Tryz.func62, Tryz.ntmps62
  go_wp2_with fail
  go_region_held3 (fun w' => w'.cell? ⟨d, 1, none⟩ = some (.map (some b)) ∧ w'.cell? ⟨x, 0, none⟩ = some (.pointer (some ⟨d, 0, none⟩)) ∧ w'.cell? ⟨y, 0, none⟩ = some (St t) ∧ w'.cell? ⟨z, 0, none⟩ = some (St to) ∧ w'.cell? ⟨u, 0, none⟩ = some (.pointer (some ⟨p, 0, none⟩))) (go_keep) (first | (refine step_del_run rfl (.tmp 7) (.tmp 8) 52 9 rfl (.map (some b)) (St t) w1 rfl rfl HRUN.out ?_))
  go_wp2_with fail
  refine HPL.out.mono ?_
  rintro e w2 ⟨rfl, hd2, ho2, hk2⟩
  have HQ := hid (HP.out w2 (hd2.trans HB.out.symm) ho2 hk2)
  clear hd2 ho2 hk2
  go_wp2_with fail
  refine bodyPost_end (results_none rfl _ _ _) rfl ?_
  exact ⟨rfl, HQ.out⟩
end Go.Proofs.YtojnembakhhgiaaGreat

/- Rename: the call. -/
namespace Go.Proofs.YtojnembakhhgiaaGreat
open Go.RowKit

theorem eg47 : ∀ args w, (callFunc 62 args).run Tryz.prog w = .ok (.enter 62 args) w := Go.Proofs.enters_of Tryz.func62 (by kernel_rfl) rfl
theorem renF_steps (fr to : Bs) (no : Nat) (s : Ds) (k : Nat) : renF fr to no { s with steps := k } = { renF fr to no s with steps := k } := by
  unfold renF
  by_cases e : fr = to
  · rw [if_pos e, if_pos e]
  · rw [if_neg e, if_neg e]
    show (match findF s to with | none => _ | some g => _) = _
    cases findF s to <;> rfl
theorem renF_same (fr to : Bs) (no : Nat) (s : Ds) : (renF fr to no s).steps = s.steps := by
  unfold renF
  by_cases e : fr = to
  · rw [if_pos e]
  · rw [if_neg e]
    cases findF s to <;> rfl
set_option maxRecDepth 100000 in
set_option maxHeartbeats 8000000 in
theorem rename_any (w : World) (d : Nat) (s : Ds) (mb : Option Nat) (ms : List Fm) (h : Dv w d s mb ms) (hst : s.steps + 1 < 1000000) (t to : Bs) (htl : t.length ≤ 140737488355328) :
    Calls Tryz.prog 30 #[.pointer (some ⟨d, 0, none⟩), St t, St to] w fun e w' => e = .returned (.int .i64 ((renameD s t to).1 : Int)) ∧ Left w d mb ms (renameD s t to).2 w' := by
  obtain ⟨w0, hw0⟩ : ∃ w0, w0 = ((w.alloc (.cells #[.pointer (some ⟨d, 0, none⟩)] 24)).alloc (.cells #[St t] 9)).alloc (.cells #[St to] 9) := ⟨_, rfl⟩
  have hb0 : Below w.heap.size w w0 := hw0 ▸ (((Below.refl _ _).alloc (Nat.le_refl _) _).alloc (by simp) _).alloc (by simp; omega) _
  have hs0 : w0.heap.size = w.heap.size + 3 := by rw [hw0]; simp
  have hx0 : w0.heap[w.heap.size]? = some (.cells #[.pointer (some ⟨d, 0, none⟩)] 24 (0, 0)) := by
    rw [hw0, Below.heap_alloc _ _ _ (by simp; omega), Below.heap_alloc _ _ _ (by simp)]
    exact heap_alloc_new _ _
  have hy0 : w0.heap[w.heap.size + 1]? = some (.cells #[St t] 9 (0, 0)) := by
    rw [hw0, Below.heap_alloc _ _ _ (by simp)]
    have := heap_alloc_new (w.alloc (.cells #[.pointer (some ⟨d, 0, none⟩)] 24)) (.cells #[St t] 9)
    simpa using this
  have hz0 : w0.heap[w.heap.size + 1 + 1]? = some (.cells #[St to] 9 (0, 0)) := by
    have := heap_alloc_new ((w.alloc (.cells #[.pointer (some ⟨d, 0, none⟩)] 24)).alloc (.cells #[St t] 9)) (.cells #[St to] 9)
    rw [hw0]
    simpa using this
  have hD0 := h.low hb0
  have HFI := hid (find_any w0 d s mb ms hD0 t htl)
  have HNM := hid (fun W => isName_any W to)
  have HST : Hid (∀ W, Below w0.heap.size w0 W → Left w d mb ms s W) := hid (fun W hW => Left.of hb0 (Left.stay hD0 hW))
  have cx : w0.cell? ⟨w.heap.size, 0, none⟩ = some (.pointer (some ⟨d, 0, none⟩)) := (cell_of_heap hx0 0).trans rfl
  have cy : w0.cell? ⟨w.heap.size + 1, 0, none⟩ = some (St t) := (cell_of_heap hy0 0).trans rfl
  have cz : w0.cell? ⟨w.heap.size + 1 + 1, 0, none⟩ = some (St to) := (cell_of_heap hz0 0).trans rfl
  have hFl : ∀ g, w.heap.size ≤ g → g ∉ Fp d mb ms := fun g hg hm => by have := h.lt hm; omega
  obtain ⟨R, hR⟩ : ∃ R, R = renameD s t to := ⟨_, rfl⟩
  rw [← hR]
  have HR := hid hR
  clear hR
  cases ho : s.off with
  | true =>
    rw [ho] at HFI
    have HRE : Hid (R = (7, s)) := hid (by rw [HR.out]; unfold renameD; rw [if_pos ho])
    clear hx0 hy0 hz0 hD0 hb0 h
    go_enter Tryz.func30, Tryz.ntmps30
    go_wp2_with fail
    rw [← hw0]
    clear hw0
    refine HFI.out.mono ?_
    rintro e w1 ⟨rfl, hw⟩
    subst hw
    go_wp2_with fail
    go_ret
    rw [HRE.out]
    exact ⟨rfl, HST.out _ ((Below.refl _ _).alloc (Nat.le_refl _) _)⟩
  | false =>
    rw [ho] at HFI
    have hR1 : R = match findF s t with
      | none => (91, s)
      | some f => if named to = false then (2, s) else doD s (renF t to f.no) := by
      rw [HR.out]
      unfold renameD
      rw [if_neg (by rw [ho]; decide)]
      cases findF s t <;> rfl
    rcases find_at (s := s) h.len (t := t) with ⟨e1, e2⟩ | ⟨f, m, e0, e1, e2, e3⟩
    · rw [e1] at HFI
      rw [e2] at hR1
      have HRE : Hid (R = (91, s)) := hid hR1
      clear hx0 hy0 hz0 hD0 hb0 h hR1 e1 e2
      go_enter Tryz.func30, Tryz.ntmps30
      go_wp2_with fail
      rw [← hw0]
      clear hw0
      refine HFI.out.mono ?_
      rintro e w1 ⟨rfl, hw⟩
      subst hw
      go_wp2_with fail
      go_ret
      rw [HRE.out]
      exact ⟨rfl, HST.out _ ((Below.refl _ _).alloc (Nat.le_refl _) _)⟩
    · rw [e3] at HFI
      rw [e2] at hR1
      obtain ⟨wf, hwf⟩ : ∃ wf, wf = w0.alloc (.cells #[.pointer (some ⟨m.p, 0, none⟩)] 61) := ⟨_, rfl⟩
      have hbf : Below w0.heap.size w0 wf := hwf ▸ (Below.refl _ _).alloc (Nat.le_refl _) _
      have hu0 : wf.heap[w0.heap.size]? = some (.cells #[.pointer (some ⟨m.p, 0, none⟩)] 61 (0, 0)) := by
        rw [hwf]
        exact heap_alloc_new _ _
      have cu : wf.cell? ⟨w0.heap.size, 0, none⟩ = some (.pointer (some ⟨m.p, 0, none⟩)) := (cell_of_heap hu0 0).trans rfl
      have hlow : ∀ g v, w0.cell? ⟨g, 0, none⟩ = some v → wf.cell? ⟨g, 0, none⟩ = some v := fun g v hv => by
        rw [← hv]
        exact World.cell?_of_block (hbf.block g (World.block_lt_of_cell? w0 ⟨g, 0, none⟩ hv))
      have gx := hlow _ _ cx
      have gy := hlow _ _ cy
      have gz := hlow _ _ cz
      have HSF := hid (HST.out wf hbf)
      cases hnm : named to with
      | false =>
        have HRE : Hid (R = (2, s)) := hid (by rw [hR1]; simp only [if_pos hnm])
        have HN2 := hid (HNM.out wf)
        rw [hnm] at HN2
        clear hx0 hy0 hz0 hD0 hb0 h hR1 e1 e2 e3 e0 hu0 hbf hlow hs0 hFl hnm HNM HST HR
        subst hwf
        go_enter Tryz.func30, Tryz.ntmps30
        go_wp2_with fail
        rw [← hw0]
        clear hw0
        refine HFI.out.mono ?_
        rintro e w1 ⟨rfl, hw⟩
        subst hw
        go_wp2_with fail
        refine HN2.out.mono ?_
        rintro e w2 ⟨rfl, hw⟩
        subst hw
        go_wp2_with fail
        go_ret
        rw [HRE.out]
        exact ⟨rfl, HSF.out⟩
      | true =>
        have HRE : Hid (R = doD s (renF t to f.no)) := hid (by rw [hR1]; simp only [hnm, Bool.true_eq_false, if_false])
        have HN2 := hid (HNM.out wf)
        rw [hnm] at HN2
        have hbw : Below w.heap.size w wf := ⟨hbf.os.trans hb0.os, hbf.tape.trans hb0.tape, hbf.output.trans hb0.output, Nat.le_trans hb0.size hbf.size, fun g hg => (hbf.block g (Nat.lt_of_lt_of_le hg hb0.size)).trans (hb0.block g hg)⟩
        have hdl := lt_of_block h.blk
        have HC := hid (do_step wf d s mb ms (hD0.low hbf) hst 62 #[.pointer (some ⟨w.heap.size, 0, none⟩), .pointer (some ⟨w.heap.size + 1, 0, none⟩), .pointer (some ⟨w.heap.size + 1 + 1, 0, none⟩), .pointer (some ⟨w0.heap.size, 0, none⟩)] eg47 (renF t to f.no) (renF_steps _ _ _ _ _) (renF_same _ _ _ _) (fun W hDW hK => by
          have := rename1_any W d (preD s) mb ms hDW w.heap.size (w.heap.size + 1) (w.heap.size + 1 + 1) w0.heap.size f m e0 to hnm (cell_kf hK (by simp; omega) gx) (cell_kf hK (by simp; omega) (by rw [e1]; exact gy)) (cell_kf hK (by simp; omega) gz) (cell_kf hK (by simp; omega) cu) (hFl _ (by omega)) (hFl _ (by omega)) (hFl _ (by omega)) (hFl _ (by omega))
          rw [e1] at this
          exact this))
        have HB := hid hbw
        clear hx0 hy0 hz0 hD0 hb0 h hR1 e0 e1 e2 e3 hFl hu0 hbf hlow hbw hdl hs0 hnm HNM HST HR
        subst hwf
        go_enter Tryz.func30, Tryz.ntmps30
        go_wp2_with fail
        rw [← hw0]
        clear hw0
        refine HFI.out.mono ?_
        rintro e w1 ⟨rfl, hw⟩
        subst hw
        go_wp2_with fail
        refine HN2.out.mono ?_
        rintro e w2 ⟨rfl, hw⟩
        subst hw
        go_wp2_with fail
        refine HC.out.mono ?_
        rintro e w' ⟨rfl, hL⟩
        have HL := hid (Left.of HB.out hL)
        clear hL
        go_wp2_with fail
        go_ret
        rw [HRE.out]
        exact ⟨rfl, HL.out⟩
end Go.Proofs.YtojnembakhhgiaaGreat
