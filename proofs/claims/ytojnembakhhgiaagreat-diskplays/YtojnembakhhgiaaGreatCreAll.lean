import Derived.Test.YtojnembakhhgiaaGreatClpAll
import Derived.Deep.QuietTactic
import Derived.BigQuiet
import Derived.Shelf.Abstract
/- Create. -/
namespace Go.Proofs.YtojnembakhhgiaaGreat
open Go.RowKit

theorem names_add {s s' : Ds} {ms : List Fm} (hl : ms.length = s.files.length) {f : Df} (hn : findF s f.name = none) (hf : s'.files = s.files ++ [f]) (m : Fm) : namesOf s' (ms ++ [m]) = nput (namesOf s ms) f.name m.p := by
  funext u
  have hno := find_none hn
  unfold namesOf nput
  rw [hf, List.zip_append hl.symm, List.find?_append]
  by_cases e : u = f.name
  · subst e
    have h1 : (s.files.zip ms).find? (fun x => x.1.name == f.name) = none := by
      rw [List.find?_eq_none]
      intro x hx
      have := hno x.1 (List.of_mem_zip hx).1
      simpa using this
    rw [h1]
    simp
  · rw [if_neg e]
    have h1 : ([f].zip [m]).find? (fun x => x.1.name == u) = none := by
      rw [List.find?_eq_none]
      intro x hx
      simp at hx
      subst hx
      simpa using fun h => e h.symm
    rw [h1]
    simp
theorem names_some {s : Ds} {ms : List Fm} (hl : ms.length = s.files.length) (t : Bs) : (namesOf s ms t).isSome = (findF s t).isSome := by
  unfold namesOf findF
  rw [Option.isSome_map]
  have : ∀ (l : List Df) (k : List Fm), k.length = l.length → ((l.zip k).find? fun x => x.1.name == t).isSome = (l.find? fun f => f.name == t).isSome := by
    intro l
    induction l with
    | nil => intro k _; rfl
    | cons a l ih =>
      intro k hk
      cases k with
      | nil => simp at hk
      | cons b k =>
        rw [List.zip_cons_cons, List.find?_cons, List.find?_cons]
        simp only
        split
        · rfl
        · exact ih k (by simpa using hk)
  exact this s.files ms hl
/-- one file more -/
def addF (s : Ds) (t : Bs) : Ds := { s with files := s.files ++ [⟨s.next, t, []⟩], next := s.next + 1 }
theorem addF_fil {w : World} {s : Ds} {t : Bs} {ms : List Fm} (hl : ms.length = s.files.length) (hok : Dok s) (hfil : ∀ i (h : i < s.files.length) (h' : i < ms.length), FileAt w (pagesOf s s.files[i]) s.files[i].settled (ofNo s.opn s.files[i].no) ms[i]) {m : Fm} (hm : FileAt w [] [] [] m) :
    ∀ i (h : i < (addF s t).files.length) (h' : i < (ms ++ [m]).length), FileAt w (pagesOf (addF s t) (addF s t).files[i]) (addF s t).files[i].settled (ofNo (addF s t).opn (addF s t).files[i].no) (ms ++ [m])[i] := by
  intro i h h'
  by_cases hi : i < s.files.length
  · have e1 : (addF s t).files[i] = s.files[i] := List.getElem_append_left hi
    have e2 : (ms ++ [m])[i] = ms[i]'(by omega) := List.getElem_append_left (by omega)
    rw [e1, e2]
    exact hfil i hi (by omega)
  · have hi2 : i = s.files.length := by
      have : (addF s t).files.length = s.files.length + 1 := by simp [addF]
      omega
    have e1 : (addF s t).files[i] = ⟨s.next, t, []⟩ := by simp [addF, hi2]
    have e2 : (ms ++ [m])[i] = m := by
      rw [List.getElem_append_right (by omega)]
      simp
    have e3 : ofNo s.opn s.next = [] := by
      unfold ofNo
      rw [List.filter_eq_nil_iff]
      intro x hx
      obtain ⟨_, _, f, hf, e⟩ := hok.own x hx
      have := hok.next f hf
      simp
      omega
    rw [e1, e2]
    unfold pagesOf
    show FileAt w (layAll [] (ofNo s.opn s.next)) [] (ofNo s.opn s.next) m
    rw [e3]
    exact hm
theorem addF_ok {s : Ds} (h : Dok s) {name : Bs} (hno : findF s name = none) (ht : named name = true) (h256 : s.files.length < 256) : Dok (addF s name) := by
  have hfn := find_none hno
  refine ⟨h.quota, ?_, ?_, fun f hf => ?_, ?_, fun f hf => ?_, fun f hf => ?_, fun w hw => ?_, h.rise⟩
  · show (List.map Df.no (s.files ++ [_])).Nodup
    rw [List.map_append, List.nodup_append]
    refine ⟨h.nos, by simp, fun a ha b hb => ?_⟩
    simp at hb
    subst hb
    obtain ⟨f, hf, rfl⟩ := List.mem_map.1 ha
    have := h.next f hf
    omega
  · show (List.map Df.name (s.files ++ [_])).Nodup
    rw [List.map_append, List.nodup_append]
    refine ⟨h.names, by simp, fun a ha b hb => ?_⟩
    simp at hb
    subst hb
    obtain ⟨f, hf, rfl⟩ := List.mem_map.1 ha
    exact hfn f hf
  · rcases List.mem_append.1 (show f ∈ s.files ++ [_] from hf) with hf | hf
    · exact h.lens f hf
    · simp at hf
      subst hf
      exact ht
  · show (s.files ++ [_]).length ≤ 256
    rw [List.length_append]
    simp
    omega
  · rcases List.mem_append.1 (show f ∈ s.files ++ [_] from hf) with hf | hf
    · exact Nat.lt_succ_of_lt (h.next f hf)
    · simp at hf
      subst hf
      exact Nat.lt_succ_self _
  · rcases List.mem_append.1 (show f ∈ s.files ++ [_] from hf) with hf | hf
    · exact h.pgs f hf
    · simp at hf
      subst hf
      intro p hp
      cases hp
  · obtain ⟨a, b, f, hf, e⟩ := h.own w hw
    exact ⟨a, b, f, List.mem_append.2 (.inl hf), e⟩
theorem ob_lt {w : World} {e : TypeId} {sz : Nat} {v : Value} {n : Nat} {xs : List Value} (h : w.ownsRow 0 e sz v n xs) {g : Nat} (hg : g ∈ ob v) : g < w.heap.size := by
  unfold ob at hg
  exact (h.lt g (by simpa using hg)).2
theorem FileAt.lt {w : World} {pages settled : List Bs} {ws : List Dw} {m : Fm} (h : FileAt w pages settled ws m) {g : Nat} (hg : g ∈ m.blocks) : g < w.heap.size := by
  unfold Fm.blocks at hg
  rcases List.mem_cons.1 hg with rfl | hg
  · exact lt_of_block h.blk
  · rcases List.mem_append.1 hg with hg | hg
    · exact ob_lt h.pg hg
    · rcases List.mem_append.1 hg with hg | hg
      · exact ob_lt h.st hg
      · exact ob_lt h.op hg
theorem Dv.lt {w : World} {d : Nat} {s : Ds} {mb : Option Nat} {ms : List Fm} (h : Dv w d s mb ms) {g : Nat} (hg : g ∈ Fp d mb ms) : g < w.heap.size := by
  unfold Fp at hg
  rcases List.mem_cons.1 hg with rfl | hg
  · exact lt_of_block h.blk
  · rcases List.mem_append.1 hg with hg | hg
    · exact (h.map g (by simpa using hg)).lt
    · obtain ⟨m, hm, hg⟩ := List.mem_flatMap.1 hg
      obtain ⟨i, hi, rfl⟩ := List.getElem_of_mem hm
      exact (h.fil i (by rw [← h.len]; exact hi) hi).lt hg
/-- a new file's values -/
abbrev nf (p : Nat) : Fm := ⟨p, .slice none 0 0, .slice none 0 0, .slice none 0 0⟩
theorem nf_blocks (p : Nat) : (nf p).blocks = [p] := rfl
/-- the disk with one file more, from what lies there -/
theorem Dv.add {W w' : World} {d : Nat} {s : Ds} {mb mb' : Option Nat} {ms : List Fm} (h : Dv W d s mb ms) {t : Bs} (hn : findF s t = none) (ht : named t = true) (h256 : s.files.length < 256) {b p : Nat} (hmb : mb' = some b) (hp : W.heap.size ≤ p) (hpb : p ≠ b) (hb : mb = some b ∨ (mb = none ∧ W.heap.size ≤ b))
    (hblk : w'.heap[d]? = some (.cells (dcs s mb') 56 (0, 0))) (hom : Om w' b (nput (namesOf s ms) t p)) (hold : ∀ g ∈ ms.flatMap Fm.blocks, w'.heap[g]? = W.heap[g]?) (hnew : w'.heap[p]? = some (.cells #[.slice none 0 0, .slice none 0 0, .slice none 0 0] 77 (0, 0))) :
    Dv w' d (addF s t) mb' (ms ++ [nf p]) := by
  subst hmb
  have hlt : ∀ g ∈ Fp d mb ms, g < W.heap.size := fun g hg => h.lt hg
  have hfm : FileAt w' [] [] [] (nf p) := ⟨hnew, World.ownsRow_nil _ _ _ _, World.ownsRow_nil _ _ _ _, World.ownsRow_nil _ _ _ _⟩
  refine ⟨hblk, by simp [addF, h.len], addF_fil h.len h.ok (fun i hi hi' => (h.fil i hi hi').same (fun g hg => hold g (List.mem_flatMap.2 ⟨_, List.getElem_mem hi', hg⟩))) hfm, fun b' e => ?_, fun e => (by cases e), ?_, addF_ok h.ok hn ht h256, h.small⟩
  · cases e
    rw [names_add (s := s) (s' := addF s t) h.len (f := ⟨s.next, t, []⟩) hn rfl (nf p)]
    exact hom
  · have hap := h.apart
    rw [List.flatMap_append]
    have hfl : List.flatMap Fm.blocks [nf p] = [p] := rfl
    rw [hfl]
    obtain ⟨h1, h2⟩ := List.nodup_cons.1 hap
    have hms : (ms.flatMap Fm.blocks).Nodup := (List.nodup_append.1 h2).2.1
    have hdlt : d < W.heap.size := hlt d (by simp [Fp])
    have hmlt : ∀ g ∈ ms.flatMap Fm.blocks, g < W.heap.size := fun g hg => hlt g (by simp only [Fp, List.mem_cons, List.mem_append]; exact .inr (.inr hg))
    have hbd : d ≠ b := by
      rcases hb with hb | ⟨_, hb⟩
      · intro e
        subst e
        exact h1 (by rw [hb]; simp)
      · omega
    have hbm : b ∉ ms.flatMap Fm.blocks := by
      rcases hb with hb | ⟨_, hb⟩
      · intro hg
        rw [hb] at h2
        exact (List.nodup_cons.1 (show (b :: ms.flatMap Fm.blocks).Nodup from h2)).1 hg
      · intro hg
        have := hmlt b hg
        omega
    have hdm : d ∉ ms.flatMap Fm.blocks := fun hg => h1 (List.mem_append.2 (.inr hg))
    show (d :: b :: (ms.flatMap Fm.blocks ++ [p])).Nodup
    rw [List.nodup_cons, List.nodup_cons, List.nodup_append]
    refine ⟨?_, ?_, hms, by simp, fun a ha c hc => ?_⟩
    · intro hg
      rcases List.mem_cons.1 hg with e | hg
      · exact hbd e
      · rcases List.mem_append.1 hg with hg | hg
        · exact hdm hg
        · simp at hg
          omega
    · intro hg
      rcases List.mem_append.1 hg with hg | hg
      · exact hbm hg
      · simp at hg
        exact hpb hg.symm
    · simp at hc
      have := hmlt a ha
      omega
end Go.Proofs.YtojnembakhhgiaaGreat

/- Create: the walk. -/
namespace Go.Proofs.YtojnembakhhgiaaGreat
open Go.RowKit

theorem names_few {s : Ds} {ms : List Fm} (hl : ms.length = s.files.length) : ∀ t, (namesOf s ms t).isSome = true → t ∈ s.files.map Df.name := fun t ht => by
  rw [names_some hl] at ht
  obtain ⟨f, hf⟩ := Option.isSome_iff_exists.1 ht
  obtain ⟨h1, h2⟩ := find_mem hf
  exact List.mem_map.2 ⟨f, h1, h2⟩
theorem named_len {t : Bs} (h : named t = true) : 1 ≤ t.length ∧ t.length ≤ 100 := by
  unfold named at h
  simpa using h
/-- what happens when a file is made -/
theorem create1_any (W : World) (d : Nat) (s : Ds) (mb : Option Nat) (ms : List Fm) (h : Dv W d s mb ms) (x y : Nat) (t : Bs) (hx : W.cell? ⟨x, 0, none⟩ = some (.pointer (some ⟨d, 0, none⟩))) (hy : W.cell? ⟨y, 0, none⟩ = some (St t)) (hn : findF s t = none) (ht : named t = true) (h256 : s.files.length < 256) :
    Calls Tryz.prog 45 #[.pointer (some ⟨x, 0, none⟩), .pointer (some ⟨y, 0, none⟩)] W fun e w' => e = .returned (.tuple #[]) ∧ ∃ mb', Dv w' d (addF s t) mb' (ms ++ [nf W.heap.size]) ∧ Kf (Fp d mb ms) W w' ∧ ∀ g ∈ Fp d mb' (ms ++ [nf W.heap.size]), g ∈ Fp d mb ms ∨ W.heap.size ≤ g := by
  have hd : d < W.heap.size := lt_of_block h.blk
  have htl := named_len ht
  have HPL : Hid (Calls Tryz.prog 46 #[.pointer (some ⟨d, 0, none⟩), St t, .pointer (some ⟨W.heap.size, 0, none⟩)] (W.alloc (.cells #[.slice none 0 0, .slice none 0 0, .slice none 0 0] 77)) fun e w' => e = .returned (.tuple #[]) ∧ ∃ mb', Dv w' d (addF s t) mb' (ms ++ [nf W.heap.size]) ∧ Kf (Fp d mb ms) W w' ∧ ∀ g ∈ Fp d mb' (ms ++ [nf W.heap.size]), g ∈ Fp d mb ms ∨ W.heap.size ≤ g) := by
    have hb0 : Below W.heap.size W (W.alloc (.cells #[.slice none 0 0, .slice none 0 0, .slice none 0 0] 77)) := (Below.refl _ _).alloc (Nat.le_refl _) _
    have hblk0 := (hb0.block d hd).trans h.blk
    have hfp : ∀ (b : Nat), ∀ g ∈ Fp d (some b) (ms ++ [nf W.heap.size]), g = d ∨ g = b ∨ g ∈ ms.flatMap Fm.blocks ∨ g = W.heap.size := fun b g hg => by
      unfold Fp at hg
      rw [List.flatMap_append] at hg
      simp only [List.mem_cons, Option.toList, List.cons_append, List.nil_append, List.mem_append] at hg
      rcases hg with e | e | e | e
      · exact .inl e
      · exact .inr (.inl e)
      · exact .inr (.inr (.inl e))
      · exact .inr (.inr (.inr (by simpa [Fm.blocks, ob, Value.ownBlock] using e)))
    cases mb with
    | some b =>
      have hbd : b ≠ d := fun e => (List.nodup_cons.1 h.apart).1 (by rw [e]; simp)
      have hbl : b < W.heap.size := (h.map b rfl).lt
      have hbm : b ∉ ms.flatMap Fm.blocks := (List.nodup_cons.1 (show (b :: ms.flatMap Fm.blocks).Nodup from (List.nodup_cons.1 h.apart).2)).1
      refine (place_some _ d b W.heap.size (dcs s (some b)) (namesOf s ms) t htl.2 hblk0 rfl ((h.map b rfl).same (hb0.block b hbl)) hbd (s.files.map Df.name) (names_few h.len) (by rw [List.length_map]; omega)).mono ?_
      rintro e w' ⟨rfl, h1, h2, h3⟩
      refine ⟨rfl, some b, h.add hn ht h256 rfl (Nat.le_refl _) (by omega) (.inl rfl) h1 h2 (fun g hg => ?_) ?_, ?_, fun g hg => ?_⟩
      · have hgl : g < W.heap.size := h.lt (by simp only [Fp, List.mem_cons, List.mem_append]; exact .inr (.inr hg))
        rw [h3.blk g (by simp; omega) (fun e => by simp at e; exact hbm (e ▸ hg))]
        exact hb0.block g hgl
      · rw [h3.blk W.heap.size (by simp) (by simp; omega)]
        exact heap_alloc_new _ _
      · exact (below_kf hb0).trans (h3.more (fun g hg => by simp at hg; subst hg; simp [Fp])) (fun g hg => .inl hg)
      · rcases hfp b g hg with e | e | e | e
        · exact .inl (by simp [Fp, e])
        · exact .inl (by simp [Fp, e])
        · exact .inl (by simp only [Fp, List.mem_cons, List.mem_append]; exact .inr (.inr e))
        · exact .inr (by omega)
    | none =>
      refine (place_none _ d W.heap.size (dcs s none) t htl.2 hblk0 rfl).mono ?_
      rintro e w' ⟨rfl, h1, h2, h3⟩
      have hsz : (W.alloc (.cells #[.slice none 0 0, .slice none 0 0, .slice none 0 0] 77)).heap.size = W.heap.size + 1 := by simp
      rw [hsz] at h1 h2
      have hnm : namesOf s ms = fun _ => none := by
        funext u
        unfold namesOf
        rw [h.nomap rfl]
        rfl
      refine ⟨rfl, some (W.heap.size + 1), h.add hn ht h256 rfl (Nat.le_refl _) (by omega) (.inr ⟨rfl, by omega⟩) h1 (by rw [hnm]; exact h2) (fun g hg => ?_) ?_, ?_, fun g hg => ?_⟩
      · have hgl : g < W.heap.size := h.lt (by simp only [Fp, List.mem_cons, List.mem_append]; exact .inr (.inr hg))
        rw [h3.blk g (by simp; omega) (fun e => by simp at e; exact h.not_d (List.mem_append.2 (.inr hg)) e)]
        exact hb0.block g hgl
      · rw [h3.blk W.heap.size (by simp) (by simp; omega)]
        exact heap_alloc_new _ _
      · exact (below_kf hb0).trans (h3.more (fun g hg => by simp at hg; subst hg; simp [Fp])) (fun g hg => .inl hg)
      · rcases hfp _ g hg with e | e | e | e
        · exact .inl (by simp [Fp, e])
        · exact .inr (by omega)
        · exact .inl (by simp only [Fp, List.mem_cons, List.mem_append]; exact .inr (.inr e))
        · exact .inr (by omega)
  clear h hn ht h256 htl hd
  go_enter Tryz.func45, Tryz.ntmps45
  go_wp2_with fail
  refine HPL.out.mono ?_
  rintro e w' ⟨rfl, hp⟩
  have HP := hid hp
  clear hp HPL
  go_wp2_with fail
  refine bodyPost_end (results_none rfl _ _ _) rfl ?_
  exact ⟨rfl, HP.out⟩
/-- what a call leaves: the disk behind it, and all else as it was -/
def Left (w : World) (d : Nat) (mb : Option Nat) (ms : List Fm) (s' : Ds) (w' : World) : Prop := ∃ mb' ms', Dv w' d s' mb' ms' ∧ Kf (Fp d mb ms) w w' ∧ ∀ g ∈ Fp d mb' ms', g ∈ Fp d mb ms ∨ w.heap.size ≤ g
theorem Dv.low {w w' : World} {d : Nat} {s : Ds} {mb : Option Nat} {ms : List Fm} (h : Dv w d s mb ms) (hb : Below w.heap.size w w') : Dv w' d s mb ms := h.same (fun g hg => hb.block g (h.lt hg))
theorem Left.stay {w w' : World} {d : Nat} {s : Ds} {mb : Option Nat} {ms : List Fm} (h : Dv w d s mb ms) (hb : Below w.heap.size w w') : Left w d mb ms s w' := ⟨mb, ms, h.low hb, below_kf hb, fun _ hg => .inl hg⟩
theorem drewN_below {w w' : World} (h : Below w.heap.size w w') (k : Nat) : Below w.heap.size w (w'.drewN k) := ⟨h.os, h.tape, h.output, h.size, h.block⟩
theorem step_is {s s' : Ds} (h : stepD s = some s') : s' = { preD s with steps := s.steps + 1 } := by
  unfold stepD at h
  split at h
  · cases h
  · cases h
    rfl
/-- the count of steps goes up behind what happened -/
theorem Dv.tick {w : World} {d : Nat} {s : Ds} {mb : Option Nat} {ms : List Fm} (h : Dv w d s mb ms) {n : Nat} (hn : n = s.steps + 1) (hs : n < 1000000) : Dv (w.setCell ⟨d, 2, none⟩ (.int .i64 (n : Int))) d { s with steps := n } mb ms :=
  h.upd rfl rfl ⟨h.ok.quota, h.ok.nos, h.ok.names, h.ok.lens, h.ok.few, h.ok.next, h.ok.pgs, fun w hw => by
    obtain ⟨a, b, c⟩ := h.ok.own w hw
    exact ⟨a, by show w.step < n; omega, c⟩, h.ok.rise⟩ ⟨hs, h.small.2⟩ (by rw [heap_setCell_same h.blk 2 _]; rfl) (fun g hg => Below.heap_setCell _ _ _ _ (h.not_d hg))
theorem eg39 : ∀ args w, (callFunc 45 args).run Tryz.prog w = .ok (.enter 45 args) w := Go.Proofs.enters_of Tryz.func45 (by kernel_rfl) rfl
/-- the step that makes a file -/
theorem create_step (w0 : World) (d : Nat) (s : Ds) (mb : Option Nat) (ms : List Fm) (h : Dv w0 d s mb ms) (hst : s.steps + 1 < 1000000) (x y : Nat) (t : Bs) (hxd : x ≠ d) (hyd : y ≠ d) (hx : w0.cell? ⟨x, 0, none⟩ = some (.pointer (some ⟨d, 0, none⟩))) (hy : w0.cell? ⟨y, 0, none⟩ = some (St t)) (hn : findF s t = none) (ht : named t = true) (h256 : s.files.length < 256) :
    Calls Tryz.prog 44 #[.pointer (some ⟨d, 0, none⟩), .func (.func 45) #[] #[.pointer (some ⟨x, 0, none⟩), .pointer (some ⟨y, 0, none⟩)]] w0 fun e w' => e = .returned (.int .i64 ((doD s fun s => addF s t).1 : Int)) ∧ Left w0 d mb ms (doD s fun s => addF s t).2 w' := by
  unfold doD
  cases hs : stepD s with
  | none =>
    refine (step_crash w0 d s mb ms h hs _).mono ?_
    rintro e w' ⟨rfl, h1, h2⟩
    exact ⟨rfl, mb, ms, h1, h2.more (fun g hg => by simp at hg; subst hg; simp [Fp]), fun g hg => .inl hg⟩
  | some s' =>
    simp only
    refine step_go w0 d s s' mb ms h hs 45 _ eg39 (Left w0 d mb ms (addF s' t)) ?_
    intro W hD hK
    have hcell : ∀ g, g ≠ d → ∀ u, w0.cell? ⟨g, 0, none⟩ = some u → W.cell? ⟨g, 0, none⟩ = some u := fun g hg u hu => by
      rw [← hu]
      exact World.cell?_of_block (hK.blk g (World.block_lt_of_cell? w0 ⟨g, 0, none⟩ hu) (by simpa using hg))
    refine (create1_any W d (preD s) mb ms hD x y t (hcell x hxd _ hx) (hcell y hyd _ hy) hn ht h256).mono ?_
    rintro e w' ⟨rfl, mb', h1, h2, h3⟩
    have e1 : addF s' t = { addF (preD s) t with steps := s.steps + 1 } := by rw [step_is hs]; rfl
    refine ⟨rfl, (cell_of_heap h1.blk 2).trans rfl, frozen_of_heap h1.blk 2, mb', ms ++ [nf W.heap.size], ?_, ?_, fun g hg => ?_⟩
    · rw [e1]
      exact h1.tick rfl hst
    · refine Kf.trans (hK.more (fun g hg => by simp at hg; subst hg; simp [Fp])) (h2.trans (Kf.set (F := Fp d mb ms) w' (by simp [Fp]) _ _) (fun g hg => .inl hg)) (fun g hg => .inl hg)
    · rcases h3 g hg with h4 | h4
      · exact .inl h4
      · exact .inr (Nat.le_trans hK.size h4)
end Go.Proofs.YtojnembakhhgiaaGreat

/- Create: the call. -/
namespace Go.Proofs.YtojnembakhhgiaaGreat
open Go.RowKit

/-- len, its run known -/
theorem wpList_len_run {P : Program} {w : World} {ops : Array Oper} {rest : List Oper} {o : Oper} {a : Act} {Q : Exit → Act → World → Prop} (hgd : o.guard = none) (m : Operand) (t : TypeId)
    (ho : o.op = .call { callee := .builtin .len, args := #[m], argTypes := #[t] }) (v v' : Value) (hm : a.eval m = v)
    (hrun : ∀ ty, (Builtin.len_ #[t] ty #[v]).run P w = .ok v' w) (h : wpList P ops Q rest (a.put o.dst v') w) : wpList P ops Q (o :: rest) a w := by
  refine wpList_plain hgd fun K hK => ?_
  unfold Oper.wp
  simp [execOp, ho, resolve, invoke, builtin, hm, hrun, Result.andThen]
  exact hK _ _ h
theorem Om.drewN {w : World} {b : Nat} {N : NM} (h : Om w b N) (k : Nat) : Om (w.drewN k) b N := h.same rfl
set_option maxRecDepth 100000 in
set_option maxHeartbeats 8000000 in
theorem create_any (w : World) (d : Nat) (s : Ds) (mb : Option Nat) (ms : List Fm) (h : Dv w d s mb ms) (hst : s.steps + 1 < 1000000) (t : Bs) (htl : t.length ≤ 140737488355328) :
    Calls Tryz.prog 15 #[.pointer (some ⟨d, 0, none⟩), St t] w fun e w' => e = .returned (.int .i64 ((createD s t).1 : Int)) ∧ Left w d mb ms (createD s t).2 w' := by
  obtain ⟨w0, hw0⟩ : ∃ w0, w0 = (w.alloc (.cells #[.pointer (some ⟨d, 0, none⟩)] 24)).alloc (.cells #[St t] 9) := ⟨_, rfl⟩
  have hb0 : Below w.heap.size w w0 := hw0 ▸ ((Below.refl _ _).alloc (Nat.le_refl _) _).alloc (by simp) _
  have hs0 : w0.heap.size = w.heap.size + 2 := by rw [hw0]; simp
  have hd : d < w.heap.size := lt_of_block h.blk
  have hx0 : w0.heap[w.heap.size]? = some (.cells #[.pointer (some ⟨d, 0, none⟩)] 24 (0, 0)) := by
    rw [hw0, Below.heap_alloc _ _ _ (by simp)]
    exact heap_alloc_new _ _
  have hy0 : w0.heap[w.heap.size + 1]? = some (.cells #[St t] 9 (0, 0)) := by
    have := heap_alloc_new (w.alloc (.cells #[.pointer (some ⟨d, 0, none⟩)] 24)) (.cells #[St t] 9)
    rw [hw0]
    simpa using this
  have hD0 := h.low hb0
  have HRY := hid (ready_any w0 d s mb ms hD0)
  have HNM := hid (isName_any w0 t)
  have HLE : Hid (∀ W s', Left w0 d mb ms s' W → Left w d mb ms s' W) := hid (fun W s' hL => by
    obtain ⟨mb', ms', h1, h2, h3⟩ := hL
    exact ⟨mb', ms', h1, (below_kf hb0).trans h2 (fun g hg => .inl hg), fun g hg => by
      rcases h3 g hg with h4 | h4
      · exact .inl h4
      · exact .inr (by omega)⟩)
  have HST : Hid (Left w d mb ms s w0) := hid (Left.stay h hb0)
  have HSD : Hid (∀ k, Left w d mb ms s (w0.drewN k)) := hid (fun k => Left.stay h (drewN_below hb0 k))
  have cx : w0.cell? ⟨w.heap.size, 0, none⟩ = some (.pointer (some ⟨d, 0, none⟩)) := (cell_of_heap hx0 0).trans rfl
  have cy : w0.cell? ⟨w.heap.size + 1, 0, none⟩ = some (St t) := (cell_of_heap hy0 0).trans rfl
  have c1 : w0.cell? ⟨d, 1, none⟩ = some (.map mb) := (cell_of_heap hD0.blk 1).trans rfl
  obtain ⟨R, hR⟩ : ∃ R, R = createD s t := ⟨_, rfl⟩
  rw [← hR]
  have HR := hid hR
  clear hR
  cases ho : s.off with
  | true =>
    rw [ho] at HRY
    have HRE : Hid (R = (7, s)) := hid (by rw [HR.out]; unfold createD; rw [if_pos ho])
    go_enter Tryz.func15, Tryz.ntmps15
    go_wp2_with fail
    rw [← hw0]
    clear hw0 hs0
    go_wp2_with fail
    refine HRY.out.mono ?_
    rintro e w1 ⟨rfl, hw⟩
    subst hw
    go_wp2_with fail
    go_ret
    rw [HRE.out]
    exact ⟨rfl, HST.out⟩
  | false =>
    rw [ho] at HRY
    have hR1 : R = if named t = false then (2, s) else if (findF s t).isSome = true then (90, s) else if 256 ≤ s.files.length then (3, s) else doD s fun s => addF s t := by
      rw [HR.out]
      unfold createD
      rw [if_neg (by rw [ho]; decide)]
      rfl
    cases hnm : named t with
    | false =>
      rw [hnm] at HNM
      have HRE : Hid (R = (2, s)) := hid (by rw [hR1, if_pos hnm])
      clear hR1
      go_enter Tryz.func15, Tryz.ntmps15
      go_wp2_with fail
      rw [← hw0]
      clear hw0 hs0
      go_wp2_with fail
      refine HRY.out.mono ?_
      rintro e w1 ⟨rfl, hw⟩
      subst hw
      go_wp2_with fail
      refine HNM.out.mono ?_
      rintro e w2 ⟨rfl, hw⟩
      subst hw
      go_wp2_with fail
      go_ret
      rw [HRE.out]
      exact ⟨rfl, HST.out⟩
    | true =>
      rw [hnm] at HNM
      rw [if_neg (by rw [hnm]; decide)] at hR1
      have hlk : ∀ k, (Instr.lookup 52 (.map mb) (.string ⟨t.toArray⟩) false).run Tryz.prog (w0.drewN k) = .ok (pv (namesOf s ms t)) (w0.drewN k) := fun k => by
        cases mb with
        | none =>
          rw [show namesOf s ms t = none by unfold namesOf; rw [h.nomap rfl]; rfl]
          exact look_nil _ t htl
        | some b => exact ((hD0.map b rfl).drewN k).look t htl
      have hsome := names_some (s := s) h.len t
      cases hfo : namesOf s ms t with
      | some p =>
        rw [hfo] at hsome hlk
        have hs2 : (findF s t).isSome = true := by rw [← hsome]; rfl
        have HRE : Hid (R = (90, s)) := hid (by rw [hR1, if_pos hs2])
        have hlk2 : ∀ k, (Instr.lookup 52 (.map mb) (.string ⟨t.toArray⟩) false).run Tryz.prog (w0.drewN k) = .ok (.pointer (some ⟨p, 0, none⟩)) (w0.drewN k) := hlk
        clear hR1 hlk hsome hfo hs2
        go_enter Tryz.func15, Tryz.ntmps15
        go_wp2_with fail
        rw [← hw0]
        clear hw0 hs0
        go_wp2_with fail
        refine HRY.out.mono ?_
        rintro e w1 ⟨rfl, hw⟩
        subst hw
        go_wp2_with fail
        refine HNM.out.mono ?_
        rintro e w2 ⟨rfl, hw⟩
        subst hw
        go_wp2_with fail
        go_quiet (fail)
        go_wp2_with fail
        go_ret
        rw [HRE.out]
        exact ⟨rfl, HSD.out _⟩
      | none =>
        rw [hfo] at hsome hlk
        have hfn : findF s t = none := by
          cases hf : findF s t with
          | none => rfl
          | some f => rw [hf] at hsome; cases hsome
        rw [if_neg (by rw [hfn]; decide)] at hR1
        have hlk2 : ∀ k, (Instr.lookup 52 (.map mb) (.string ⟨t.toArray⟩) false).run Tryz.prog (w0.drewN k) = .ok (.pointer none) (w0.drewN k) := hlk
        have HCS : Hid (s.files.length < 256 → ∀ k, Calls Tryz.prog 44 #[.pointer (some ⟨d, 0, none⟩), .func (.func 45) #[] #[.pointer (some ⟨w.heap.size, 0, none⟩), .pointer (some ⟨w.heap.size + 1, 0, none⟩)]] (w0.drewN k) fun e w' => e = .returned (.int .i64 ((doD s fun s => addF s t).1 : Int)) ∧ Left w d mb ms (doD s fun s => addF s t).2 w') := hid (fun h256 k => by
          refine (create_step (w0.drewN k) d s mb ms (hD0.same (fun _ _ => rfl)) hst w.heap.size (w.heap.size + 1) t (by omega) (by omega) cx cy hfn hnm h256).mono ?_
          rintro e w' ⟨rfl, hL⟩
          refine ⟨rfl, HLE.out w' _ ?_⟩
          obtain ⟨mb', ms', h1, h2, h3⟩ := hL
          exact ⟨mb', ms', h1, ⟨h2.os, h2.tape, h2.output, h2.size, h2.blk⟩, h3⟩)
        have HLN : Hid (∀ b, mb = some b → ∀ k ty, (Builtin.len_ #[52] ty #[.map (some b)]).run Tryz.prog (w0.drewN k) = .ok (.int .i64 (s.files.length : Int)) (w0.drewN k)) := hid (fun b e k ty => by
          have := ((hD0.map b e).drewN k).len (s.files.map Df.name) h.ok.names (fun u => ⟨fun hu => by
            rw [names_some h.len]
            obtain ⟨f, hf, rfl⟩ := List.mem_map.1 hu
            rw [find_is h.ok hf]
            rfl, names_few h.len u⟩) ty
          rw [List.length_map] at this
          exact this)
        have HN0 : Hid (mb = none → s.files.length = 0) := hid (fun e => by rw [h.nomap e]; rfl)
        have hfew := h.ok.few
        clear hlk hsome hfo hfn
        obtain ⟨n, hn⟩ : ∃ n : Int, n = (s.files.length : Int) := ⟨_, rfl⟩
        cases mb with
        | some b =>
          have HL2 := hid (fun k => HLN.out b rfl k)
          rw [← hn] at HL2
          by_cases h256 : 256 ≤ s.files.length
          · have HRE : Hid (R = (3, s)) := hid (by rw [hR1, if_pos h256])
            have hn1 : (256 : Int) ≤ n := by omega
            clear hR1 hn h256 hfew
            go_enter Tryz.func15, Tryz.ntmps15
            go_wp2_with fail
            rw [← hw0]
            clear hw0 hs0
            go_wp2_with fail
            refine HRY.out.mono ?_
            rintro e w1 ⟨rfl, hw⟩
            subst hw
            go_wp2_with fail
            refine HNM.out.mono ?_
            rintro e w2 ⟨rfl, hw⟩
            subst hw
            go_wp2_with fail
            go_quiet (fail)
            go_wp2_with (first | (at_len; refine wpList_len_run rfl (.tmp 27) 52 rfl _ (.int .i64 n) rfl (HL2.out _) ?_) | fail)
            go_ret
            rw [HRE.out]
            exact ⟨rfl, HSD.out _⟩
          · have HRE : Hid (R = doD s fun s => addF s t) := hid (by rw [hR1, if_neg h256])
            have HC2 := hid (HCS.out (by omega))
            have hn1 : ¬ (256 : Int) ≤ n := by omega
            clear hR1 hn h256 hfew HCS
            go_enter Tryz.func15, Tryz.ntmps15
            go_wp2_with fail
            rw [← hw0]
            clear hw0 hs0
            go_wp2_with fail
            refine HRY.out.mono ?_
            rintro e w1 ⟨rfl, hw⟩
            subst hw
            go_wp2_with fail
            refine HNM.out.mono ?_
            rintro e w2 ⟨rfl, hw⟩
            subst hw
            go_wp2_with fail
            go_quiet (fail)
            go_wp2_with (first | (at_len; refine wpList_len_run rfl (.tmp 27) 52 rfl _ (.int .i64 n) rfl (HL2.out _) ?_) | fail)
            refine (HC2.out _).mono ?_
            rintro e w' ⟨rfl, hL⟩
            have HL := hid hL
            clear hL
            go_wp2_with fail
            go_ret
            rw [HRE.out]
            exact ⟨rfl, HL.out⟩
        | none =>
          have h0 := HN0.out rfl
          have HRE : Hid (R = doD s fun s => addF s t) := hid (by rw [hR1, if_neg (by omega)])
          have HC2 := hid (HCS.out (by omega))
          have HLZ : Hid (∀ W ty, (Builtin.len_ #[52] ty #[.map none]).run Tryz.prog W = .ok (.int .i64 0) W) := hid (fun W ty => Maps.len_nil Tryz.underlying52 ty)
          clear hR1 hn h0 hfew HCS
          go_enter Tryz.func15, Tryz.ntmps15
          go_wp2_with fail
          rw [← hw0]
          clear hw0 hs0
          go_wp2_with fail
          refine HRY.out.mono ?_
          rintro e w1 ⟨rfl, hw⟩
          subst hw
          go_wp2_with fail
          refine HNM.out.mono ?_
          rintro e w2 ⟨rfl, hw⟩
          subst hw
          go_wp2_with fail
          go_quiet (fail)
          go_wp2_with (first | (at_len; refine wpList_len_run rfl (.tmp 27) 52 rfl _ (.int .i64 0) rfl (HLZ.out _) ?_) | fail)
          refine (HC2.out _).mono ?_
          rintro e w' ⟨rfl, hL⟩
          have HL := hid hL
          clear hL
          go_wp2_with fail
          go_ret
          rw [HRE.out]
          exact ⟨rfl, HL.out⟩
end Go.Proofs.YtojnembakhhgiaaGreat
