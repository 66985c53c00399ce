import Derived.Test.YtojnembakhhgiaaGreatProg
/- A disk: the document's words, as one state that both the program's memory and the document's are views of. No program in it. -/
namespace Go.Proofs.YtojnembakhhgiaaGreat

abbrev Bs := List UInt8
/-- a page of noughts; bytes with noughts behind -/
def nought : Bs := List.replicate 256 0
def pageB (b : Bs) : Bs := b ++ List.replicate (256 - b.length) 0
theorem pageB_len {b : Bs} (h : b.length ≤ 256) : (pageB b).length = 256 := by
  unfold pageB
  rw [List.length_append, List.length_replicate]
  omega
/-- a write: which step it was, of which file (by number), at which page, what -/
structure Dw where
  step : Nat
  no : Nat
  at' : Nat
  pg : Bs
/-- a file: its number, its name, what is settled -/
structure Df where
  no : Nat
  name : Bs
  settled : List Bs
/-- pages with a write: noughts fill what is wanting ahead of it -/
def lay (l : List Bs) (at' : Nat) (p : Bs) : List Bs := (l ++ List.replicate (at' + 1 - l.length) nought).set at' p
def layAll (l : List Bs) (ws : List Dw) : List Bs := ws.foldl (fun l w => lay l w.at' w.pg) l
theorem lay_len (l : List Bs) (a : Nat) (p : Bs) : (lay l a p).length = max l.length (a + 1) := by
  unfold lay
  rw [List.length_set, List.length_append, List.length_replicate]
  omega
theorem layAll_nil (l : List Bs) : layAll l [] = l := rfl
theorem layAll_snoc (l : List Bs) (ws : List Dw) (w : Dw) : layAll l (ws ++ [w]) = lay (layAll l ws) w.at' w.pg := by
  unfold layAll
  rw [List.foldl_append]
  rfl
theorem layAll_app (l : List Bs) (a b : List Dw) : layAll l (a ++ b) = layAll (layAll l a) b := by
  unfold layAll
  rw [List.foldl_append]
structure Ds where
  quota : Nat
  steps : Nat
  next : Nat
  set : Bool
  inn : Nat
  keep : Nat
  off : Bool
  files : List Df
  opn : List Dw
def ofNo (ws : List Dw) (no : Nat) : List Dw := ws.filter fun w => w.no == no
def notNo (ws : List Dw) (no : Nat) : List Dw := ws.filter fun w => w.no != no
theorem of_not {ws : List Dw} {a b : Nat} (h : a ≠ b) : ofNo (notNo ws a) b = ofNo ws b := by
  unfold ofNo notNo
  rw [List.filter_filter]
  apply List.filter_congr
  intro w _
  by_cases e : w.no = b
  · simp [e]
    exact fun e2 => h e2.symm
  · simp [e]
theorem of_not_same (ws : List Dw) (a : Nat) : ofNo (notNo ws a) a = [] := by
  unfold ofNo notNo
  rw [List.filter_filter, List.filter_eq_nil_iff]
  intro w _
  simp
/-- the pages of a file -/
def pagesOf (s : Ds) (f : Df) : List Bs := layAll f.settled (ofNo s.opn f.no)
def findF (s : Ds) (name : Bs) : Option Df := s.files.find? fun f => f.name == name
def usedN (s : Ds) : Nat := (s.files.map fun f => (pagesOf s f).length).sum
def named (b : Bs) : Bool := decide (1 ≤ b.length) && decide (b.length ≤ 100)
/-- what New makes -/
def newD (q : Int) : Ds := ⟨(min (max q 0) 65536).toNat, 0, 0, false, 0, 0, false, [], []⟩
/-- a step happens (some), or the power fails (none) -/
def stepD (s : Ds) : Option Ds := if s.set = true ∧ s.inn = 0 then none else some { s with steps := s.steps + 1, inn := if s.set = true then s.inn - 1 else s.inn }
def offD (s : Ds) : Ds := { s with off := true }
/-- what a step does, unless the power fails just then: 7 is ErrCrash -/
def doD (s : Ds) (f : Ds → Ds) : Nat × Ds := match stepD s with
  | none => (7, offD s)
  | some s' => (0, f s')
def dropF (s : Ds) (no : Nat) : Ds := { s with files := s.files.filter (fun f => f.no != no), opn := notNo s.opn no }
/-! the calls: the error's number and the disk behind them -/
def createD (s : Ds) (name : Bs) : Nat × Ds :=
  if s.off = true then (7, s) else if named name = false then (2, s) else if (findF s name).isSome = true then (90, s) else if 256 ≤ s.files.length then (3, s)
  else doD s fun s => { s with files := s.files ++ [⟨s.next, name, []⟩], next := s.next + 1 }
def removeD (s : Ds) (name : Bs) : Nat × Ds :=
  if s.off = true then (7, s) else match findF s name with
  | none => (91, s)
  | some f => doD s fun s => dropF s f.no
def renamed (s : Ds) (no : Nat) (to : Bs) : Ds := { s with files := s.files.map fun f => if f.no == no then { f with name := to } else f }
def renameD (s : Ds) (fr to : Bs) : Nat × Ds :=
  if s.off = true then (7, s) else match findF s fr with
  | none => (91, s)
  | some f => if named to = false then (2, s) else doD s fun s => if fr = to then s else match findF s to with
    | none => renamed s f.no to
    | some g => renamed (dropF s g.no) f.no to
def writeD (s : Ds) (name : Bs) (page : Int) (b : Bs) : Nat × Ds :=
  if s.off = true then (7, s) else match findF s name with
  | none => (91, s)
  | some f => if 256 < b.length then (2, s) else if page < 0 ∨ ((pagesOf s f).length : Int) < page then (92, s)
    else if page = ((pagesOf s f).length : Int) ∧ s.quota ≤ usedN s then (93, s)
    else doD s fun s' => { s' with opn := s'.opn ++ [⟨s.steps, f.no, page.toNat, pageB b⟩] }
/-- the file that was synced stands last, as in the document's own row -/
def syncD (s : Ds) (name : Bs) : Nat × Ds :=
  if s.off = true then (7, s) else match findF s name with
  | none => (91, s)
  | some f => doD s fun s => { dropF s f.no with files := (dropF s f.no).files ++ [{ f with settled := pagesOf s f }] }
def readDk (s : Ds) (name : Bs) (page : Int) : Bs × Nat :=
  if s.off = true then ([], 7) else match findF s name with
  | none => ([], 91)
  | some f => if page < 0 ∨ ((pagesOf s f).length : Int) ≤ page then ([], 92) else ((pagesOf s f).getD page.toNat [], 0)
def lenD (s : Ds) (name : Bs) : Nat × Nat :=
  if s.off = true then (0, 7) else match findF s name with
  | none => (0, 91)
  | some f => ((pagesOf s f).length, 0)
def failD (s : Ds) (i : Int) (keep : Nat) : Ds := if s.off = true then s else { s with set := true, inn := (max i 0).toNat, keep := keep }
/-- does the write with this number stay? -/
def bitK (keep n : Nat) : Bool := keep.testBit (n % 64)
def stay (keep : Nat) : Nat → List Dw → List Dw
  | _, [] => []
  | n, w :: ws => if bitK keep n = true then w :: stay keep (n + 1) ws else stay keep (n + 1) ws
def onD (s : Ds) : Ds :=
  if s.off = false then s else
  { s with files := s.files.map (fun f => { f with settled := layAll f.settled (ofNo (stay s.keep 0 s.opn) f.no) }), opn := [], off := false, set := false, inn := 0, keep := 0 }
/-! what stays true of a disk -/
structure Dok (s : Ds) : Prop where
  quota : s.quota ≤ 65536
  nos : (s.files.map Df.no).Nodup
  names : (s.files.map Df.name).Nodup
  lens : ∀ f ∈ s.files, named f.name = true
  few : s.files.length ≤ 256
  next : ∀ f ∈ s.files, f.no < s.next
  pgs : ∀ f ∈ s.files, ∀ p ∈ f.settled, p.length = 256
  own : ∀ w ∈ s.opn, w.pg.length = 256 ∧ w.step < s.steps ∧ ∃ f ∈ s.files, f.no = w.no
  rise : (s.opn.map Dw.step).Pairwise (· < ·)
theorem new_ok (q : Int) : Dok (newD q) :=
  ⟨by show (min (max q 0) 65536).toNat ≤ 65536; omega, List.nodup_nil, List.nodup_nil, fun _ h => (by cases h), by show 0 ≤ 256; omega, fun _ h => (by cases h), fun _ h => (by cases h), fun _ h => (by cases h), List.Pairwise.nil⟩
theorem find_mem {s : Ds} {name : Bs} {f : Df} (h : findF s name = some f) : f ∈ s.files ∧ f.name = name := by
  unfold findF at h
  exact ⟨List.mem_of_find?_eq_some h, by simpa using List.find?_some h⟩
theorem step_ok {s s' : Ds} (h : Dok s) (e : stepD s = some s') : Dok s' ∧ s'.files = s.files ∧ s'.opn = s.opn ∧ s'.steps = s.steps + 1 ∧ s'.next = s.next ∧ s'.quota = s.quota ∧ s'.off = s.off := by
  unfold stepD at e
  split at e
  · cases e
  · cases e
    exact ⟨⟨h.quota, h.nos, h.names, h.lens, h.few, h.next, h.pgs, fun w hw => by
      obtain ⟨a, b, c⟩ := h.own w hw
      exact ⟨a, Nat.lt_succ_of_lt b, c⟩, h.rise⟩, rfl, rfl, rfl, rfl, rfl, rfl⟩
theorem fail_ok {s : Ds} (h : Dok s) (i : Int) (k : Nat) : Dok (failD s i k) := by
  unfold failD
  split
  · exact h
  · exact ⟨h.quota, h.nos, h.names, h.lens, h.few, h.next, h.pgs, h.own, h.rise⟩
theorem off_ok {s : Ds} (h : Dok s) : Dok (offD s) := ⟨h.quota, h.nos, h.names, h.lens, h.few, h.next, h.pgs, h.own, h.rise⟩
theorem stay_sub (keep : Nat) : ∀ (n : Nat) (ws : List Dw), (stay keep n ws).Sublist ws
  | _, [] => List.Sublist.slnil
  | n, w :: ws => by
    rw [stay]
    split
    · exact (stay_sub keep (n + 1) ws).cons_cons w
    · exact (stay_sub keep (n + 1) ws).cons w
theorem do_ok {s : Ds} {f : Ds → Ds} (h : Dok s) (hf : ∀ s', stepD s = some s' → Dok (f s')) : Dok (doD s f).2 := by
  unfold doD
  split
  · exact off_ok h
  · rename_i s' e
    exact hf s' e
theorem lay_pgs {l : List Bs} {a : Nat} {p : Bs} (hl : ∀ q ∈ l, q.length = 256) (hp : p.length = 256) : ∀ q ∈ lay l a p, q.length = 256 := by
  intro q hq
  unfold lay at hq
  rcases List.mem_or_eq_of_mem_set hq with h | h
  · rcases List.mem_append.1 h with h | h
    · exact hl q h
    · rw [(List.mem_replicate.1 h).2]
      unfold nought
      rw [List.length_replicate]
  · rw [h]
    exact hp
theorem layAll_pgs : ∀ (ws : List Dw) {l : List Bs} (_ : ∀ q ∈ l, q.length = 256) (_ : ∀ w ∈ ws, w.pg.length = 256), ∀ q ∈ layAll l ws, q.length = 256
  | [], _, hl, _ => hl
  | w :: ws, _, hl, hw => layAll_pgs ws (lay_pgs hl (hw w (by simp))) (fun u hu => hw u (by simp [hu]))
theorem pages_ok {s : Ds} (h : Dok s) {f : Df} (hf : f ∈ s.files) : ∀ q ∈ pagesOf s f, q.length = 256 :=
  layAll_pgs _ (h.pgs f hf) (fun w hw => (h.own w (List.mem_filter.1 hw).1).1)
theorem find_none {s : Ds} {name : Bs} (h : findF s name = none) : ∀ f ∈ s.files, f.name ≠ name := by
  unfold findF at h
  intro f hf e
  have := List.find?_eq_none.1 h f hf
  simp [e] at this
theorem find_same {s s' : Ds} (h : s'.files = s.files) (name : Bs) : findF s' name = findF s name := by unfold findF; rw [h]
theorem drop_ok {s : Ds} (h : Dok s) (no : Nat) : Dok (dropF s no) := by
  have hsub : (s.files.filter fun f => f.no != no).Sublist s.files := List.filter_sublist
  refine ⟨h.quota, h.nos.sublist (hsub.map _), h.names.sublist (hsub.map _), fun f hf => h.lens f (hsub.subset hf), Nat.le_trans hsub.length_le h.few, fun f hf => h.next f (hsub.subset hf), fun f hf => h.pgs f (hsub.subset hf), fun w hw => ?_, ?_⟩
  · obtain ⟨h1, h2⟩ := List.mem_filter.1 (show w ∈ s.opn.filter _ from hw)
    obtain ⟨a, b, f, hf, e⟩ := h.own w h1
    refine ⟨a, b, f, List.mem_filter.2 ⟨hf, ?_⟩, e⟩
    rw [e]
    exact h2
  · exact h.rise.sublist ((List.filter_sublist (l := s.opn)).map _)
theorem create_ok {s : Ds} (h : Dok s) (name : Bs) : Dok (createD s name).2 := by
  unfold createD
  split
  · exact h
  · split
    · exact h
    · rename_i hn
      split
      · exact h
      · rename_i hfi
        split
        · exact h
        · rename_i h256
          refine do_ok h fun s' e => ?_
          obtain ⟨h', e1, e2, e3, e4, e5, e6⟩ := step_ok h e
          have hno : findF s name = none := by
            cases hf : findF s name with
            | none => rfl
            | some f => rw [hf] at hfi; exact absurd rfl hfi
          have hfn := find_none hno
          refine ⟨h'.quota, ?_, ?_, fun f hf => ?_, ?_, fun f hf => ?_, fun f hf => ?_, fun w hw => ?_, h'.rise⟩
          · show (List.map Df.no (s'.files ++ [_])).Nodup
            rw [List.map_append, List.nodup_append]
            refine ⟨h'.nos, by simp, fun a ha b hb => ?_⟩
            simp at hb
            subst hb
            obtain ⟨f, hf, rfl⟩ := List.mem_map.1 ha
            have := h'.next f hf
            omega
          · show (List.map Df.name (s'.files ++ [_])).Nodup
            rw [List.map_append, List.nodup_append]
            refine ⟨h'.names, by simp, fun a ha b hb => ?_⟩
            simp at hb
            subst hb
            obtain ⟨f, hf, rfl⟩ := List.mem_map.1 ha
            exact hfn f (e1 ▸ hf)
          · rcases List.mem_append.1 (show f ∈ s'.files ++ [_] from hf) with hf | hf
            · exact h'.lens f hf
            · simp at hf
              subst hf
              simpa using hn
          · show (s'.files ++ [_]).length ≤ 256
            rw [List.length_append, e1]
            simp
            omega
          · rcases List.mem_append.1 (show f ∈ s'.files ++ [_] from hf) with hf | hf
            · exact Nat.lt_succ_of_lt (h'.next f hf)
            · simp at hf
              subst hf
              exact Nat.lt_succ_self _
          · rcases List.mem_append.1 (show f ∈ s'.files ++ [_] from hf) with hf | hf
            · exact h'.pgs f hf
            · simp at hf
              subst hf
              intro p hp
              cases hp
          · obtain ⟨a, b, f, hf, e⟩ := h'.own w hw
            exact ⟨a, b, f, List.mem_append.2 (.inl hf), e⟩
theorem remove_ok {s : Ds} (h : Dok s) (name : Bs) : Dok (removeD s name).2 := by
  unfold removeD
  split
  · exact h
  · split
    · exact h
    · exact do_ok h fun s' e => drop_ok (step_ok h e).1 _
theorem write_ok {s : Ds} (h : Dok s) (name : Bs) (page : Int) (b : Bs) : Dok (writeD s name page b).2 := by
  unfold writeD
  split
  · exact h
  · split
    · exact h
    · rename_i f hf
      split
      · exact h
      · rename_i hb
        split
        · exact h
        · split
          · exact h
          · refine do_ok h fun s' e => ?_
            obtain ⟨h', e1, e2, e3, e4, e5, e6⟩ := step_ok h e
            have hfm := (find_mem hf).1
            refine ⟨h'.quota, h'.nos, h'.names, h'.lens, h'.few, h'.next, h'.pgs, fun w hw => ?_, ?_⟩
            · rcases List.mem_append.1 (show w ∈ s'.opn ++ [_] from hw) with hw | hw
              · exact h'.own w hw
              · simp at hw
                subst hw
                exact ⟨pageB_len (by omega), by show s.steps < s'.steps; omega, f, e1 ▸ hfm, rfl⟩
            · show (List.map Dw.step (s'.opn ++ [_])).Pairwise (· < ·)
              rw [List.map_append, List.pairwise_append]
              refine ⟨h'.rise, by simp, fun a ha b hb => ?_⟩
              simp at hb
              subst hb
              obtain ⟨w, hw, rfl⟩ := List.mem_map.1 ha
              exact (h.own w (e2 ▸ hw)).2.1
end Go.Proofs.YtojnembakhhgiaaGreat

/- A disk: what stays true of it, and what follows. No program in it. -/
namespace Go.Proofs.YtojnembakhhgiaaGreat

theorem nodup_inj {α β : Type} {f : α → β} : ∀ {l : List α}, (l.map f).Nodup → ∀ {a b : α}, a ∈ l → b ∈ l → f a = f b → a = b
  | [], _, _, _, ha, _, _ => by cases ha
  | x :: l, h, a, b, ha, hb, e => by
    rw [List.map_cons, List.nodup_cons] at h
    rcases List.mem_cons.1 ha with ha' | ha'
    · rcases List.mem_cons.1 hb with hb' | hb'
      · rw [ha', hb']
      · exact absurd (List.mem_map.2 ⟨b, hb', by rw [← e, ha']⟩) h.1
    · rcases List.mem_cons.1 hb with hb' | hb'
      · exact absurd (List.mem_map.2 ⟨a, ha', by rw [e, hb']⟩) h.1
      · exact nodup_inj h.2 ha' hb' e
theorem no_uniq {s : Ds} (h : Dok s) {f g : Df} (hf : f ∈ s.files) (hg : g ∈ s.files) (e : f.no = g.no) : f = g := nodup_inj h.nos hf hg e
theorem name_uniq {s : Ds} (h : Dok s) {f g : Df} (hf : f ∈ s.files) (hg : g ∈ s.files) (e : f.name = g.name) : f = g := nodup_inj h.names hf hg e
theorem find_is {s : Ds} (h : Dok s) {f : Df} (hf : f ∈ s.files) : findF s f.name = some f := by
  cases e : findF s f.name with
  | none => exact absurd rfl (find_none e f hf)
  | some g =>
    obtain ⟨h1, h2⟩ := find_mem e
    rw [name_uniq h h1 hf h2]
theorem sync_ok {s : Ds} (h : Dok s) (name : Bs) : Dok (syncD s name).2 := by
  unfold syncD
  split
  · exact h
  · split
    · exact h
    · rename_i f hf
      refine do_ok h fun s' e => ?_
      obtain ⟨h', e1, e2, e3, e4, e5, e6⟩ := step_ok h e
      have hfm : f ∈ s'.files := e1 ▸ (find_mem hf).1
      have hd := drop_ok h' f.no
      have hout : ∀ g ∈ (dropF s' f.no).files, g ∈ s'.files ∧ g.no ≠ f.no := fun g hg => by
        obtain ⟨a, b⟩ := List.mem_filter.1 (show g ∈ s'.files.filter _ from hg)
        exact ⟨a, by simpa using b⟩
      have hmem : ∀ g, g ∈ (dropF s' f.no).files ++ [{ f with settled := pagesOf s' f }] → g ∈ (dropF s' f.no).files ∨ g = { f with settled := pagesOf s' f } := fun g hg => by
        rcases List.mem_append.1 hg with h1 | h1
        · exact .inl h1
        · exact .inr (by simpa using h1)
      refine ⟨hd.quota, ?_, ?_, fun g hg => ?_, ?_, fun g hg => ?_, fun g hg => ?_, fun w hw => ?_, hd.rise⟩
      · show (List.map Df.no (_ ++ [_])).Nodup
        rw [List.map_append, List.nodup_append]
        refine ⟨hd.nos, by simp, fun a ha b hb => ?_⟩
        simp at hb
        subst hb
        obtain ⟨g, hg, rfl⟩ := List.mem_map.1 ha
        exact (hout g hg).2
      · show (List.map Df.name (_ ++ [_])).Nodup
        rw [List.map_append, List.nodup_append]
        refine ⟨hd.names, by simp, fun a ha b hb => ?_⟩
        simp at hb
        subst hb
        obtain ⟨g, hg, rfl⟩ := List.mem_map.1 ha
        exact fun e => (hout g hg).2 (congrArg Df.no (name_uniq h' (hout g hg).1 hfm e))
      · rcases hmem g hg with h1 | rfl
        · exact hd.lens g h1
        · exact h'.lens f hfm
      · show (_ ++ [_]).length ≤ 256
        rw [List.length_append]
        have h1 : (dropF s' f.no).files.length < s'.files.length := by
          show (s'.files.filter _).length < _
          rw [← List.countP_eq_length_filter]
          refine Nat.lt_of_le_of_ne List.countP_le_length fun e => ?_
          have := List.countP_eq_length.1 e f hfm
          simp at this
        have h2 := h'.few
        simp
        omega
      · rcases hmem g hg with h1 | rfl
        · exact hd.next g h1
        · exact h'.next f hfm
      · rcases hmem g hg with h1 | rfl
        · exact hd.pgs g h1
        · exact pages_ok h' hfm
      · obtain ⟨a, b, g, hg, e⟩ := hd.own w hw
        exact ⟨a, b, g, List.mem_append.2 (.inl hg), e⟩
theorem named_ok {s : Ds} (h : Dok s) {no : Nat} {to : Bs} (ht : named to = true) (hno : ∀ f ∈ s.files, f.name ≠ to) : Dok (renamed s no to) := by
  have hmap : ∀ g ∈ (renamed s no to).files, ∃ f ∈ s.files, g.no = f.no ∧ g.settled = f.settled ∧ (g.name = f.name ∨ g.name = to) := fun g hg => by
    obtain ⟨f, hf, rfl⟩ := List.mem_map.1 (show g ∈ s.files.map _ from hg)
    refine ⟨f, hf, ?_⟩
    split
    · exact ⟨rfl, rfl, .inr rfl⟩
    · exact ⟨rfl, rfl, .inl rfl⟩
  have hnos : (renamed s no to).files.map Df.no = s.files.map Df.no := by
    show (s.files.map _).map Df.no = _
    rw [List.map_map]
    apply List.map_congr_left
    intro f _
    show Df.no (if _ then _ else _) = _
    split <;> rfl
  refine ⟨h.quota, by rw [hnos]; exact h.nos, ?_, fun g hg => ?_, by show (s.files.map _).length ≤ 256; rw [List.length_map]; exact h.few, fun g hg => ?_, fun g hg => ?_, fun w hw => ?_, h.rise⟩
  · show ((s.files.map _).map Df.name).Nodup
    rw [List.map_map, List.nodup_iff_pairwise_ne, List.pairwise_map]
    have h1 := h.names
    have h2 := h.nos
    rw [List.nodup_iff_pairwise_ne, List.pairwise_map] at h1 h2
    refine (List.Pairwise.and_mem.1 (h1.and h2)).imp ?_
    rintro a b ⟨ha, hb, h3, h4⟩
    show Df.name (if _ then _ else _) ≠ Df.name (if _ then _ else _)
    split <;> split
    · rename_i e1 e2
      simp at e1 e2
      exact absurd (e1.trans e2.symm) h4
    · exact fun e => hno b hb e.symm
    · exact hno a ha
    · exact h3
  · obtain ⟨f, hf, _, _, e | e⟩ := hmap g hg
    · rw [e]; exact h.lens f hf
    · rw [e]; exact ht
  · obtain ⟨f, hf, e, _⟩ := hmap g hg
    rw [e]
    exact h.next f hf
  · obtain ⟨f, hf, _, e, _⟩ := hmap g hg
    rw [e]
    exact h.pgs f hf
  · obtain ⟨a, b, f, hf, e⟩ := h.own w hw
    refine ⟨a, b, _, List.mem_map.2 ⟨f, hf, rfl⟩, ?_⟩
    rw [← e]
    split <;> rfl
theorem rename_ok {s : Ds} (h : Dok s) (fr to : Bs) : Dok (renameD s fr to).2 := by
  unfold renameD
  split
  · exact h
  · split
    · exact h
    · rename_i f hf
      split
      · exact h
      · rename_i hn
        have ht : named to = true := by simpa using hn
        refine do_ok h fun s' e => ?_
        obtain ⟨h', e1, e2, e3, e4, e5, e6⟩ := step_ok h e
        split
        · exact h'
        · split
          · rename_i hg
            exact named_ok h' ht (find_none hg)
          · rename_i g hg
            refine named_ok (drop_ok h' g.no) ht fun k hk e => ?_
            obtain ⟨a, b⟩ := List.mem_filter.1 (show k ∈ s'.files.filter _ from hk)
            obtain ⟨c, d⟩ := find_mem hg
            have := name_uniq h' a c (e.trans d.symm)
            rw [this] at b
            simp at b
theorem on_ok {s : Ds} (h : Dok s) : Dok (onD s) := by
  unfold onD
  split
  · exact h
  · refine ⟨h.quota, ?_, ?_, fun g hg => ?_, by show (s.files.map _).length ≤ 256; rw [List.length_map]; exact h.few, fun g hg => ?_, fun g hg => ?_, fun w hw => (by cases hw), List.Pairwise.nil⟩
    · show ((s.files.map _).map Df.no).Nodup
      rw [List.map_map]
      exact h.nos
    · show ((s.files.map _).map Df.name).Nodup
      rw [List.map_map]
      exact h.names
    · obtain ⟨f, hf, rfl⟩ := List.mem_map.1 (show g ∈ s.files.map _ from hg)
      exact h.lens f hf
    · obtain ⟨f, hf, rfl⟩ := List.mem_map.1 (show g ∈ s.files.map _ from hg)
      exact h.next f hf
    · obtain ⟨f, hf, rfl⟩ := List.mem_map.1 (show g ∈ s.files.map _ from hg)
      exact layAll_pgs _ (h.pgs f hf) (fun w hw => (h.own w ((stay_sub _ _ _).subset (List.mem_filter.1 hw).1)).1)
end Go.Proofs.YtojnembakhhgiaaGreat
