import Derived.Test.YtojnembakhhgiaaGreatPwAll
import Derived.Test.YtojnembakhhgiaaGreatCwAll
import Derived.Test.YtojnembakhhgiaaGreatNaAll
import Derived.Test.YtojnembakhhgiaaGreatLA
/- What a failure loses: its mathematics; three disks side by side. -/
namespace Go.Proofs.YtojnembakhhgiaaGreat
open Go.RowKit

theorem do_quota {s : Ds} {f : Ds → Ds} (hf : ∀ s', (f s').quota = s'.quota) : (doD s f).2.quota = s.quota := by
  unfold doD stepD
  split
  · rfl
  · rename_i s' e
    split at e
    · cases e
    · cases e
      exact hf _
theorem quota_play (s : Ds) (x : Ox) : (playD s x).quota = s.quota := by
  unfold playD
  split
  · unfold createD
    repeat' split
    all_goals first
      | rfl
      | exact do_quota (fun _ => rfl)
  · unfold writeD
    repeat' split
    all_goals first
      | rfl
      | exact do_quota (fun _ => rfl)
  · unfold syncD
    repeat' split
    all_goals first
      | rfl
      | exact do_quota (fun _ => rfl)
  · unfold renameD
    split
    · rfl
    · split
      · rfl
      · split
        · rfl
        · refine do_quota (fun s' => ?_)
          show (if x.name = x.to then s' else _).quota = _
          split
          · rfl
          · split <;> rfl
  · unfold removeD
    repeat' split
    all_goals first
      | rfl
      | exact do_quota (fun _ => rfl)
  · unfold failD
    split <;> rfl
  · unfold onD
    split <;> rfl
  · rfl
/-- every file's name was told in a call -/
def Org (s : Ds) (L : List Bs) : Prop := ∀ f ∈ s.files, f.name ∈ L
theorem Org.more {s : Ds} {L M : List Bs} (h : Org s L) (hs : ∀ x ∈ L, x ∈ M) : Org s M := fun f hf => hs _ (h f hf)
theorem Org.sub {s s' : Ds} {L : List Bs} (h : Org s L) (hs : ∀ f ∈ s'.files, f.name ∈ s.files.map Df.name) : Org s' L := fun f hf => by
  obtain ⟨g, hg, e⟩ := List.mem_map.1 (hs f hf)
  rw [← e]
  exact h g hg
theorem org_do {s : Ds} {f : Ds → Ds} {L : List Bs} (h : Org s L) (hf : ∀ s', s'.files = s.files → Org s' L → Org (f s') L) : Org (doD s f).2 L := by
  unfold doD stepD
  split
  · exact h
  · rename_i s' e
    split at e
    · cases e
    · cases e
      exact hf _ rfl h
theorem org_play {s : Ds} {L : List Bs} (h : Org s L) (x : Ox) : Org (playD s x) (L ++ [x.name, x.to]) := by
  have h' : Org s (L ++ [x.name, x.to]) := h.more (fun y hy => List.mem_append.2 (.inl hy))
  have hdrop : ∀ (s' : Ds) (no : Nat), Org s' (L ++ [x.name, x.to]) → Org (dropF s' no) (L ++ [x.name, x.to]) := fun s' no hs f hf => hs f (List.mem_filter.1 hf).1
  unfold playD
  split
  · unfold createD
    repeat' split
    all_goals first
      | exact h'
      | (refine org_do h' (fun s' _ hs f hf => ?_)
         rcases List.mem_append.1 (show f ∈ s'.files ++ [_] from hf) with hf | hf
         · exact hs f hf
         · simp at hf
           subst hf
           simp)
  · unfold writeD
    repeat' split
    all_goals first
      | exact h'
      | exact org_do h' (fun s' _ hs f hf => hs f hf)
  · unfold syncD
    split
    · exact h'
    · split
      · exact h'
      · rename_i g hg
        refine org_do h' (fun s' e hs f hf => ?_)
        rcases List.mem_append.1 (show f ∈ (dropF s' g.no).files ++ [_] from hf) with hf | hf
        · exact hs f (List.mem_filter.1 hf).1
        · simp at hf
          subst hf
          exact hs g (e ▸ (find_mem hg).1)
  · unfold renameD
    split
    · exact h'
    · split
      · exact h'
      · rename_i g hg
        split
        · exact h'
        · refine org_do h' (fun s' e hs => ?_)
          have hren : ∀ s2 : Ds, Org s2 (L ++ [x.name, x.to]) → Org (renamed s2 g.no x.to) (L ++ [x.name, x.to]) := fun s2 h2 f hf => by
            obtain ⟨k, hk, rfl⟩ := List.mem_map.1 (show f ∈ s2.files.map _ from hf)
            split
            · simp
            · exact h2 k hk
          show Org (if x.name = x.to then s' else _) _
          split
          · exact hs
          · split
            · exact hren _ hs
            · exact hren _ (hdrop _ _ hs)
  · unfold removeD
    repeat' split
    all_goals first
      | exact h'
      | exact org_do h' (fun s' _ hs => hdrop _ _ hs)
  · unfold failD
    split
    · exact h'
    · exact h'
  · unfold onD
    split
    · exact h'
    · intro f hf
      obtain ⟨k, hk, rfl⟩ := List.mem_map.1 hf
      exact h' k hk
  · exact h'
/-- the power failed with these bits kept, and is back -/
def lost (s : Ds) (k : Nat) : Ds := onD (offD (failD s 0 k))
theorem lost_is {s : Ds} (ho : s.off = false) (k : Nat) : lost s k = { s with files := s.files.map (fun f => { f with settled := layAll f.settled (ofNo (stay k 0 s.opn) f.no) }), opn := [], off := false, set := false, inn := 0, keep := 0 } := by
  unfold lost failD
  rw [if_neg (by rw [ho]; decide)]
  rfl
theorem bit_all (n : Nat) : bitK 18446744073709551615 n = true := by
  unfold bitK
  have h : n % 64 < 64 := Nat.mod_lt _ (by omega)
  generalize n % 64 = m at h
  revert m
  decide
theorem stay_full : ∀ (n : Nat) (ws : List Dw), stay 18446744073709551615 n ws = ws
  | _, [] => rfl
  | n, w :: ws => by rw [stay, if_pos (bit_all n), stay_full (n + 1) ws]
theorem lost_names {s : Ds} (ho : s.off = false) (k : Nat) : namesD (lost s k) = namesD s := by
  rw [lost_is ho]
  unfold namesD
  rw [if_neg (show ¬ false = true by decide), if_neg (by rw [ho]; decide)]
  show sorted ((s.files.map _).map Df.name) = _
  rw [List.map_map]
  rfl
theorem lost_used {s : Ds} (ho : s.off = false) (k : Nat) : usedN (lost s k) ≤ usedN s := by
  rw [lost_is ho]
  show ((s.files.map _).map _).sum ≤ _
  rw [List.map_map]
  refine sum_le (fun f _ => ?_)
  show (layAll (layAll f.settled (ofNo (stay k 0 s.opn) f.no)) []).length ≤ (layAll f.settled (ofNo s.opn f.no)).length
  exact layAll_len_sub (ofNo_sub (stay_sub k 0 s.opn) f.no) f.settled
theorem lost_used_all {s : Ds} (ho : s.off = false) : usedN (lost s 18446744073709551615) = usedN s := by
  rw [lost_is ho]
  show ((s.files.map _).map _).sum = _
  rw [List.map_map]
  refine sum_eq (fun f _ => ?_)
  show (layAll (layAll f.settled (ofNo (stay _ 0 s.opn) f.no)) []).length = (layAll f.settled (ofNo s.opn f.no)).length
  rw [stay_full]
  rfl
theorem lost_read {s : Ds} (ho : s.off = false) (t : Bs) (p : Int) : readDk (lost s 18446744073709551615) t p = readDk s t p := by
  have hf : ∀ l : List Df, (l.map (fun f => ({ f with settled := layAll f.settled (ofNo (stay 18446744073709551615 0 s.opn) f.no) } : Df))).find? (fun f => f.name == t) = (l.find? fun f => f.name == t).map (fun f => { f with settled := layAll f.settled (ofNo (stay 18446744073709551615 0 s.opn) f.no) }) := fun l => by
    rw [List.find?_map]
    rfl
  have hl := lost_is ho 18446744073709551615
  unfold readDk
  rw [if_neg (by rw [hl]; show ¬ false = true; decide), if_neg (by rw [ho]; decide)]
  have e : findF (lost s 18446744073709551615) t = (findF s t).map (fun f => { f with settled := layAll f.settled (ofNo (stay 18446744073709551615 0 s.opn) f.no) }) := by
    rw [hl]
    exact hf s.files
  rw [e]
  cases findF s t with
  | none => rfl
  | some f =>
    have e2 : pagesOf (lost s 18446744073709551615) { f with settled := layAll f.settled (ofNo (stay 18446744073709551615 0 s.opn) f.no) } = pagesOf s f := by
      rw [hl]
      show layAll (layAll f.settled (ofNo (stay _ 0 s.opn) f.no)) [] = layAll f.settled (ofNo s.opn f.no)
      rw [stay_full]
      rfl
    show (if p < 0 ∨ ((pagesOf (lost s 18446744073709551615) _).length : Int) ≤ p then _ else _) = _
    rw [e2]
/-- what a Create leaves where the next step fails -/
theorem create_fails {s : Ds} (ho : s.off = false) (k : Nat) (t : Bs) (hn : named t = true) : ((createD (failD s 0 k) t).2 = offD (failD s 0 k) ∧ findF s t = none) ∨ ((createD (failD s 0 k) t).2 = failD s 0 k ∧ (256 ≤ s.files.length ∨ (findF s t).isSome = true)) := by
  have hf : failD s 0 k = { s with set := true, inn := 0, keep := k } := by unfold failD; rw [if_neg (by rw [ho]; decide)]; rfl
  have hfi : findF (failD s 0 k) t = findF s t := by rw [hf]; rfl
  unfold createD
  rw [if_neg (by rw [hf]; show ¬ s.off = true; rw [ho]; decide), hn, if_neg (by decide), hfi]
  cases hq : findF s t with
  | some f => exact .inr ⟨rfl, .inr rfl⟩
  | none =>
    rw [if_neg (by decide)]
    have hlen : (failD s 0 k).files.length = s.files.length := by rw [hf]
    rw [hlen]
    by_cases h256 : 256 ≤ s.files.length
    · rw [if_pos h256]
      exact .inr ⟨rfl, .inl h256⟩
    · rw [if_neg h256]
      refine .inl ⟨?_, rfl⟩
      unfold doD stepD
      rw [hf]
      rfl
theorem names_len {s : Ds} (ho : s.off = false) : (namesD s).length = s.files.length := by
  unfold namesD
  rw [if_neg (by rw [ho]; decide), sorted_length, List.length_map]
theorem names_has {s : Ds} (ho : s.off = false) {t : Bs} (h : t ∈ namesD s) : ∃ f, findF s t = some f := by
  unfold namesD at h
  rw [if_neg (by rw [ho]; decide)] at h
  have h1 : t ∈ s.files.map Df.name := (List.mergeSort_perm _ _).mem_iff.1 h
  obtain ⟨f, hf, e⟩ := List.mem_map.1 h1
  cases hq : findF s t with
  | none => exact absurd e (find_none hq f hf)
  | some g => exact ⟨g, rfl⟩
/-- three disks apart from each other -/
structure Tri (K : Nat → Prop) (w : World) (d a b : Nat) (s sa sb : Ds) : Prop where
  ex : ∃ md vd ma va mb vb, Dv w d s md vd ∧ Dv w a sa ma va ∧ Dv w b sb mb vb ∧ (∀ g ∈ Fp d md vd, g ∉ Fp a ma va ∧ g ∉ Fp b mb vb) ∧ (∀ g ∈ Fp a ma va, g ∉ Fp b mb vb) ∧ ∀ g, K g → g < w.heap.size ∧ g ∉ Fp d md vd ∧ g ∉ Fp a ma va ∧ g ∉ Fp b mb vb
  q0 : usedN s ≤ s.quota
  q1 : usedN sa ≤ sa.quota
  q2 : usedN sb ≤ sb.quota
theorem Tri.swap {K : Nat → Prop} {w : World} {d a b : Nat} {s sa sb : Ds} (h : Tri K w d a b s sa sb) : Tri K w a d b sa s sb := by
  obtain ⟨md, vd, ma, va, mb, vb, h1, h2, h3, h4, h5, h6⟩ := h.ex
  exact ⟨⟨ma, va, md, vd, mb, vb, h2, h1, h3, fun g hg => ⟨fun hm => (h4 g hm).1 hg, h5 g hg⟩, fun g hg => (h4 g hg).2, fun g hg => ⟨(h6 g hg).1, (h6 g hg).2.2.1, (h6 g hg).2.1, (h6 g hg).2.2.2⟩⟩, h.q1, h.q0, h.q2⟩
theorem Tri.turn {K : Nat → Prop} {w : World} {d a b : Nat} {s sa sb : Ds} (h : Tri K w d a b s sa sb) : Tri K w b a d sb sa s := by
  obtain ⟨md, vd, ma, va, mb, vb, h1, h2, h3, h4, h5, h6⟩ := h.ex
  exact ⟨⟨mb, vb, ma, va, md, vd, h3, h2, h1, fun g hg => ⟨fun hm => h5 g hm hg, fun hm => (h4 g hm).2 hg⟩, fun _ hg hm => (h4 _ hm).1 hg, fun g hg => ⟨(h6 g hg).1, (h6 g hg).2.2.2, (h6 g hg).2.2.1, (h6 g hg).2.1⟩⟩, h.q2, h.q1, h.q0⟩
theorem Tri.dp {K : Nat → Prop} {w : World} {d a b : Nat} {s sa sb : Ds} (h : Tri K w d a b s sa sb) : Dp K w d s := by
  obtain ⟨md, vd, ma, va, mb, vb, h1, h2, h3, h4, h5, h6⟩ := h.ex
  exact ⟨⟨md, vd, h1, fun g hg => ⟨(h6 g hg).1, (h6 g hg).2.1⟩⟩, h.q0⟩
theorem Tri.grow {K : Nat → Prop} {w w' : World} {d a b : Nat} {s sa sb : Ds} (h : Tri K w d a b s sa sb) (hb : Below w.heap.size w w') : Tri (fun g => K g ∨ (w.heap.size ≤ g ∧ g < w'.heap.size)) w' d a b s sa sb := by
  obtain ⟨md, vd, ma, va, mb, vb, h1, h2, h3, h4, h5, h6⟩ := h.ex
  refine ⟨⟨md, vd, ma, va, mb, vb, h1.low hb, h2.low hb, h3.low hb, h4, h5, fun g hg => ?_⟩, h.q0, h.q1, h.q2⟩
  rcases hg with hg | hg
  · obtain ⟨x, y⟩ := h6 g hg
    exact ⟨Nat.lt_of_lt_of_le x hb.size, y⟩
  · exact ⟨hg.2, fun hm => by have := h1.lt hm; omega, fun hm => by have := h2.lt hm; omega, fun hm => by have := h3.lt hm; omega⟩
theorem Tri.less {K K' : Nat → Prop} {w : World} {d a b : Nat} {s sa sb : Ds} (h : Tri K w d a b s sa sb) (hs : ∀ g, K' g → K g) : Tri K' w d a b s sa sb := by
  obtain ⟨md, vd, ma, va, mb, vb, h1, h2, h3, h4, h5, h6⟩ := h.ex
  exact ⟨⟨md, vd, ma, va, mb, vb, h1, h2, h3, h4, h5, fun g hg => h6 g (hs g hg)⟩, h.q0, h.q1, h.q2⟩
theorem Tri.low {K : Nat → Prop} {w w' : World} {d a b : Nat} {s sa sb : Ds} (h : Tri K w d a b s sa sb) (hb : Below w.heap.size w w') : Tri K w' d a b s sa sb ∧ Kw K w w' := ⟨(h.grow hb).less (fun _ hg => .inl hg), below_kw hb (fun _ hg => h.dp.lt hg)⟩
/-- a call of the first disk -/
theorem Tri.call {K : Nat → Prop} {w : World} {d a b : Nat} {s s' sa sb : Ds} (h : Tri K w d a b s sa sb) {f : FuncId} {args : Array Value} {E : Ending} (hc : ∀ K' : Nat → Prop, Dp K' w d s → Calls Tryz.prog f args w fun e w' => e = E ∧ Dp K' w' d s' ∧ Kw K' w w') : Calls Tryz.prog f args w fun e w' => e = E ∧ Tri K w' d a b s' sa sb ∧ Kw K w w' := by
  obtain ⟨md, vd, ma, va, mb, vb, h1, h2, h3, h4, h5, h6⟩ := h.ex
  refine (hc (fun g => K g ∨ g ∈ Fp a ma va ∨ g ∈ Fp b mb vb) ⟨⟨md, vd, h1, fun g hg => ?_⟩, h.q0⟩).mono ?_
  · rcases hg with hg | hg | hg
    · exact ⟨(h6 g hg).1, (h6 g hg).2.1⟩
    · exact ⟨h2.lt hg, fun hm => (h4 g hm).1 hg⟩
    · exact ⟨h3.lt hg, fun hm => (h4 g hm).2 hg⟩
  · rintro e w' ⟨he, hd, hk⟩
    obtain ⟨md', vd', q1, q2⟩ := hd.ex
    exact ⟨he, ⟨⟨md', vd', ma, va, mb, vb, q1, h2.same (fun g hg => hk.blk g (.inr (.inl hg))), h3.same (fun g hg => hk.blk g (.inr (.inr hg))), fun g hg => ⟨fun hm => (q2 g (.inr (.inl hm))).2 hg, fun hm => (q2 g (.inr (.inr hm))).2 hg⟩, h5, fun g hg => ⟨(q2 g (.inl hg)).1, (q2 g (.inl hg)).2, (h6 g hg).2.2⟩⟩, hd.qs, h.q1, h.q2⟩, hk.less (fun g hg => .inl hg)⟩
/-- two copies of a disk -/
theorem dp_copy {K : Nat → Prop} {w : World} {d : Nat} {s : Ds} (h : Dp K w d s) : Calls Tryz.prog 8 #[.pointer (some ⟨d, 0, none⟩)] w fun e w' => ∃ a, e = .returned (.pointer (some ⟨a, 0, none⟩)) ∧ (∃ ma va, Dv w' a s ma va ∧ ∀ g ∈ Fp a ma va, w.heap.size ≤ g) ∧ Below w.heap.size w w' := by
  obtain ⟨mb, ms, h1, _⟩ := h.ex
  refine (copy_any w d s mb ms h1 h.qs).mono ?_
  rintro e w' ⟨d', mb', ms', he, q1, q2, q3⟩
  exact ⟨d', he, ⟨mb', ms', q1, q3⟩, q2⟩
theorem tri_of {K : Nat → Prop} {w w1 w2 : World} {d a b : Nat} {s : Ds} (h : Dp K w d s) (ha : ∃ ma va, Dv w1 a s ma va ∧ ∀ g ∈ Fp a ma va, w.heap.size ≤ g) (hB1 : Below w.heap.size w w1) (hb : ∃ mb vb, Dv w2 b s mb vb ∧ ∀ g ∈ Fp b mb vb, w1.heap.size ≤ g) (hB2 : Below w1.heap.size w1 w2) : Tri K w2 d a b s s s := by
  obtain ⟨md, vd, h1, h4⟩ := h.ex
  obtain ⟨ma, va, a1, a2⟩ := ha
  obtain ⟨mb, vb, b1, b2⟩ := hb
  have z1 := hB1.size
  have z2 := hB2.size
  refine ⟨⟨md, vd, ma, va, mb, vb, (h1.low hB1).low hB2, a1.low hB2, b1, fun g hg => ⟨fun hm => ?_, fun hm => ?_⟩, fun g hg hm => ?_, fun g hg => ⟨?_, (h4 g hg).2, fun hm => ?_, fun hm => ?_⟩⟩, h.qs, h.qs, h.qs⟩
  · have := h1.lt hg; have := a2 g hm; omega
  · have := h1.lt hg; have := b2 g hm; omega
  · have := a1.lt hg; have := b2 g hm; omega
  · have := (h4 g hg).1; omega
  · have := (h4 g hg).1; have := a2 g hm; omega
  · have := (h4 g hg).1; have := b2 g hm; omega
theorem Pr.dp {K : Nat → Prop} {w : World} {d q : Nat} {s t : Ds} (h : Pr K w d q s t) : Dp K w d s := by
  obtain ⟨mb, ms, fv, ov, ss, h1, h2, h3, h4⟩ := h.ex
  exact ⟨⟨mb, ms, h1, fun g hg => ⟨(h4 g hg).1, (h4 g hg).2.1⟩⟩, h.qs⟩
end Go.Proofs.YtojnembakhhgiaaGreat

/- What a failure loses: the law, for every row of calls. -/
namespace Go.Proofs.YtojnembakhhgiaaGreat
open Go.RowKit

def nmX : Bs := [0, 32, 97, 32, 110, 97, 109, 101, 32, 116, 104, 97, 116, 32, 110, 111, 32, 111, 110, 101, 32, 104, 97, 115]
def nmsOf (l : List Ox) : List Bs := l.flatMap fun x => [x.name, x.to]
theorem nms_snoc (l : List Ox) (x : Ox) : nmsOf (l ++ [x]) = nmsOf l ++ [x.name, x.to] := by unfold nmsOf; simp
theorem create_len {s : Ds} (ho : s.off = false) (k : Nat) (t : Bs) (hn : named t = true) (h : 256 ≤ s.files.length) : (createD (failD s 0 k) t).2 = failD s 0 k := by
  have hf : failD s 0 k = { s with set := true, inn := 0, keep := k } := by unfold failD; rw [if_neg (by rw [ho]; decide)]; rfl
  have hlen : (failD s 0 k).files.length = s.files.length := by rw [hf]
  unfold createD
  rw [if_neg (by rw [hf]; show ¬ s.off = true; rw [ho]; decide), hn, if_neg (by decide)]
  split
  · rfl
  · rw [if_pos (by rw [hlen]; exact h)]
theorem dp_names {K : Nat → Prop} {w : World} {d : Nat} {s : Ds} (h : Dp K w d s) : Calls Tryz.prog 17 #[.pointer (some ⟨d, 0, none⟩)] w fun e w' => ∃ a c, e = .returned (.slice a (namesD s).length c) ∧ Tx w' (.slice a (namesD s).length c) (namesD s) ∧ Below w.heap.size w w' := by
  obtain ⟨mb, ms, h1, _⟩ := h.ex
  refine (names_any w d s mb ms h1).mono ?_
  rintro e w' ⟨v, he, hr, hB⟩
  obtain ⟨a, c, hv⟩ := row_shape2 hr
  rw [hv] at he hr
  exact ⟨a, c, he, ⟨hr.1, hr.2.imp id (fun ⟨g, cap, cur, e1, _, e3⟩ => ⟨g, cap, cur, e1, Nat.zero_le _, e3⟩)⟩, hB⟩
theorem dp_used {K : Nat → Prop} {w : World} {d : Nat} {s : Ds} (h : Dp K w d s) : Calls Tryz.prog 16 #[.pointer (some ⟨d, 0, none⟩)] w fun e w' => e = .returned (.int .i64 (usedN s : Int)) ∧ Below w.heap.size w w' := by
  obtain ⟨mb, ms, h1, _⟩ := h.ex
  exact used_any w d s mb ms h1 h.qs
theorem dp_off {K : Nat → Prop} {w : World} {d : Nat} {s : Ds} (h : Dp K w d s) : Calls Tryz.prog 12 #[.pointer (some ⟨d, 0, none⟩)] w fun e w' => e = .returned (.bool s.off) ∧ w' = w := by
  obtain ⟨mb, ms, h1, _⟩ := h.ex
  exact off_any w d s mb ms h1
set_option maxRecDepth 100000 in
set_option maxHeartbeats 4000000 in
theorem has_any (w : World) (ao : Option Addr) (c : Nat) (l : List Ox) (h : Os w ao l) (hl : l.length ≤ 60) (hx : ∃ x ∈ l, x.name = nmX ∨ x.to = nmX) : Calls Tryz.prog 18 #[.slice ao l.length c] w fun e w' => e = .returned (.bool true) ∧ w' = w := by
  obtain ⟨n, hn⟩ : ∃ n, n = l.length := ⟨_, rfl⟩
  obtain ⟨X, hX⟩ : ∃ X, X = nmX := ⟨_, rfl⟩
  have hXc : (⟨#[0, 32, 97, 32, 110, 97, 109, 101, 32, 116, 104, 97, 116, 32, 110, 111, 32, 111, 110, 101, 32, 104, 97, 115]⟩ : ByteArray) = ⟨X.toArray⟩ := by rw [hX]; rfl
  rw [← hn]
  have HO := hid h
  have HN := hid hn
  have HL : Hid (n ≤ 60) := hid (by omega)
  have hnb : (n : Int) ≤ 60 := by omega
  rw [← hX] at hx
  have HX := hid hx
  clear h hl hx hn hX
  go_enter Tryz.func18, Tryz.ntmps18
  go_wp2_with fail
  go_loopg [3] n (fun gg vj wr => ∃ j : Nat, gg = n - j ∧ j ≤ n ∧ vj = .int .i64 (j : Int) ∧ wr = w ∧ ∀ x ∈ l.take j, x.name ≠ X ∧ x.to ≠ X)
  case atStart => exact ⟨0, rfl, Nat.zero_le _, rfl, rfl, fun x hx => (by simp at hx)⟩
  case round =>
    obtain ⟨j, rfl, hj, rfl, hw, hno⟩ := hrel
    have hw := hw.symm
    subst hw
    by_cases hjl : j < n
    · have hjs : j < l.length := by have := HN.out; omega
      obtain ⟨g, o, hg, hc⟩ := HO.out (by omega)
      subst hg
      obtain ⟨x0, hx0⟩ : ∃ x0, x0 = l[j]'hjs := ⟨_, rfl⟩
      have e1 : w.cell? ⟨g, o + j * 7 + 1, none⟩ = some (St x0.name) := by rw [hx0]; exact hc j hjs 1 _ rfl
      have e2 : w.cell? ⟨g, o + j * 7 + 2, none⟩ = some (St x0.to) := by rw [hx0]; exact hc j hjs 2 _ rfl
      have hjw : IntKind.i64.wrap ((j : Int) + 1) = ((j + 1 : Nat) : Int) := by rw [IntKind.wrap_i64]; have := HL.out; omega
      have hj0 : (0 : Int) ≤ (j : Int) := Int.natCast_nonneg _
      have hj1 : (j : Int) < (n : Int) := by omega
      have HNX : Hid (x0.name ≠ X → x0.to ≠ X → ∀ x ∈ l.take (j + 1), x.name ≠ X ∧ x.to ≠ X) := hid (fun h1 h2 x hx => by
        rw [List.take_add_one, List.getElem?_eq_getElem hjs] at hx
        rcases List.mem_append.1 hx with h | h
        · exact hno x h
        · have : x = l[j] := by simpa using h
          rw [this, ← hx0]
          exact ⟨h1, h2⟩)
      have HJ := hid hjl
      clear hx0
      generalize x0.name = n1 at *
      generalize x0.to = n2 at *
      clear hno hc hj hjl hjs
      by_cases h1 : n1 = X
      · subst h1
        go_wp2_with fail
        go_ret
        exact ⟨rfl, rfl⟩
      · have h1' : (n1 == X) = false := by simpa using h1
        by_cases h2 : n2 = X
        · subst h2
          go_wp2_with fail
          go_ret
          exact ⟨rfl, rfl⟩
        · have h2' : (n2 == X) = false := by simpa using h2
          go_wp2_with fail
          go_roundg (n - (j + 1))
          case measure => have := HJ.out; omega
          case rel => exact ⟨j + 1, rfl, HJ.out, rfl, rfl, HNX.out h1 h2⟩
    · obtain ⟨x, hx, hor⟩ := HX.out
      have := hno x (by rw [List.take_of_length_le (by have := HN.out; omega)]; exact hx)
      rcases hor with e | e
      · exact absurd e this.1
      · exact absurd e this.2
set_option maxRecDepth 100000 in
set_option maxHeartbeats 16000000 in
theorem loses_any (w : World) (qv : Int) (hqv : -9223372036854775808 ≤ qv ∧ qv < 9223372036854775808) (a1 : Option Addr) (c1 : Nat) (l : List Ox) (hO : Os w a1 l) (hOx : ∀ x ∈ l, Oxr x) (keep : Nat) (hk : keep < 18446744073709551616) :
    Calls Tryz.prog 4 #[.int .i64 qv, .slice a1 l.length c1, .int .u64 (keep : Int)] w fun e w' => e = .returned (.bool true) ∧ Below w.heap.size w w' := by
  have HWK : Hid (∀ W, Calls Tryz.prog 5 #[] W fun e w' => e = .returned (.bool true) ∧ Below W.heap.size W w') := hid (fun W => works_any W)
  obtain ⟨na, hna⟩ : ∃ na, na = l.length := ⟨_, rfl⟩
  rw [← hna]
  have HNA := hid hna
  have HO := hid hO
  have HOX := hid hOx
  have HKP := hid hk
  have HQV := hid hqv
  clear hna hO hOx hk hqv
  by_cases h1 : (60 : Int) < (na : Int)
  · go_enter Tryz.func4, Tryz.ntmps4
    go_wp2_with fail
    refine (HWK.out _).mono ?_
    rintro e w9 ⟨rfl, hb9⟩
    have HB9 := hid hb9
    clear hb9
    go_wp2_with fail
    go_ret
    exact ⟨rfl, HB9.out⟩
  · go_enter Tryz.func4, Tryz.ntmps4
    go_wp2_with fail
    refine (new_any w qv).mono ?_
    rintro e w1 ⟨rfl, hd1, hb1⟩
    have HD1 := hid hd1
    have HB1 := hid hb1
    clear hd1 hb1
    go_wp2_with fail
    refine (rnew_any w1 qv).mono ?_
    rintro e w2 ⟨rfl, hr2, hb2⟩
    obtain ⟨K, hK⟩ : ∃ K : Nat → Prop, K = fun g => g < w.heap.size := ⟨_, rfl⟩
    have HP2 : Hid (Pr K w2 w.heap.size w1.heap.size (newD qv) (newD qv)) := hid (by rw [hK]; exact pr_new w w1 w2 qv HD1.out HB1.out hr2 hb2)
    have HW2 : Hid (Kw K w w2) := hid (by rw [hK]; exact (below_kw HB1.out (fun g hg => hg)).trans (below_kw hb2 (fun g hg => Nat.lt_of_lt_of_le hg HB1.out.size)))
    have HKB : Hid (∀ W, Kw K w W → Below w.heap.size w W) := hid (fun W hW => by rw [hK] at hW; exact kw_below hW)
    have HBW : Hid (∀ W w9, Kw K w W → Below W.heap.size W w9 → Below w.heap.size w w9) := hid (fun W w9 h1 h2 => by
      rw [hK] at h1
      exact kw_below (h1.trans (below_kw h2 (fun g hg => Nat.lt_of_lt_of_le hg h1.size))))
    clear hr2 hb2 hK HD1 HB1
    go_wp2_with fail
    generalize w1.heap.size = q at *
    go_loopg [9] na (fun gg vj wr => ∃ (j : Nat) (s t' : Ds), gg = na - j ∧ j ≤ na ∧ vj = .int .i64 (j : Int) ∧ Pr K wr w.heap.size q s t' ∧ Sm (5000 - j) s ∧ Sm (5000 - j) t' ∧ Kw K w wr ∧ s.quota = (newD qv).quota ∧ Org s (nmsOf (l.take j)))
    case atStart => exact ⟨0, _, _, rfl, Nat.zero_le _, rfl, HP2.out, ⟨by show 0 + 5000 < 1000000; omega, by show 0 + 5000 < 1000000; omega⟩, ⟨by show 0 + 5000 < 1000000; omega, by show 0 + 5000 < 1000000; omega⟩, HW2.out, rfl, fun f hf => (by cases hf)⟩
    case round =>
      obtain ⟨j, s, t', rfl, hj, rfl, hp, hs, ht, hkw, hqu, hor⟩ := hrel
      by_cases hjl : j < na
      · have hjs : j < l.length := by have := HNA.out; omega
        obtain ⟨g, o, hg, hc⟩ := ((HO.out).low (HKB.out wr hkw)) (by omega)
        subst hg
        obtain ⟨x, hx⟩ : ∃ x, x = l[j]'hjs := ⟨_, rfl⟩
        have hxr : Oxr x := HOX.out x (by rw [hx]; exact List.getElem_mem hjs)
        have e0 : wr.cell? ⟨g, o + j * 7, none⟩ = some (.int .u8 (x.kind : Int)) := by rw [hx]; exact hc j hjs 0 _ rfl
        have e1 : wr.cell? ⟨g, o + j * 7 + 1, none⟩ = some (St x.name) := by rw [hx]; exact hc j hjs 1 _ rfl
        have e2 : wr.cell? ⟨g, o + j * 7 + 2, none⟩ = some (St x.to) := by rw [hx]; exact hc j hjs 2 _ rfl
        have e3 : wr.cell? ⟨g, o + j * 7 + 3, none⟩ = some (.int .i64 x.page) := by rw [hx]; exact hc j hjs 3 _ rfl
        have e4 : wr.cell? ⟨g, o + j * 7 + 4, none⟩ = some (.int .u16 (x.long : Int)) := by rw [hx]; exact hc j hjs 4 _ rfl
        have e5 : wr.cell? ⟨g, o + j * 7 + 5, none⟩ = some (.int .u8 (x.fill.toNat : Int)) := by rw [hx]; exact hc j hjs 5 _ rfl
        have e6 : wr.cell? ⟨g, o + j * 7 + 6, none⟩ = some (.int .u64 (x.keep : Int)) := by rw [hx]; exact hc j hjs 6 _ rfl
        have hjw : IntKind.i64.wrap ((j : Int) + 1) = ((j + 1 : Nat) : Int) := by rw [IntKind.wrap_i64]; omega
        have hj0 : (0 : Int) ≤ (j : Int) := Int.natCast_nonneg _
        have hj1 : (j : Int) < (na : Int) := by omega
        have HPL := hid (plays_any hp (hs.less (by omega)) (ht.less (by omega)) x hxr)
        have HNX : Hid (∀ w5, Pr K w5 w.heap.size q (playD s x) (playD t' x) → Kw K wr w5 → Pr K w5 w.heap.size q (playD s x) (playD t' x) ∧ Sm (5000 - (j + 1)) (playD s x) ∧ Sm (5000 - (j + 1)) (playD t' x) ∧ Kw K w w5 ∧ (playD s x).quota = (newD qv).quota ∧ Org (playD s x) (nmsOf (l.take (j + 1)))) := hid (fun w5 h5 k5 => ⟨h5, (show Sm (5000 - (j + 1) + 1) s by rw [show 5000 - (j + 1) + 1 = 5000 - j by omega]; exact hs).play x, (show Sm (5000 - (j + 1) + 1) t' by rw [show 5000 - (j + 1) + 1 = 5000 - j by omega]; exact ht).play x, hkw.trans k5, by rw [quota_play]; exact hqu, by
          rw [List.take_add_one, List.getElem?_eq_getElem hjs, ← hx]
          show Org (playD s x) (nmsOf (l.take j ++ [x]))
          rw [nms_snoc]
          exact org_play hor x⟩)
        have HJ := hid hjl
        unfold xcs at HPL
        generalize playD s x = s1 at *
        generalize playD t' x = t1 at *
        clear hx hxr hp hs ht hkw hc hj hjl hjs hqu hor
        go_wp2_with fail
        refine HPL.out.mono ?_
        rintro e w5 hpl
        obtain ⟨b5, he, _, h5, k5⟩ := hpl
        subst he
        have H5 := hid (HNX.out w5 h5 k5)
        clear h5 k5 HNX HPL
        clear e0 e1 e2 e3 e4 e5 e6
        go_wp2_with fail
        go_roundg (na - (j + 1))
        case measure => have := HJ.out; omega
        case rel => exact ⟨j + 1, _, _, rfl, HJ.out, rfl, H5.out⟩
      · have hje : j = na := by omega
        subst hje
        have hjn : ¬ (j : Int) < (j : Int) := by omega
        have HS := hid hs
        have HKW := hid hkw
        have HP := hid hp
        have HQU := hid hqu
        have HOR : Hid (Org s (nmsOf l)) := hid (by rw [HNA.out, List.take_length] at hor; exact hor)
        clear hj hjl hp hs ht hkw hqu hor
        go_wp2_with fail
        obtain ⟨na, hren⟩ : ∃ m, m = j := ⟨_, rfl⟩
        subst hren
        clear hjn
        refine (pd_off HP.out).mono ?_
        rintro e w3 ⟨rfl, hw3⟩
        have hw3 := hw3.symm
        subst hw3
        cases hoff : s.off with
        | true =>
          have HQ1 := hid (pd_on HP.out)
          have HOF : Hid ((onD s).off = false) := hid (by
            unfold onD
            rw [if_neg (by rw [hoff]; decide)])
          have HQ2 : Hid ((onD s).quota = (newD qv).quota) := hid (by
            rw [← HQU.out]
            unfold onD
            split <;> rfl)
          have HO2 : Hid (Org (onD s) (nmsOf l)) := hid (HOR.out.sub (fun f hf => by
            unfold onD at hf
            split at hf
            · exact List.mem_map.2 ⟨f, hf, rfl⟩
            · obtain ⟨k, hk, rfl⟩ := List.mem_map.1 hf
              exact List.mem_map.2 ⟨k, hk, rfl⟩))
          have HS2 : Hid (Sm 4000 (onD s)) := hid (by
            have a := small_on s
            have := HS.out
            exact ⟨by rw [a.1]; have := this.1; omega, by rw [a.2]; have := this.2; omega⟩)
          generalize onD s = s1 at *
          clear hoff
          go_wp2_with fail
          refine HQ1.out.mono ?_
          rintro e w4 ⟨rfl, h4, k4⟩
          have HP4 := hid h4.dp
          have HK4 := hid (HKW.out.trans k4)
          clear h4 k4 HQ1
          go_wp2_with fail
          have HQ3 := hid (dp_copy HP4.out)
          refine HQ3.out.mono ?_
          rintro e w5 ⟨da, rfl, ha5, hB5⟩
          have HA5 := hid ha5
          have HB5 := hid hB5
          have HQ4 := hid (dp_copy (HP4.out.low hB5))
          clear ha5 hB5 HQ3
          go_wp2_with fail
          refine HQ4.out.mono ?_
          rintro e w6 ⟨db, rfl, hb6, hB6⟩
          have HT6 := hid (tri_of HP4.out HA5.out HB5.out hb6 hB6)
          have HK6 := hid (HK4.out.trans (Kw.trans (below_kw HB5.out (fun g hg => HP4.out.lt hg)) (below_kw hB6 (fun g hg => Nat.lt_of_lt_of_le (HP4.out.lt hg) HB5.out.size))))
          clear hb6 hB6 HQ4 HA5 HB5 HK4 HP4
          have HQ5 := hid (HT6.out.swap.call (s' := failD s1 0 18446744073709551615) (fun K' h => dp_fail h 0 (by omega) 18446744073709551615 (by omega)))
          go_wp2_with fail
          refine HQ5.out.mono ?_
          rintro e w7 ⟨rfl, t7, k7⟩
          have HK7 := hid (HK6.out.trans k7)
          have HQ6 := hid (t7.swap.turn.call (s' := failD s1 0 keep) (fun K' h => dp_fail h 0 (by omega) keep HKP.out))
          clear t7 k7 HQ5 HT6 HK6
          go_wp2_with fail
          refine HQ6.out.mono ?_
          rintro e w8 ⟨rfl, t8, k8⟩
          have HK8 := hid (HK7.out.trans k8)
          have hsm : ∀ k, Sm 1 (failD s1 0 k) := fun k => by
            have a := small_fail s1 0 k
            exact ⟨by rw [a.1]; have := HS2.out.1; omega, by rw [a.2]; have := HS2.out.2; omega⟩
          have HQ7 := hid (t8.turn.swap.call (s' := (createD (failD s1 0 18446744073709551615) nmX).2) (fun K' h => dp_create h nmX (by decide) (hsm _)))
          have HSM := hid hsm
          clear t8 k8 HQ6 HK7 hsm
          rw [show nmX = ([0, 32, 97, 32, 110, 97, 109, 101, 32, 116, 104, 97, 116, 32, 110, 111, 32, 111, 110, 101, 32, 104, 97, 115] : Bs) from rfl] at HQ7
          go_wp2_with fail
          refine HQ7.out.mono ?_
          rintro e w9 ⟨rfl, t9, k9⟩
          have HK9 := hid (HK8.out.trans k9)
          have HQ8 := hid (t9.swap.turn.call (s' := (createD (failD s1 0 keep) nmX).2) (fun K' h => dp_create h nmX (by decide) (HSM.out _)))
          clear t9 k9 HQ7 HK8
          rw [show nmX = ([0, 32, 97, 32, 110, 97, 109, 101, 32, 116, 104, 97, 116, 32, 110, 111, 32, 111, 110, 101, 32, 104, 97, 115] : Bs) from rfl] at HQ8
          go_wp2_with fail
          refine HQ8.out.mono ?_
          rintro e w10 ⟨rfl, t10, k10⟩
          have HK10 := hid (HK9.out.trans k10)
          have HT10 := hid t10.turn
          have HQ9 := hid (dp_used t10.turn.dp)
          clear t10 k10 HQ8 HK9
          go_wp2_with fail
          refine HQ9.out.mono ?_
          rintro e w11 ⟨rfl, hB11⟩
          have HT11 := hid (HT10.out.low hB11).1
          have HK11 := hid (HK10.out.trans (HT10.out.low hB11).2)
          clear hB11 HQ9 HT10 HK10
          have HQA := hid (dp_names HT11.out.dp)
          go_wp2_with fail
          refine HQA.out.mono ?_
          rintro e w12 ⟨a12, c12, rfl, _, hB12⟩
          have HT12 := hid (HT11.out.low hB12).1
          have HK12 := hid (HK11.out.trans (HT11.out.low hB12).2)
          clear hB12 HQA HT11 HK11
          have hnl := names_len HOF.out
          rw [hnl]
          obtain ⟨nf, hnf⟩ : ∃ nf, nf = s1.files.length := ⟨_, rfl⟩
          rw [← hnf]
          have HNF := hid hnf
          clear hnl hnf
          by_cases hlt : nf < 256
          · have hlt1 : (nf : Int) < 256 := by omega
            cases hfi : findF s1 nmX with
            | none =>
              have hc : ∀ k, (createD (failD s1 0 k) nmX).2 = offD (failD s1 0 k) := fun k => by
                rcases create_fails HOF.out k nmX (by decide) with h | h
                · exact h.1
                · rcases h.2 with h2 | h2
                  · have := HNF.out; omega
                  · rw [hfi] at h2; cases h2
              rw [show ([0, 32, 97, 32, 110, 97, 109, 101, 32, 116, 104, 97, 116, 32, 110, 111, 32, 111, 110, 101, 32, 104, 97, 115] : Bs) = nmX from rfl, hc, hc] at HT12
              have HQB := hid (dp_off HT12.out.swap.dp)
              have HQC := hid (dp_off HT12.out.turn.dp)
              rw [show (offD (failD s1 0 18446744073709551615)).off = true from rfl] at HQB
              rw [show (offD (failD s1 0 keep)).off = true from rfl] at HQC
              obtain ⟨sa, hsa⟩ : ∃ sa, sa = offD (failD s1 0 18446744073709551615) := ⟨_, rfl⟩
              obtain ⟨sb, hsb⟩ : ∃ sb, sb = offD (failD s1 0 keep) := ⟨_, rfl⟩
              rw [← hsa, ← hsb] at HT12
              have FN1 : Hid (namesD (onD sa) = namesD s1) := hid (by rw [hsa]; exact lost_names HOF.out _)
              have FN2 : Hid (namesD (onD sb) = namesD s1) := hid (by rw [hsb]; exact lost_names HOF.out _)
              have FU1 : Hid (usedN (onD sa) = usedN s1) := hid (by rw [hsa]; exact lost_used_all HOF.out)
              have FU2 : Hid (usedN (onD sb) ≤ usedN s1) := hid (by rw [hsb]; exact lost_used HOF.out _)
              have FRD : Hid (∀ t p, readDk (onD sa) t p = readDk s1 t p) := hid (fun t p => by rw [hsa]; exact lost_read HOF.out t p)
              have HTX := hid HT12.out
              have HKX := hid HK12.out
              clear hc hfi hsa hsb hlt HT12 HK12 HNF
              go_wp2_with fail
              refine HQB.out.mono ?_
              rintro e wa ⟨rfl, hwa⟩
              have hwa := hwa.symm
              subst hwa
              go_wp2_with fail
              refine HQC.out.mono ?_
              rintro e wb ⟨rfl, hwb⟩
              have hwb := hwb.symm
              subst hwb
              clear HQB HQC
              go_wp2_with fail
              have HR1 := hid (HTX.out.swap.call (s' := onD sa) (fun K' h => dp_on h))
              refine HR1.out.mono ?_
              rintro e v1 ⟨rfl, t1, k1⟩
              have HKa := hid (HKX.out.trans k1)
              have HR2 := hid (t1.swap.turn.call (s' := onD sb) (fun K' h => dp_on h))
              clear t1 k1 HR1 HTX HKX
              go_wp2_with fail
              refine HR2.out.mono ?_
              rintro e v2 ⟨rfl, t2, k2⟩
              have HKb := hid (HKa.out.trans k2)
              have HT2 : Hid (Tri K v2 w.heap.size da db s1 (onD sa) (onD sb)) := hid t2.turn
              clear t2 k2 HR2 HKa
              generalize onD sa = sa2 at *
              generalize onD sb = sb2 at *
              have HR3 := hid (dp_names HT2.out.dp)
              go_wp2_with fail
              refine HR3.out.mono ?_
              rintro e v3 ⟨ax, cx, rfl, tx3, hB3⟩
              have HT3 := hid (HT2.out.low hB3).1
              have HKc := hid (HKb.out.trans (HT2.out.low hB3).2)
              have HX3 := hid tx3
              have HR4 := hid (dp_names HT3.out.swap.dp)
              rw [FN1.out] at HR4
              clear tx3 hB3 HR3 HT2 HKb
              obtain ⟨L, hL⟩ : ∃ L, L = namesD s1 := ⟨_, rfl⟩
              rw [← hL] at HX3 HR4 ⊢
              have HL := hid hL
              have hLl : L.length ≤ 256 := by rw [hL, names_len HOF.out]; exact HT3.out.dp.ok.few
              have HLL := hid hLl
              have HNMS : Hid (∀ (W : World) (a b : Value), Tx W a L → Tx W b L → Calls Tryz.prog 19 #[a, b] W fun e w' => e = .returned (.bool true) ∧ Below W.heap.size W w') := hid (fun W a b h1 h2 => by
                have := nsame_any W a b L L h1 h2 (by omega)
                rw [decide_eq_true rfl] at this
                exact this)
              have HTXL : Hid (∀ (W W' : World) (v : Value), Tx W v L → Below W.heap.size W W' → Tx W' v L) := hid (fun W W' v h hB => ownsRow_same h (fun g hg => hB.block g (h.lt g hg).2))
              obtain ⟨nL, hnL⟩ : ∃ nL, nL = L.length := ⟨_, rfl⟩
              rw [← hnL] at HX3 HR4 ⊢
              have HNL := hid hnL
              clear hL hLl hnL
              go_wp2_with fail
              refine HR4.out.mono ?_
              rintro e v4 ⟨ay, cy, rfl, ty4, hB4⟩
              have HT4 := hid (HT3.out.low hB4).1
              have HKd := hid (HKc.out.trans (HT3.out.low hB4).2)
              have HX4 := hid (HTXL.out _ _ _ HX3.out hB4)
              have HR5 := hid (HNMS.out v4 _ _ ty4 (HTXL.out _ _ _ HX3.out hB4))
              clear ty4 hB4 HR4 HT3 HKc HX3
              go_wp2_with fail
              refine HR5.out.mono ?_
              rintro e v5 ⟨rfl, hB5⟩
              have HT5 := hid (HT4.out.low hB5).1
              have HKe := hid (HKd.out.trans (HT4.out.low hB5).2)
              have HX5 := hid (HTXL.out _ _ _ HX4.out hB5)
              have HR6 := hid (dp_names (HT4.out.low hB5).1.turn.dp)
              rw [FN2.out, ← HL.out, ← HNL.out] at HR6
              clear hB5 HR5 HT4 HKd HX4
              go_wp2_with fail
              refine HR6.out.mono ?_
              rintro e v6 ⟨az, cz, rfl, tz6, hB6⟩
              have HT6' := hid (HT5.out.low hB6).1
              have HKf := hid (HKe.out.trans (HT5.out.low hB6).2)
              have HX6 := hid (HTXL.out _ _ _ HX5.out hB6)
              have HR7 := hid (HNMS.out v6 _ _ tz6 (HTXL.out _ _ _ HX5.out hB6))
              clear tz6 hB6 HR6 HT5 HKe HX5
              go_wp2_with fail
              refine HR7.out.mono ?_
              rintro e v7 ⟨rfl, hB7⟩
              have HT7 := hid (HT6'.out.low hB7).1
              have HKg := hid (HKf.out.trans (HT6'.out.low hB7).2)
              have HX7 := hid (HTXL.out _ _ _ HX6.out hB7)
              have HR8 := hid (dp_used (HT6'.out.low hB7).1.swap.dp)
              rw [FU1.out] at HR8
              clear hB7 HR7 HT6' HKf HX6
              have fu2 : ¬ ((usedN s1 : Nat) : Int) < ((usedN sb2 : Nat) : Int) := by have := FU2.out; omega
              have FU3 : Hid (usedN s1 ≤ s1.quota) := hid HT7.out.q0
              obtain ⟨us, hus⟩ : ∃ us, us = usedN s1 := ⟨_, rfl⟩
              obtain ⟨ub, hub⟩ : ∃ ub, ub = usedN sb2 := ⟨_, rfl⟩
              have FUS : Hid (usedN s1 = us) := hid hus.symm
              have FUB : Hid (usedN sb2 = ub) := hid hub.symm
              rw [← hus] at HR8 FU3 fu2 ⊢
              rw [← hub] at fu2
              clear hus hub
              go_wp2_with fail
              refine HR8.out.mono ?_
              rintro e v8 ⟨rfl, hB8⟩
              have HT8 := hid (HT7.out.low hB8).1
              have HKh := hid (HKg.out.trans (HT7.out.low hB8).2)
              have HX8 := hid (HTXL.out _ _ _ HX7.out hB8)
              have HR9 := hid (dp_used (HT7.out.low hB8).1.turn.dp)
              rw [FUB.out] at HR9
              clear hB8 HR8 HT7 HKg HX7
              go_wp2_with fail
              refine HR9.out.mono ?_
              rintro e v9 ⟨rfl, hB9⟩
              have HT9 := hid (HT8.out.low hB9).1
              have HKi := hid (HKh.out.trans (HT8.out.low hB9).2)
              have HX9 := hid (HTXL.out _ _ _ HX8.out hB9)
              clear hB9 HR9 HT8 HKh HX8
              go_wp2_with fail
              have hdz : decide (us < ub) = false := decide_eq_false (by omega)
              rw [hdz]
              clear fu2 hdz
              have HLEN : Hid (∀ t ∈ L, ∃ n, ∃ P : List Bs, P.length = n ∧ n ≤ 65536 ∧ lenD s1 t = (n, 0) ∧ ∀ k (hk : k < n), ∃ p : Bs, p.length = 256 ∧ readDk s1 t (k : Int) = (p, 0)) := hid (fun t ht => by
                rw [HL.out] at ht
                obtain ⟨f, hf⟩ := names_has HOF.out ht
                obtain ⟨hm, _⟩ := find_mem hf
                refine ⟨(pagesOf s1 f).length, pagesOf s1 f, rfl, ?_, ?_, fun k hk => ⟨(pagesOf s1 f)[k], pages_ok HT9.out.dp.ok hm _ (List.getElem_mem hk), ?_⟩⟩
                · have h1 := used_file hm
                  have h2 := HT9.out.q0
                  have h3 := HT9.out.dp.ok.quota
                  omega
                · unfold lenD
                  rw [if_neg (by rw [HOF.out]; decide), hf]
                · unfold readDk
                  rw [if_neg (by rw [HOF.out]; decide), hf]
                  show (if (k : Int) < 0 ∨ ((pagesOf s1 f).length : Int) ≤ (k : Int) then _ else _) = _
                  rw [if_neg (by omega)]
                  simp [hk])
              have HTLN : Hid (∀ t ∈ L, t.length ≤ 140737488355328) := hid (fun t ht => by
                rw [HL.out] at ht
                obtain ⟨f, hf⟩ := names_has HOF.out ht
                obtain ⟨hm, hn⟩ := find_mem hf
                have := HT9.out.dp.ok.lens f hm
                rw [hn] at this
                unfold named at this
                simp at this
                omega)
              go_loopg [14, 15, 16, 17, 18, 19, 20, 21] nL (fun gg vi _x1 _x2 _x3 _x4 _x5 _x6 _x7 wr => ∃ i : Nat, gg = nL - i ∧ i ≤ nL ∧ vi = .int .i64 (i : Int) ∧ Below v9.heap.size v9 wr)
              case atStart => exact ⟨0, rfl, Nat.zero_le _, rfl, Below.refl _ _⟩
              case round =>
                obtain ⟨i, rfl, hi, rfl, hbel⟩ := hrel
                by_cases hil : i < nL
                · have hiL : i < L.length := by have := HNL.out; omega
                  obtain ⟨gx, cx', ex, _, hcx⟩ := (show Tx v9 (.slice ax nL cx) L from HX9.out).at' (by omega)
                  have hax : ax = some ⟨gx, 0, none⟩ := by cases ex; rfl
                  obtain ⟨t, ht⟩ : ∃ t, t = L[i]'hiL := ⟨_, rfl⟩
                  have htm : t ∈ L := by rw [ht]; exact List.getElem_mem hiL
                  obtain ⟨n, P, hPn, hn, hlen, hread⟩ := HLEN.out t htm
                  have hcell : ∀ W, Below v9.heap.size v9 W → W.cell? ⟨gx, i, none⟩ = some (St t) := fun W hW => by
                    have h1 := (hcx i hiL).1
                    rw [ht, ← h1]
                    exact World.cell?_of_block (hW.block gx (World.block_lt_of_cell? v9 ⟨gx, i, none⟩ h1))
                  have c1' := hcell wr hbel
                  have HCELL := hid hcell
                  have HTN := hid (HTLN.out t htm)
                  have HRD := hid hread
                  have HLE := hid (dp_len (HT9.out.low hbel).1.dp t (HTLN.out t htm))
                  rw [hlen] at HLE
                  have HN6 : Hid (n ≤ 65536) := hid hn
                  have hiw : IntKind.i64.wrap ((i : Int) + 1) = ((i + 1 : Nat) : Int) := by rw [IntKind.wrap_i64]; have := HLL.out; have := HNL.out; omega
                  have hi0 : (0 : Int) ≤ (i : Int) := Int.natCast_nonneg _
                  have hi1 : (i : Int) < (nL : Int) := by omega
                  have HIL := hid hil
                  have HBE := hid hbel
                  clear ex hcx ht htm hPn hn hlen hread hcell hi hil hiL hbel P
                  subst hax
                  go_wp2_with fail
                  refine HLE.out.mono ?_
                  rintro e wl ⟨rfl, hwl⟩
                  have hwl := hwl.symm
                  subst hwl
                  clear c1' HLE
                  have hz0 : ((0 : Nat) : Int) = 0 := rfl
                  rw [hz0]
                  clear hz0
                  go_wp2_with fail
                  obtain ⟨wi, hwi⟩ : ∃ wi, wi = wr := ⟨_, rfl⟩
                  subst hwi
                  go_loopg [17, 18, 19, 20, 21] n (fun gg vk _x4 _x5 _x6 _x7 wr => ∃ k : Nat, gg = n - k ∧ k ≤ n ∧ vk = .int .i64 (k : Int) ∧ Below v9.heap.size v9 wr)
                  case atStart => exact ⟨0, rfl, Nat.zero_le _, rfl, HBE.out⟩
                  case round =>
                    obtain ⟨k, rfl, hk, rfl, hbe2⟩ := hrel
                    by_cases hkl : k < n
                    · obtain ⟨p, hpl, hrd⟩ := HRD.out k hkl
                      have d1 := HCELL.out wr hbe2
                      have HT10 := (HT9.out.low hbe2).1
                      have HA1 : Hid (Calls Tryz.prog 21 #[.pointer (some ⟨w.heap.size, 0, none⟩), St t, .int .i64 (k : Int)] wr fun e w' => ∃ g, e = .returned (.tuple #[.slice (some ⟨g, 0, none⟩) 256 256, .int .i64 0]) ∧ Bo w' (.slice (some ⟨g, 0, none⟩) 256 256) p ∧ Below wr.heap.size wr w') := hid (by
                        refine (dp_read HT10.dp t HTN.out (k : Int) (by have := HN6.out; omega)).mono ?_
                        rw [hrd]
                        rintro e w' ⟨⟨v, rfl, hv⟩, hB⟩
                        obtain ⟨g, rfl, _⟩ := bw_range hv (by rw [hpl]; omega)
                        have hbo := hv.br.bo
                        rw [hpl] at hbo ⊢
                        exact ⟨g, rfl, hbo, hB⟩)
                      have HA2 : Hid (∀ W, Below wr.heap.size wr W → Calls Tryz.prog 21 #[.pointer (some ⟨da, 0, none⟩), St t, .int .i64 (k : Int)] W fun e w' => ∃ g, e = .returned (.tuple #[.slice (some ⟨g, 0, none⟩) 256 256, .int .i64 0]) ∧ Bo w' (.slice (some ⟨g, 0, none⟩) 256 256) p ∧ Below W.heap.size W w') := hid (fun W hW => by
                        refine (dp_read (HT10.low hW).1.swap.dp t HTN.out (k : Int) (by have := HN6.out; omega)).mono ?_
                        rw [FRD.out, hrd]
                        rintro e w' ⟨⟨v, rfl, hv⟩, hB⟩
                        obtain ⟨g, rfl, _⟩ := bw_range hv (by rw [hpl]; omega)
                        have hbo := hv.br.bo
                        rw [hpl] at hbo ⊢
                        exact ⟨g, rfl, hbo, hB⟩)
                      have hkw : IntKind.i64.wrap ((k : Int) + 1) = ((k + 1 : Nat) : Int) := by rw [IntKind.wrap_i64]; have := HN6.out; omega
                      have hk1 : (k : Int) < (n : Int) := by omega
                      have HKL2 := hid hkl
                      have HB2 := hid hbe2
                      clear hpl hrd HT10 hk hkl hbe2
                      go_wp2_with fail
                      refine HA1.out.mono ?_
                      rintro e y1 ⟨g1, rfl, b1, B1⟩
                      have d2 := HCELL.out y1 ⟨B1.os.trans HB2.out.os, B1.tape.trans HB2.out.tape, B1.output.trans HB2.out.output, Nat.le_trans HB2.out.size B1.size, fun z hz => (B1.block z (Nat.lt_of_lt_of_le hz HB2.out.size)).trans (HB2.out.block z hz)⟩
                      have HA3 := hid (HA2.out y1 B1)
                      have BB1 := hid b1
                      have HY1 := hid B1
                      clear b1 B1 HA1 HA2 d1
                      go_wp2_with fail
                      refine HA3.out.mono ?_
                      rintro e y2 ⟨g2, rfl, b2, B2⟩
                      have hcv1 := text_bo (BB1.out.low B2)
                      have hcv2 := text_bo b2
                      have HY2 : Hid (Below v9.heap.size v9 y2) := hid (by
                        have e1 : Below v9.heap.size v9 y1 := ⟨HY1.out.os.trans HB2.out.os, HY1.out.tape.trans HB2.out.tape, HY1.out.output.trans HB2.out.output, Nat.le_trans HB2.out.size HY1.out.size, fun z hz => (HY1.out.block z (Nat.lt_of_lt_of_le hz HB2.out.size)).trans (HB2.out.block z hz)⟩
                        exact ⟨B2.os.trans e1.os, B2.tape.trans e1.tape, B2.output.trans e1.output, Nat.le_trans e1.size B2.size, fun z hz => (B2.block z (Nat.lt_of_lt_of_le hz e1.size)).trans (e1.block z hz)⟩)
                      clear b2 B2 d2 HA3 BB1 HY1
                      go_wp2_with fail
                      go_roundg (n - (k + 1))
                      case measure => have := HKL2.out; omega
                      case rel => exact ⟨k + 1, rfl, HKL2.out, rfl, HY2.out⟩
                    · have hke : k = n := by omega
                      subst hke
                      have hkn : ¬ (k : Int) < (k : Int) := by omega
                      have HB2 := hid hbe2
                      clear hk hkl hbe2
                      go_wp2_with fail
                      go_roundg (nL - (i + 1))
                      case measure => have := HIL.out; omega
                      case rel => exact ⟨i + 1, rfl, HIL.out, rfl, HB2.out⟩
                · have hie : i = nL := by omega
                  subst hie
                  have hin : ¬ (i : Int) < (i : Int) := by omega
                  have HZ1 := hid (dp_used (HT9.out.low hbel).1.dp)
                  rw [FUS.out] at HZ1
                  have HKz := hid (HKi.out.trans (HT9.out.low hbel).2)
                  have hqq := HQV.out
                  obtain ⟨m1, hm1⟩ : ∃ m1 : Int, m1 = min qv 65536 := ⟨_, rfl⟩
                  obtain ⟨m2, hm2⟩ : ∃ m2 : Int, m2 = max m1 0 := ⟨_, rfl⟩
                  have hle : (us : Int) ≤ m2 := by
                    have h1 := FU3.out
                    rw [HQ2.out] at h1
                    have h2 : (newD qv).quota = (min (max qv 0) 65536).toNat := rfl
                    omega
                  have hm1' := hm1.symm
                  have hm2' := hm2.symm
                  clear hm1 hm2 hqq hbel hi hil
                  go_wp2_with fail
                  refine HZ1.out.mono ?_
                  rintro e wz ⟨rfl, hBz⟩
                  have HKy := hid (HBW.out _ _ HKz.out hBz)
                  clear hBz HZ1
                  have HKz2 : Hid (∀ w9, Below wz.heap.size wz w9 → Below w.heap.size w w9) := hid (fun w9 h9 => ⟨h9.os.trans HKy.out.os, h9.tape.trans HKy.out.tape, h9.output.trans HKy.out.output, Nat.le_trans HKy.out.size h9.size, fun z hz => (h9.block z (Nat.lt_of_lt_of_le hz HKy.out.size)).trans (HKy.out.block z hz)⟩)
                  go_wp2_with fail
                  all_goals
                    refine (HWK.out _).mono ?_
                    rintro e w9 ⟨rfl, hb9⟩
                    have HB9 := hid (HKz2.out w9 hb9)
                    clear hb9
                    go_wp2_with fail
                    go_ret
                    exact ⟨rfl, HB9.out⟩
            | some f =>
              have hc : ∀ k, (createD (failD s1 0 k) nmX).2 = failD s1 0 k := fun k => by
                rcases create_fails HOF.out k nmX (by decide) with h | h
                · rw [hfi] at h; cases h.2
                · exact h.1
              rw [show ([0, 32, 97, 32, 110, 97, 109, 101, 32, 116, 104, 97, 116, 32, 110, 111, 32, 111, 110, 101, 32, 104, 97, 115] : Bs) = nmX from rfl, hc, hc] at HT12
              have HQB := hid (dp_off HT12.out.swap.dp)
              rw [show (failD s1 0 18446744073709551615).off = false by
                unfold failD
                rw [if_neg (by rw [HOF.out]; decide)]
                exact HOF.out] at HQB
              have HHAS : Hid (∀ W, Kw K w W → Calls Tryz.prog 18 #[.slice a1 na c1] W fun e w' => e = .returned (.bool true) ∧ w' = W) := hid (fun W hW => by
                have hx : ∃ x ∈ l, x.name = nmX ∨ x.to = nmX := by
                  obtain ⟨h1, h2⟩ := find_mem hfi
                  have h3 := HO2.out f h1
                  rw [h2] at h3
                  obtain ⟨x, hx, h4⟩ := List.mem_flatMap.1 (show nmX ∈ l.flatMap fun x => [x.name, x.to] from h3)
                  simp only [List.mem_cons, List.mem_nil_iff, or_false] at h4
                  exact ⟨x, hx, h4.imp Eq.symm Eq.symm⟩
                have := has_any W a1 c1 l (HO.out.low (HKB.out W hW)) (by have := HNA.out; omega) hx
                rw [← HNA.out] at this
                exact this)
              have HHW := hid (HHAS.out w12 HK12.out)
              clear hc hfi hlt HT12 HNF HHAS
              go_wp2_with fail
              refine HQB.out.mono ?_
              rintro e wa ⟨rfl, hwa⟩
              have hwa := hwa.symm
              subst hwa
              clear HQB
              go_wp2_with fail
              refine HHW.out.mono ?_
              rintro e wb ⟨rfl, hwb⟩
              have hwb := hwb.symm
              subst hwb
              go_wp2_with fail
              refine (HWK.out _).mono ?_
              rintro e w9 ⟨rfl, hb9⟩
              have HB9 := hid hb9
              clear hb9
              go_wp2_with fail
              go_ret
              exact ⟨rfl, HBW.out _ _ HK12.out HB9.out⟩
          · have hlt1 : ¬ (nf : Int) < 256 := by omega
            have hc : ∀ k, (createD (failD s1 0 k) nmX).2 = failD s1 0 k := fun k => by
              rcases create_fails HOF.out k nmX (by decide) with h | h
              · have hsl := create_len HOF.out k nmX (by decide) (by have := HNF.out; omega)
                exact hsl
              · exact h.1
            rw [show ([0, 32, 97, 32, 110, 97, 109, 101, 32, 116, 104, 97, 116, 32, 110, 111, 32, 111, 110, 101, 32, 104, 97, 115] : Bs) = nmX from rfl, hc, hc] at HT12
            have hon : ∀ k, onD (failD s1 0 k) = failD s1 0 k := fun k => by
              unfold onD
              rw [if_pos (by unfold failD; rw [if_neg (by rw [HOF.out]; decide)]; exact HOF.out)]
            have hfd : ∀ k, failD s1 0 k = { s1 with set := true, inn := 0, keep := k } := fun k => by unfold failD; rw [if_neg (by rw [HOF.out]; decide)]; rfl
            obtain ⟨sa, hsa⟩ : ∃ sa, sa = failD s1 0 18446744073709551615 := ⟨_, rfl⟩
            obtain ⟨sb, hsb⟩ : ∃ sb, sb = failD s1 0 keep := ⟨_, rfl⟩
            rw [← hsa, ← hsb] at HT12
            have FN1 : Hid (namesD (onD sa) = namesD s1) := hid (by rw [hsa, hon, hfd]; rfl)
            have FN2 : Hid (namesD (onD sb) = namesD s1) := hid (by rw [hsb, hon, hfd]; rfl)
            have FU1 : Hid (usedN (onD sa) = usedN s1) := hid (by rw [hsa, hon, hfd]; rfl)
            have FU2 : Hid (usedN (onD sb) ≤ usedN s1) := hid (by rw [hsb, hon, hfd]; exact Nat.le_refl _)
            have FRD : Hid (∀ t p, readDk (onD sa) t p = readDk s1 t p) := hid (fun t p => by rw [hsa, hon, hfd]; rfl)
            have HTX := hid HT12.out
            have HKX := hid HK12.out
            clear hc hon hfd hsa hsb hlt HT12 HK12 HNF
            go_wp2_with fail
            have HR1 := hid (HTX.out.swap.call (s' := onD sa) (fun K' h => dp_on h))
            refine HR1.out.mono ?_
            rintro e v1 ⟨rfl, t1, k1⟩
            have HKa := hid (HKX.out.trans k1)
            have HR2 := hid (t1.swap.turn.call (s' := onD sb) (fun K' h => dp_on h))
            clear t1 k1 HR1 HTX HKX
            go_wp2_with fail
            refine HR2.out.mono ?_
            rintro e v2 ⟨rfl, t2, k2⟩
            have HKb := hid (HKa.out.trans k2)
            have HT2 : Hid (Tri K v2 w.heap.size da db s1 (onD sa) (onD sb)) := hid t2.turn
            clear t2 k2 HR2 HKa
            generalize onD sa = sa2 at *
            generalize onD sb = sb2 at *
            have HR3 := hid (dp_names HT2.out.dp)
            go_wp2_with fail
            refine HR3.out.mono ?_
            rintro e v3 ⟨ax, cx, rfl, tx3, hB3⟩
            have HT3 := hid (HT2.out.low hB3).1
            have HKc := hid (HKb.out.trans (HT2.out.low hB3).2)
            have HX3 := hid tx3
            have HR4 := hid (dp_names HT3.out.swap.dp)
            rw [FN1.out] at HR4
            clear tx3 hB3 HR3 HT2 HKb
            obtain ⟨L, hL⟩ : ∃ L, L = namesD s1 := ⟨_, rfl⟩
            rw [← hL] at HX3 HR4 ⊢
            have HL := hid hL
            have hLl : L.length ≤ 256 := by rw [hL, names_len HOF.out]; exact HT3.out.dp.ok.few
            have HLL := hid hLl
            have HNMS : Hid (∀ (W : World) (a b : Value), Tx W a L → Tx W b L → Calls Tryz.prog 19 #[a, b] W fun e w' => e = .returned (.bool true) ∧ Below W.heap.size W w') := hid (fun W a b h1 h2 => by
              have := nsame_any W a b L L h1 h2 (by omega)
              rw [decide_eq_true rfl] at this
              exact this)
            have HTXL : Hid (∀ (W W' : World) (v : Value), Tx W v L → Below W.heap.size W W' → Tx W' v L) := hid (fun W W' v h hB => ownsRow_same h (fun g hg => hB.block g (h.lt g hg).2))
            obtain ⟨nL, hnL⟩ : ∃ nL, nL = L.length := ⟨_, rfl⟩
            rw [← hnL] at HX3 HR4 ⊢
            have HNL := hid hnL
            clear hL hLl hnL
            go_wp2_with fail
            refine HR4.out.mono ?_
            rintro e v4 ⟨ay, cy, rfl, ty4, hB4⟩
            have HT4 := hid (HT3.out.low hB4).1
            have HKd := hid (HKc.out.trans (HT3.out.low hB4).2)
            have HX4 := hid (HTXL.out _ _ _ HX3.out hB4)
            have HR5 := hid (HNMS.out v4 _ _ ty4 (HTXL.out _ _ _ HX3.out hB4))
            clear ty4 hB4 HR4 HT3 HKc HX3
            go_wp2_with fail
            refine HR5.out.mono ?_
            rintro e v5 ⟨rfl, hB5⟩
            have HT5 := hid (HT4.out.low hB5).1
            have HKe := hid (HKd.out.trans (HT4.out.low hB5).2)
            have HX5 := hid (HTXL.out _ _ _ HX4.out hB5)
            have HR6 := hid (dp_names (HT4.out.low hB5).1.turn.dp)
            rw [FN2.out, ← HL.out, ← HNL.out] at HR6
            clear hB5 HR5 HT4 HKd HX4
            go_wp2_with fail
            refine HR6.out.mono ?_
            rintro e v6 ⟨az, cz, rfl, tz6, hB6⟩
            have HT6' := hid (HT5.out.low hB6).1
            have HKf := hid (HKe.out.trans (HT5.out.low hB6).2)
            have HX6 := hid (HTXL.out _ _ _ HX5.out hB6)
            have HR7 := hid (HNMS.out v6 _ _ tz6 (HTXL.out _ _ _ HX5.out hB6))
            clear tz6 hB6 HR6 HT5 HKe HX5
            go_wp2_with fail
            refine HR7.out.mono ?_
            rintro e v7 ⟨rfl, hB7⟩
            have HT7 := hid (HT6'.out.low hB7).1
            have HKg := hid (HKf.out.trans (HT6'.out.low hB7).2)
            have HX7 := hid (HTXL.out _ _ _ HX6.out hB7)
            have HR8 := hid (dp_used (HT6'.out.low hB7).1.swap.dp)
            rw [FU1.out] at HR8
            clear hB7 HR7 HT6' HKf HX6
            have fu2 : ¬ ((usedN s1 : Nat) : Int) < ((usedN sb2 : Nat) : Int) := by have := FU2.out; omega
            have FU3 : Hid (usedN s1 ≤ s1.quota) := hid HT7.out.q0
            obtain ⟨us, hus⟩ : ∃ us, us = usedN s1 := ⟨_, rfl⟩
            obtain ⟨ub, hub⟩ : ∃ ub, ub = usedN sb2 := ⟨_, rfl⟩
            have FUS : Hid (usedN s1 = us) := hid hus.symm
            have FUB : Hid (usedN sb2 = ub) := hid hub.symm
            rw [← hus] at HR8 FU3 fu2 ⊢
            rw [← hub] at fu2
            clear hus hub
            go_wp2_with fail
            refine HR8.out.mono ?_
            rintro e v8 ⟨rfl, hB8⟩
            have HT8 := hid (HT7.out.low hB8).1
            have HKh := hid (HKg.out.trans (HT7.out.low hB8).2)
            have HX8 := hid (HTXL.out _ _ _ HX7.out hB8)
            have HR9 := hid (dp_used (HT7.out.low hB8).1.turn.dp)
            rw [FUB.out] at HR9
            clear hB8 HR8 HT7 HKg HX7
            go_wp2_with fail
            refine HR9.out.mono ?_
            rintro e v9 ⟨rfl, hB9⟩
            have HT9 := hid (HT8.out.low hB9).1
            have HKi := hid (HKh.out.trans (HT8.out.low hB9).2)
            have HX9 := hid (HTXL.out _ _ _ HX8.out hB9)
            clear hB9 HR9 HT8 HKh HX8
            go_wp2_with fail
            have hdz : decide (us < ub) = false := decide_eq_false (by omega)
            rw [hdz]
            clear fu2 hdz
            have HLEN : Hid (∀ t ∈ L, ∃ n, ∃ P : List Bs, P.length = n ∧ n ≤ 65536 ∧ lenD s1 t = (n, 0) ∧ ∀ k (hk : k < n), ∃ p : Bs, p.length = 256 ∧ readDk s1 t (k : Int) = (p, 0)) := hid (fun t ht => by
              rw [HL.out] at ht
              obtain ⟨f, hf⟩ := names_has HOF.out ht
              obtain ⟨hm, _⟩ := find_mem hf
              refine ⟨(pagesOf s1 f).length, pagesOf s1 f, rfl, ?_, ?_, fun k hk => ⟨(pagesOf s1 f)[k], pages_ok HT9.out.dp.ok hm _ (List.getElem_mem hk), ?_⟩⟩
              · have h1 := used_file hm
                have h2 := HT9.out.q0
                have h3 := HT9.out.dp.ok.quota
                omega
              · unfold lenD
                rw [if_neg (by rw [HOF.out]; decide), hf]
              · unfold readDk
                rw [if_neg (by rw [HOF.out]; decide), hf]
                show (if (k : Int) < 0 ∨ ((pagesOf s1 f).length : Int) ≤ (k : Int) then _ else _) = _
                rw [if_neg (by omega)]
                simp [hk])
            have HTLN : Hid (∀ t ∈ L, t.length ≤ 140737488355328) := hid (fun t ht => by
              rw [HL.out] at ht
              obtain ⟨f, hf⟩ := names_has HOF.out ht
              obtain ⟨hm, hn⟩ := find_mem hf
              have := HT9.out.dp.ok.lens f hm
              rw [hn] at this
              unfold named at this
              simp at this
              omega)
            go_loopg [14, 15, 16, 17, 18, 19, 20, 21] nL (fun gg vi _x1 _x2 _x3 _x4 _x5 _x6 _x7 wr => ∃ i : Nat, gg = nL - i ∧ i ≤ nL ∧ vi = .int .i64 (i : Int) ∧ Below v9.heap.size v9 wr)
            case atStart => exact ⟨0, rfl, Nat.zero_le _, rfl, Below.refl _ _⟩
            case round =>
              obtain ⟨i, rfl, hi, rfl, hbel⟩ := hrel
              by_cases hil : i < nL
              · have hiL : i < L.length := by have := HNL.out; omega
                obtain ⟨gx, cx', ex, _, hcx⟩ := (show Tx v9 (.slice ax nL cx) L from HX9.out).at' (by omega)
                have hax : ax = some ⟨gx, 0, none⟩ := by cases ex; rfl
                obtain ⟨t, ht⟩ : ∃ t, t = L[i]'hiL := ⟨_, rfl⟩
                have htm : t ∈ L := by rw [ht]; exact List.getElem_mem hiL
                obtain ⟨n, P, hPn, hn, hlen, hread⟩ := HLEN.out t htm
                have hcell : ∀ W, Below v9.heap.size v9 W → W.cell? ⟨gx, i, none⟩ = some (St t) := fun W hW => by
                  have h1 := (hcx i hiL).1
                  rw [ht, ← h1]
                  exact World.cell?_of_block (hW.block gx (World.block_lt_of_cell? v9 ⟨gx, i, none⟩ h1))
                have c1' := hcell wr hbel
                have HCELL := hid hcell
                have HTN := hid (HTLN.out t htm)
                have HRD := hid hread
                have HLE := hid (dp_len (HT9.out.low hbel).1.dp t (HTLN.out t htm))
                rw [hlen] at HLE
                have HN6 : Hid (n ≤ 65536) := hid hn
                have hiw : IntKind.i64.wrap ((i : Int) + 1) = ((i + 1 : Nat) : Int) := by rw [IntKind.wrap_i64]; have := HLL.out; have := HNL.out; omega
                have hi0 : (0 : Int) ≤ (i : Int) := Int.natCast_nonneg _
                have hi1 : (i : Int) < (nL : Int) := by omega
                have HIL := hid hil
                have HBE := hid hbel
                clear ex hcx ht htm hPn hn hlen hread hcell hi hil hiL hbel P
                subst hax
                go_wp2_with fail
                refine HLE.out.mono ?_
                rintro e wl ⟨rfl, hwl⟩
                have hwl := hwl.symm
                subst hwl
                clear c1' HLE
                have hz0 : ((0 : Nat) : Int) = 0 := rfl
                rw [hz0]
                clear hz0
                go_wp2_with fail
                obtain ⟨wi, hwi⟩ : ∃ wi, wi = wr := ⟨_, rfl⟩
                subst hwi
                go_loopg [17, 18, 19, 20, 21] n (fun gg vk _x4 _x5 _x6 _x7 wr => ∃ k : Nat, gg = n - k ∧ k ≤ n ∧ vk = .int .i64 (k : Int) ∧ Below v9.heap.size v9 wr)
                case atStart => exact ⟨0, rfl, Nat.zero_le _, rfl, HBE.out⟩
                case round =>
                  obtain ⟨k, rfl, hk, rfl, hbe2⟩ := hrel
                  by_cases hkl : k < n
                  · obtain ⟨p, hpl, hrd⟩ := HRD.out k hkl
                    have d1 := HCELL.out wr hbe2
                    have HT10 := (HT9.out.low hbe2).1
                    have HA1 : Hid (Calls Tryz.prog 21 #[.pointer (some ⟨w.heap.size, 0, none⟩), St t, .int .i64 (k : Int)] wr fun e w' => ∃ g, e = .returned (.tuple #[.slice (some ⟨g, 0, none⟩) 256 256, .int .i64 0]) ∧ Bo w' (.slice (some ⟨g, 0, none⟩) 256 256) p ∧ Below wr.heap.size wr w') := hid (by
                      refine (dp_read HT10.dp t HTN.out (k : Int) (by have := HN6.out; omega)).mono ?_
                      rw [hrd]
                      rintro e w' ⟨⟨v, rfl, hv⟩, hB⟩
                      obtain ⟨g, rfl, _⟩ := bw_range hv (by rw [hpl]; omega)
                      have hbo := hv.br.bo
                      rw [hpl] at hbo ⊢
                      exact ⟨g, rfl, hbo, hB⟩)
                    have HA2 : Hid (∀ W, Below wr.heap.size wr W → Calls Tryz.prog 21 #[.pointer (some ⟨da, 0, none⟩), St t, .int .i64 (k : Int)] W fun e w' => ∃ g, e = .returned (.tuple #[.slice (some ⟨g, 0, none⟩) 256 256, .int .i64 0]) ∧ Bo w' (.slice (some ⟨g, 0, none⟩) 256 256) p ∧ Below W.heap.size W w') := hid (fun W hW => by
                      refine (dp_read (HT10.low hW).1.swap.dp t HTN.out (k : Int) (by have := HN6.out; omega)).mono ?_
                      rw [FRD.out, hrd]
                      rintro e w' ⟨⟨v, rfl, hv⟩, hB⟩
                      obtain ⟨g, rfl, _⟩ := bw_range hv (by rw [hpl]; omega)
                      have hbo := hv.br.bo
                      rw [hpl] at hbo ⊢
                      exact ⟨g, rfl, hbo, hB⟩)
                    have hkw : IntKind.i64.wrap ((k : Int) + 1) = ((k + 1 : Nat) : Int) := by rw [IntKind.wrap_i64]; have := HN6.out; omega
                    have hk1 : (k : Int) < (n : Int) := by omega
                    have HKL2 := hid hkl
                    have HB2 := hid hbe2
                    clear hpl hrd HT10 hk hkl hbe2
                    go_wp2_with fail
                    refine HA1.out.mono ?_
                    rintro e y1 ⟨g1, rfl, b1, B1⟩
                    have d2 := HCELL.out y1 ⟨B1.os.trans HB2.out.os, B1.tape.trans HB2.out.tape, B1.output.trans HB2.out.output, Nat.le_trans HB2.out.size B1.size, fun z hz => (B1.block z (Nat.lt_of_lt_of_le hz HB2.out.size)).trans (HB2.out.block z hz)⟩
                    have HA3 := hid (HA2.out y1 B1)
                    have BB1 := hid b1
                    have HY1 := hid B1
                    clear b1 B1 HA1 HA2 d1
                    go_wp2_with fail
                    refine HA3.out.mono ?_
                    rintro e y2 ⟨g2, rfl, b2, B2⟩
                    have hcv1 := text_bo (BB1.out.low B2)
                    have hcv2 := text_bo b2
                    have HY2 : Hid (Below v9.heap.size v9 y2) := hid (by
                      have e1 : Below v9.heap.size v9 y1 := ⟨HY1.out.os.trans HB2.out.os, HY1.out.tape.trans HB2.out.tape, HY1.out.output.trans HB2.out.output, Nat.le_trans HB2.out.size HY1.out.size, fun z hz => (HY1.out.block z (Nat.lt_of_lt_of_le hz HB2.out.size)).trans (HB2.out.block z hz)⟩
                      exact ⟨B2.os.trans e1.os, B2.tape.trans e1.tape, B2.output.trans e1.output, Nat.le_trans e1.size B2.size, fun z hz => (B2.block z (Nat.lt_of_lt_of_le hz e1.size)).trans (e1.block z hz)⟩)
                    clear b2 B2 d2 HA3 BB1 HY1
                    go_wp2_with fail
                    go_roundg (n - (k + 1))
                    case measure => have := HKL2.out; omega
                    case rel => exact ⟨k + 1, rfl, HKL2.out, rfl, HY2.out⟩
                  · have hke : k = n := by omega
                    subst hke
                    have hkn : ¬ (k : Int) < (k : Int) := by omega
                    have HB2 := hid hbe2
                    clear hk hkl hbe2
                    go_wp2_with fail
                    go_roundg (nL - (i + 1))
                    case measure => have := HIL.out; omega
                    case rel => exact ⟨i + 1, rfl, HIL.out, rfl, HB2.out⟩
              · have hie : i = nL := by omega
                subst hie
                have hin : ¬ (i : Int) < (i : Int) := by omega
                have HZ1 := hid (dp_used (HT9.out.low hbel).1.dp)
                rw [FUS.out] at HZ1
                have HKz := hid (HKi.out.trans (HT9.out.low hbel).2)
                have hqq := HQV.out
                obtain ⟨m1, hm1⟩ : ∃ m1 : Int, m1 = min qv 65536 := ⟨_, rfl⟩
                obtain ⟨m2, hm2⟩ : ∃ m2 : Int, m2 = max m1 0 := ⟨_, rfl⟩
                have hle : (us : Int) ≤ m2 := by
                  have h1 := FU3.out
                  rw [HQ2.out] at h1
                  have h2 : (newD qv).quota = (min (max qv 0) 65536).toNat := rfl
                  omega
                have hm1' := hm1.symm
                have hm2' := hm2.symm
                clear hm1 hm2 hqq hbel hi hil
                go_wp2_with fail
                refine HZ1.out.mono ?_
                rintro e wz ⟨rfl, hBz⟩
                have HKy := hid (HBW.out _ _ HKz.out hBz)
                clear hBz HZ1
                have HKz2 : Hid (∀ w9, Below wz.heap.size wz w9 → Below w.heap.size w w9) := hid (fun w9 h9 => ⟨h9.os.trans HKy.out.os, h9.tape.trans HKy.out.tape, h9.output.trans HKy.out.output, Nat.le_trans HKy.out.size h9.size, fun z hz => (h9.block z (Nat.lt_of_lt_of_le hz HKy.out.size)).trans (HKy.out.block z hz)⟩)
                go_wp2_with fail
                all_goals
                  refine (HWK.out _).mono ?_
                  rintro e w9 ⟨rfl, hb9⟩
                  have HB9 := hid (HKz2.out w9 hb9)
                  clear hb9
                  go_wp2_with fail
                  go_ret
                  exact ⟨rfl, HB9.out⟩
        | false =>
          have HOF := hid hoff
          have HQ2 := hid HQU.out
          have HO2 := hid HOR.out
          have HS2 : Hid (Sm 4000 s) := hid (HS.out.less (by omega))
          have HP4 := hid HP.out.dp
          have HK4 := hid HKW.out
          obtain ⟨s1, hs1⟩ : ∃ s1, s1 = s := ⟨_, rfl⟩
          subst hs1
          obtain ⟨w4, hw4⟩ : ∃ w4, w4 = wr := ⟨_, rfl⟩
          subst hw4
          clear hoff
          go_wp2_with fail
          have HQ3 := hid (dp_copy HP4.out)
          refine HQ3.out.mono ?_
          rintro e w5 ⟨da, rfl, ha5, hB5⟩
          have HA5 := hid ha5
          have HB5 := hid hB5
          have HQ4 := hid (dp_copy (HP4.out.low hB5))
          clear ha5 hB5 HQ3
          go_wp2_with fail
          refine HQ4.out.mono ?_
          rintro e w6 ⟨db, rfl, hb6, hB6⟩
          have HT6 := hid (tri_of HP4.out HA5.out HB5.out hb6 hB6)
          have HK6 := hid (HK4.out.trans (Kw.trans (below_kw HB5.out (fun g hg => HP4.out.lt hg)) (below_kw hB6 (fun g hg => Nat.lt_of_lt_of_le (HP4.out.lt hg) HB5.out.size))))
          clear hb6 hB6 HQ4 HA5 HB5 HK4 HP4
          have HQ5 := hid (HT6.out.swap.call (s' := failD s1 0 18446744073709551615) (fun K' h => dp_fail h 0 (by omega) 18446744073709551615 (by omega)))
          go_wp2_with fail
          refine HQ5.out.mono ?_
          rintro e w7 ⟨rfl, t7, k7⟩
          have HK7 := hid (HK6.out.trans k7)
          have HQ6 := hid (t7.swap.turn.call (s' := failD s1 0 keep) (fun K' h => dp_fail h 0 (by omega) keep HKP.out))
          clear t7 k7 HQ5 HT6 HK6
          go_wp2_with fail
          refine HQ6.out.mono ?_
          rintro e w8 ⟨rfl, t8, k8⟩
          have HK8 := hid (HK7.out.trans k8)
          have hsm : ∀ k, Sm 1 (failD s1 0 k) := fun k => by
            have a := small_fail s1 0 k
            exact ⟨by rw [a.1]; have := HS2.out.1; omega, by rw [a.2]; have := HS2.out.2; omega⟩
          have HQ7 := hid (t8.turn.swap.call (s' := (createD (failD s1 0 18446744073709551615) nmX).2) (fun K' h => dp_create h nmX (by decide) (hsm _)))
          have HSM := hid hsm
          clear t8 k8 HQ6 HK7 hsm
          rw [show nmX = ([0, 32, 97, 32, 110, 97, 109, 101, 32, 116, 104, 97, 116, 32, 110, 111, 32, 111, 110, 101, 32, 104, 97, 115] : Bs) from rfl] at HQ7
          go_wp2_with fail
          refine HQ7.out.mono ?_
          rintro e w9 ⟨rfl, t9, k9⟩
          have HK9 := hid (HK8.out.trans k9)
          have HQ8 := hid (t9.swap.turn.call (s' := (createD (failD s1 0 keep) nmX).2) (fun K' h => dp_create h nmX (by decide) (HSM.out _)))
          clear t9 k9 HQ7 HK8
          rw [show nmX = ([0, 32, 97, 32, 110, 97, 109, 101, 32, 116, 104, 97, 116, 32, 110, 111, 32, 111, 110, 101, 32, 104, 97, 115] : Bs) from rfl] at HQ8
          go_wp2_with fail
          refine HQ8.out.mono ?_
          rintro e w10 ⟨rfl, t10, k10⟩
          have HK10 := hid (HK9.out.trans k10)
          have HT10 := hid t10.turn
          have HQ9 := hid (dp_used t10.turn.dp)
          clear t10 k10 HQ8 HK9
          go_wp2_with fail
          refine HQ9.out.mono ?_
          rintro e w11 ⟨rfl, hB11⟩
          have HT11 := hid (HT10.out.low hB11).1
          have HK11 := hid (HK10.out.trans (HT10.out.low hB11).2)
          clear hB11 HQ9 HT10 HK10
          have HQA := hid (dp_names HT11.out.dp)
          go_wp2_with fail
          refine HQA.out.mono ?_
          rintro e w12 ⟨a12, c12, rfl, _, hB12⟩
          have HT12 := hid (HT11.out.low hB12).1
          have HK12 := hid (HK11.out.trans (HT11.out.low hB12).2)
          clear hB12 HQA HT11 HK11
          have hnl := names_len HOF.out
          rw [hnl]
          obtain ⟨nf, hnf⟩ : ∃ nf, nf = s1.files.length := ⟨_, rfl⟩
          rw [← hnf]
          have HNF := hid hnf
          clear hnl hnf
          by_cases hlt : nf < 256
          · have hlt1 : (nf : Int) < 256 := by omega
            cases hfi : findF s1 nmX with
            | none =>
              have hc : ∀ k, (createD (failD s1 0 k) nmX).2 = offD (failD s1 0 k) := fun k => by
                rcases create_fails HOF.out k nmX (by decide) with h | h
                · exact h.1
                · rcases h.2 with h2 | h2
                  · have := HNF.out; omega
                  · rw [hfi] at h2; cases h2
              rw [show ([0, 32, 97, 32, 110, 97, 109, 101, 32, 116, 104, 97, 116, 32, 110, 111, 32, 111, 110, 101, 32, 104, 97, 115] : Bs) = nmX from rfl, hc, hc] at HT12
              have HQB := hid (dp_off HT12.out.swap.dp)
              have HQC := hid (dp_off HT12.out.turn.dp)
              rw [show (offD (failD s1 0 18446744073709551615)).off = true from rfl] at HQB
              rw [show (offD (failD s1 0 keep)).off = true from rfl] at HQC
              obtain ⟨sa, hsa⟩ : ∃ sa, sa = offD (failD s1 0 18446744073709551615) := ⟨_, rfl⟩
              obtain ⟨sb, hsb⟩ : ∃ sb, sb = offD (failD s1 0 keep) := ⟨_, rfl⟩
              rw [← hsa, ← hsb] at HT12
              have FN1 : Hid (namesD (onD sa) = namesD s1) := hid (by rw [hsa]; exact lost_names HOF.out _)
              have FN2 : Hid (namesD (onD sb) = namesD s1) := hid (by rw [hsb]; exact lost_names HOF.out _)
              have FU1 : Hid (usedN (onD sa) = usedN s1) := hid (by rw [hsa]; exact lost_used_all HOF.out)
              have FU2 : Hid (usedN (onD sb) ≤ usedN s1) := hid (by rw [hsb]; exact lost_used HOF.out _)
              have FRD : Hid (∀ t p, readDk (onD sa) t p = readDk s1 t p) := hid (fun t p => by rw [hsa]; exact lost_read HOF.out t p)
              have HTX := hid HT12.out
              have HKX := hid HK12.out
              clear hc hfi hsa hsb hlt HT12 HK12 HNF
              go_wp2_with fail
              refine HQB.out.mono ?_
              rintro e wa ⟨rfl, hwa⟩
              have hwa := hwa.symm
              subst hwa
              go_wp2_with fail
              refine HQC.out.mono ?_
              rintro e wb ⟨rfl, hwb⟩
              have hwb := hwb.symm
              subst hwb
              clear HQB HQC
              go_wp2_with fail
              have HR1 := hid (HTX.out.swap.call (s' := onD sa) (fun K' h => dp_on h))
              refine HR1.out.mono ?_
              rintro e v1 ⟨rfl, t1, k1⟩
              have HKa := hid (HKX.out.trans k1)
              have HR2 := hid (t1.swap.turn.call (s' := onD sb) (fun K' h => dp_on h))
              clear t1 k1 HR1 HTX HKX
              go_wp2_with fail
              refine HR2.out.mono ?_
              rintro e v2 ⟨rfl, t2, k2⟩
              have HKb := hid (HKa.out.trans k2)
              have HT2 : Hid (Tri K v2 w.heap.size da db s1 (onD sa) (onD sb)) := hid t2.turn
              clear t2 k2 HR2 HKa
              generalize onD sa = sa2 at *
              generalize onD sb = sb2 at *
              have HR3 := hid (dp_names HT2.out.dp)
              go_wp2_with fail
              refine HR3.out.mono ?_
              rintro e v3 ⟨ax, cx, rfl, tx3, hB3⟩
              have HT3 := hid (HT2.out.low hB3).1
              have HKc := hid (HKb.out.trans (HT2.out.low hB3).2)
              have HX3 := hid tx3
              have HR4 := hid (dp_names HT3.out.swap.dp)
              rw [FN1.out] at HR4
              clear tx3 hB3 HR3 HT2 HKb
              obtain ⟨L, hL⟩ : ∃ L, L = namesD s1 := ⟨_, rfl⟩
              rw [← hL] at HX3 HR4 ⊢
              have HL := hid hL
              have hLl : L.length ≤ 256 := by rw [hL, names_len HOF.out]; exact HT3.out.dp.ok.few
              have HLL := hid hLl
              have HNMS : Hid (∀ (W : World) (a b : Value), Tx W a L → Tx W b L → Calls Tryz.prog 19 #[a, b] W fun e w' => e = .returned (.bool true) ∧ Below W.heap.size W w') := hid (fun W a b h1 h2 => by
                have := nsame_any W a b L L h1 h2 (by omega)
                rw [decide_eq_true rfl] at this
                exact this)
              have HTXL : Hid (∀ (W W' : World) (v : Value), Tx W v L → Below W.heap.size W W' → Tx W' v L) := hid (fun W W' v h hB => ownsRow_same h (fun g hg => hB.block g (h.lt g hg).2))
              obtain ⟨nL, hnL⟩ : ∃ nL, nL = L.length := ⟨_, rfl⟩
              rw [← hnL] at HX3 HR4 ⊢
              have HNL := hid hnL
              clear hL hLl hnL
              go_wp2_with fail
              refine HR4.out.mono ?_
              rintro e v4 ⟨ay, cy, rfl, ty4, hB4⟩
              have HT4 := hid (HT3.out.low hB4).1
              have HKd := hid (HKc.out.trans (HT3.out.low hB4).2)
              have HX4 := hid (HTXL.out _ _ _ HX3.out hB4)
              have HR5 := hid (HNMS.out v4 _ _ ty4 (HTXL.out _ _ _ HX3.out hB4))
              clear ty4 hB4 HR4 HT3 HKc HX3
              go_wp2_with fail
              refine HR5.out.mono ?_
              rintro e v5 ⟨rfl, hB5⟩
              have HT5 := hid (HT4.out.low hB5).1
              have HKe := hid (HKd.out.trans (HT4.out.low hB5).2)
              have HX5 := hid (HTXL.out _ _ _ HX4.out hB5)
              have HR6 := hid (dp_names (HT4.out.low hB5).1.turn.dp)
              rw [FN2.out, ← HL.out, ← HNL.out] at HR6
              clear hB5 HR5 HT4 HKd HX4
              go_wp2_with fail
              refine HR6.out.mono ?_
              rintro e v6 ⟨az, cz, rfl, tz6, hB6⟩
              have HT6' := hid (HT5.out.low hB6).1
              have HKf := hid (HKe.out.trans (HT5.out.low hB6).2)
              have HX6 := hid (HTXL.out _ _ _ HX5.out hB6)
              have HR7 := hid (HNMS.out v6 _ _ tz6 (HTXL.out _ _ _ HX5.out hB6))
              clear tz6 hB6 HR6 HT5 HKe HX5
              go_wp2_with fail
              refine HR7.out.mono ?_
              rintro e v7 ⟨rfl, hB7⟩
              have HT7 := hid (HT6'.out.low hB7).1
              have HKg := hid (HKf.out.trans (HT6'.out.low hB7).2)
              have HX7 := hid (HTXL.out _ _ _ HX6.out hB7)
              have HR8 := hid (dp_used (HT6'.out.low hB7).1.swap.dp)
              rw [FU1.out] at HR8
              clear hB7 HR7 HT6' HKf HX6
              have fu2 : ¬ ((usedN s1 : Nat) : Int) < ((usedN sb2 : Nat) : Int) := by have := FU2.out; omega
              have FU3 : Hid (usedN s1 ≤ s1.quota) := hid HT7.out.q0
              obtain ⟨us, hus⟩ : ∃ us, us = usedN s1 := ⟨_, rfl⟩
              obtain ⟨ub, hub⟩ : ∃ ub, ub = usedN sb2 := ⟨_, rfl⟩
              have FUS : Hid (usedN s1 = us) := hid hus.symm
              have FUB : Hid (usedN sb2 = ub) := hid hub.symm
              rw [← hus] at HR8 FU3 fu2 ⊢
              rw [← hub] at fu2
              clear hus hub
              go_wp2_with fail
              refine HR8.out.mono ?_
              rintro e v8 ⟨rfl, hB8⟩
              have HT8 := hid (HT7.out.low hB8).1
              have HKh := hid (HKg.out.trans (HT7.out.low hB8).2)
              have HX8 := hid (HTXL.out _ _ _ HX7.out hB8)
              have HR9 := hid (dp_used (HT7.out.low hB8).1.turn.dp)
              rw [FUB.out] at HR9
              clear hB8 HR8 HT7 HKg HX7
              go_wp2_with fail
              refine HR9.out.mono ?_
              rintro e v9 ⟨rfl, hB9⟩
              have HT9 := hid (HT8.out.low hB9).1
              have HKi := hid (HKh.out.trans (HT8.out.low hB9).2)
              have HX9 := hid (HTXL.out _ _ _ HX8.out hB9)
              clear hB9 HR9 HT8 HKh HX8
              go_wp2_with fail
              have hdz : decide (us < ub) = false := decide_eq_false (by omega)
              rw [hdz]
              clear fu2 hdz
              have HLEN : Hid (∀ t ∈ L, ∃ n, ∃ P : List Bs, P.length = n ∧ n ≤ 65536 ∧ lenD s1 t = (n, 0) ∧ ∀ k (hk : k < n), ∃ p : Bs, p.length = 256 ∧ readDk s1 t (k : Int) = (p, 0)) := hid (fun t ht => by
                rw [HL.out] at ht
                obtain ⟨f, hf⟩ := names_has HOF.out ht
                obtain ⟨hm, _⟩ := find_mem hf
                refine ⟨(pagesOf s1 f).length, pagesOf s1 f, rfl, ?_, ?_, fun k hk => ⟨(pagesOf s1 f)[k], pages_ok HT9.out.dp.ok hm _ (List.getElem_mem hk), ?_⟩⟩
                · have h1 := used_file hm
                  have h2 := HT9.out.q0
                  have h3 := HT9.out.dp.ok.quota
                  omega
                · unfold lenD
                  rw [if_neg (by rw [HOF.out]; decide), hf]
                · unfold readDk
                  rw [if_neg (by rw [HOF.out]; decide), hf]
                  show (if (k : Int) < 0 ∨ ((pagesOf s1 f).length : Int) ≤ (k : Int) then _ else _) = _
                  rw [if_neg (by omega)]
                  simp [hk])
              have HTLN : Hid (∀ t ∈ L, t.length ≤ 140737488355328) := hid (fun t ht => by
                rw [HL.out] at ht
                obtain ⟨f, hf⟩ := names_has HOF.out ht
                obtain ⟨hm, hn⟩ := find_mem hf
                have := HT9.out.dp.ok.lens f hm
                rw [hn] at this
                unfold named at this
                simp at this
                omega)
              go_loopg [14, 15, 16, 17, 18, 19, 20, 21] nL (fun gg vi _x1 _x2 _x3 _x4 _x5 _x6 _x7 wr => ∃ i : Nat, gg = nL - i ∧ i ≤ nL ∧ vi = .int .i64 (i : Int) ∧ Below v9.heap.size v9 wr)
              case atStart => exact ⟨0, rfl, Nat.zero_le _, rfl, Below.refl _ _⟩
              case round =>
                obtain ⟨i, rfl, hi, rfl, hbel⟩ := hrel
                by_cases hil : i < nL
                · have hiL : i < L.length := by have := HNL.out; omega
                  obtain ⟨gx, cx', ex, _, hcx⟩ := (show Tx v9 (.slice ax nL cx) L from HX9.out).at' (by omega)
                  have hax : ax = some ⟨gx, 0, none⟩ := by cases ex; rfl
                  obtain ⟨t, ht⟩ : ∃ t, t = L[i]'hiL := ⟨_, rfl⟩
                  have htm : t ∈ L := by rw [ht]; exact List.getElem_mem hiL
                  obtain ⟨n, P, hPn, hn, hlen, hread⟩ := HLEN.out t htm
                  have hcell : ∀ W, Below v9.heap.size v9 W → W.cell? ⟨gx, i, none⟩ = some (St t) := fun W hW => by
                    have h1 := (hcx i hiL).1
                    rw [ht, ← h1]
                    exact World.cell?_of_block (hW.block gx (World.block_lt_of_cell? v9 ⟨gx, i, none⟩ h1))
                  have c1' := hcell wr hbel
                  have HCELL := hid hcell
                  have HTN := hid (HTLN.out t htm)
                  have HRD := hid hread
                  have HLE := hid (dp_len (HT9.out.low hbel).1.dp t (HTLN.out t htm))
                  rw [hlen] at HLE
                  have HN6 : Hid (n ≤ 65536) := hid hn
                  have hiw : IntKind.i64.wrap ((i : Int) + 1) = ((i + 1 : Nat) : Int) := by rw [IntKind.wrap_i64]; have := HLL.out; have := HNL.out; omega
                  have hi0 : (0 : Int) ≤ (i : Int) := Int.natCast_nonneg _
                  have hi1 : (i : Int) < (nL : Int) := by omega
                  have HIL := hid hil
                  have HBE := hid hbel
                  clear ex hcx ht htm hPn hn hlen hread hcell hi hil hiL hbel P
                  subst hax
                  go_wp2_with fail
                  refine HLE.out.mono ?_
                  rintro e wl ⟨rfl, hwl⟩
                  have hwl := hwl.symm
                  subst hwl
                  clear c1' HLE
                  have hz0 : ((0 : Nat) : Int) = 0 := rfl
                  rw [hz0]
                  clear hz0
                  go_wp2_with fail
                  obtain ⟨wi, hwi⟩ : ∃ wi, wi = wr := ⟨_, rfl⟩
                  subst hwi
                  go_loopg [17, 18, 19, 20, 21] n (fun gg vk _x4 _x5 _x6 _x7 wr => ∃ k : Nat, gg = n - k ∧ k ≤ n ∧ vk = .int .i64 (k : Int) ∧ Below v9.heap.size v9 wr)
                  case atStart => exact ⟨0, rfl, Nat.zero_le _, rfl, HBE.out⟩
                  case round =>
                    obtain ⟨k, rfl, hk, rfl, hbe2⟩ := hrel
                    by_cases hkl : k < n
                    · obtain ⟨p, hpl, hrd⟩ := HRD.out k hkl
                      have d1 := HCELL.out wr hbe2
                      have HT10 := (HT9.out.low hbe2).1
                      have HA1 : Hid (Calls Tryz.prog 21 #[.pointer (some ⟨w.heap.size, 0, none⟩), St t, .int .i64 (k : Int)] wr fun e w' => ∃ g, e = .returned (.tuple #[.slice (some ⟨g, 0, none⟩) 256 256, .int .i64 0]) ∧ Bo w' (.slice (some ⟨g, 0, none⟩) 256 256) p ∧ Below wr.heap.size wr w') := hid (by
                        refine (dp_read HT10.dp t HTN.out (k : Int) (by have := HN6.out; omega)).mono ?_
                        rw [hrd]
                        rintro e w' ⟨⟨v, rfl, hv⟩, hB⟩
                        obtain ⟨g, rfl, _⟩ := bw_range hv (by rw [hpl]; omega)
                        have hbo := hv.br.bo
                        rw [hpl] at hbo ⊢
                        exact ⟨g, rfl, hbo, hB⟩)
                      have HA2 : Hid (∀ W, Below wr.heap.size wr W → Calls Tryz.prog 21 #[.pointer (some ⟨da, 0, none⟩), St t, .int .i64 (k : Int)] W fun e w' => ∃ g, e = .returned (.tuple #[.slice (some ⟨g, 0, none⟩) 256 256, .int .i64 0]) ∧ Bo w' (.slice (some ⟨g, 0, none⟩) 256 256) p ∧ Below W.heap.size W w') := hid (fun W hW => by
                        refine (dp_read (HT10.low hW).1.swap.dp t HTN.out (k : Int) (by have := HN6.out; omega)).mono ?_
                        rw [FRD.out, hrd]
                        rintro e w' ⟨⟨v, rfl, hv⟩, hB⟩
                        obtain ⟨g, rfl, _⟩ := bw_range hv (by rw [hpl]; omega)
                        have hbo := hv.br.bo
                        rw [hpl] at hbo ⊢
                        exact ⟨g, rfl, hbo, hB⟩)
                      have hkw : IntKind.i64.wrap ((k : Int) + 1) = ((k + 1 : Nat) : Int) := by rw [IntKind.wrap_i64]; have := HN6.out; omega
                      have hk1 : (k : Int) < (n : Int) := by omega
                      have HKL2 := hid hkl
                      have HB2 := hid hbe2
                      clear hpl hrd HT10 hk hkl hbe2
                      go_wp2_with fail
                      refine HA1.out.mono ?_
                      rintro e y1 ⟨g1, rfl, b1, B1⟩
                      have d2 := HCELL.out y1 ⟨B1.os.trans HB2.out.os, B1.tape.trans HB2.out.tape, B1.output.trans HB2.out.output, Nat.le_trans HB2.out.size B1.size, fun z hz => (B1.block z (Nat.lt_of_lt_of_le hz HB2.out.size)).trans (HB2.out.block z hz)⟩
                      have HA3 := hid (HA2.out y1 B1)
                      have BB1 := hid b1
                      have HY1 := hid B1
                      clear b1 B1 HA1 HA2 d1
                      go_wp2_with fail
                      refine HA3.out.mono ?_
                      rintro e y2 ⟨g2, rfl, b2, B2⟩
                      have hcv1 := text_bo (BB1.out.low B2)
                      have hcv2 := text_bo b2
                      have HY2 : Hid (Below v9.heap.size v9 y2) := hid (by
                        have e1 : Below v9.heap.size v9 y1 := ⟨HY1.out.os.trans HB2.out.os, HY1.out.tape.trans HB2.out.tape, HY1.out.output.trans HB2.out.output, Nat.le_trans HB2.out.size HY1.out.size, fun z hz => (HY1.out.block z (Nat.lt_of_lt_of_le hz HB2.out.size)).trans (HB2.out.block z hz)⟩
                        exact ⟨B2.os.trans e1.os, B2.tape.trans e1.tape, B2.output.trans e1.output, Nat.le_trans e1.size B2.size, fun z hz => (B2.block z (Nat.lt_of_lt_of_le hz e1.size)).trans (e1.block z hz)⟩)
                      clear b2 B2 d2 HA3 BB1 HY1
                      go_wp2_with fail
                      go_roundg (n - (k + 1))
                      case measure => have := HKL2.out; omega
                      case rel => exact ⟨k + 1, rfl, HKL2.out, rfl, HY2.out⟩
                    · have hke : k = n := by omega
                      subst hke
                      have hkn : ¬ (k : Int) < (k : Int) := by omega
                      have HB2 := hid hbe2
                      clear hk hkl hbe2
                      go_wp2_with fail
                      go_roundg (nL - (i + 1))
                      case measure => have := HIL.out; omega
                      case rel => exact ⟨i + 1, rfl, HIL.out, rfl, HB2.out⟩
                · have hie : i = nL := by omega
                  subst hie
                  have hin : ¬ (i : Int) < (i : Int) := by omega
                  have HZ1 := hid (dp_used (HT9.out.low hbel).1.dp)
                  rw [FUS.out] at HZ1
                  have HKz := hid (HKi.out.trans (HT9.out.low hbel).2)
                  have hqq := HQV.out
                  obtain ⟨m1, hm1⟩ : ∃ m1 : Int, m1 = min qv 65536 := ⟨_, rfl⟩
                  obtain ⟨m2, hm2⟩ : ∃ m2 : Int, m2 = max m1 0 := ⟨_, rfl⟩
                  have hle : (us : Int) ≤ m2 := by
                    have h1 := FU3.out
                    rw [HQ2.out] at h1
                    have h2 : (newD qv).quota = (min (max qv 0) 65536).toNat := rfl
                    omega
                  have hm1' := hm1.symm
                  have hm2' := hm2.symm
                  clear hm1 hm2 hqq hbel hi hil
                  go_wp2_with fail
                  refine HZ1.out.mono ?_
                  rintro e wz ⟨rfl, hBz⟩
                  have HKy := hid (HBW.out _ _ HKz.out hBz)
                  clear hBz HZ1
                  have HKz2 : Hid (∀ w9, Below wz.heap.size wz w9 → Below w.heap.size w w9) := hid (fun w9 h9 => ⟨h9.os.trans HKy.out.os, h9.tape.trans HKy.out.tape, h9.output.trans HKy.out.output, Nat.le_trans HKy.out.size h9.size, fun z hz => (h9.block z (Nat.lt_of_lt_of_le hz HKy.out.size)).trans (HKy.out.block z hz)⟩)
                  go_wp2_with fail
                  all_goals
                    refine (HWK.out _).mono ?_
                    rintro e w9 ⟨rfl, hb9⟩
                    have HB9 := hid (HKz2.out w9 hb9)
                    clear hb9
                    go_wp2_with fail
                    go_ret
                    exact ⟨rfl, HB9.out⟩
            | some f =>
              have hc : ∀ k, (createD (failD s1 0 k) nmX).2 = failD s1 0 k := fun k => by
                rcases create_fails HOF.out k nmX (by decide) with h | h
                · rw [hfi] at h; cases h.2
                · exact h.1
              rw [show ([0, 32, 97, 32, 110, 97, 109, 101, 32, 116, 104, 97, 116, 32, 110, 111, 32, 111, 110, 101, 32, 104, 97, 115] : Bs) = nmX from rfl, hc, hc] at HT12
              have HQB := hid (dp_off HT12.out.swap.dp)
              rw [show (failD s1 0 18446744073709551615).off = false by
                unfold failD
                rw [if_neg (by rw [HOF.out]; decide)]
                exact HOF.out] at HQB
              have HHAS : Hid (∀ W, Kw K w W → Calls Tryz.prog 18 #[.slice a1 na c1] W fun e w' => e = .returned (.bool true) ∧ w' = W) := hid (fun W hW => by
                have hx : ∃ x ∈ l, x.name = nmX ∨ x.to = nmX := by
                  obtain ⟨h1, h2⟩ := find_mem hfi
                  have h3 := HO2.out f h1
                  rw [h2] at h3
                  obtain ⟨x, hx, h4⟩ := List.mem_flatMap.1 (show nmX ∈ l.flatMap fun x => [x.name, x.to] from h3)
                  simp only [List.mem_cons, List.mem_nil_iff, or_false] at h4
                  exact ⟨x, hx, h4.imp Eq.symm Eq.symm⟩
                have := has_any W a1 c1 l (HO.out.low (HKB.out W hW)) (by have := HNA.out; omega) hx
                rw [← HNA.out] at this
                exact this)
              have HHW := hid (HHAS.out w12 HK12.out)
              clear hc hfi hlt HT12 HNF HHAS
              go_wp2_with fail
              refine HQB.out.mono ?_
              rintro e wa ⟨rfl, hwa⟩
              have hwa := hwa.symm
              subst hwa
              clear HQB
              go_wp2_with fail
              refine HHW.out.mono ?_
              rintro e wb ⟨rfl, hwb⟩
              have hwb := hwb.symm
              subst hwb
              go_wp2_with fail
              refine (HWK.out _).mono ?_
              rintro e w9 ⟨rfl, hb9⟩
              have HB9 := hid hb9
              clear hb9
              go_wp2_with fail
              go_ret
              exact ⟨rfl, HBW.out _ _ HK12.out HB9.out⟩
          · have hlt1 : ¬ (nf : Int) < 256 := by omega
            have hc : ∀ k, (createD (failD s1 0 k) nmX).2 = failD s1 0 k := fun k => by
              rcases create_fails HOF.out k nmX (by decide) with h | h
              · have hsl := create_len HOF.out k nmX (by decide) (by have := HNF.out; omega)
                exact hsl
              · exact h.1
            rw [show ([0, 32, 97, 32, 110, 97, 109, 101, 32, 116, 104, 97, 116, 32, 110, 111, 32, 111, 110, 101, 32, 104, 97, 115] : Bs) = nmX from rfl, hc, hc] at HT12
            have hon : ∀ k, onD (failD s1 0 k) = failD s1 0 k := fun k => by
              unfold onD
              rw [if_pos (by unfold failD; rw [if_neg (by rw [HOF.out]; decide)]; exact HOF.out)]
            have hfd : ∀ k, failD s1 0 k = { s1 with set := true, inn := 0, keep := k } := fun k => by unfold failD; rw [if_neg (by rw [HOF.out]; decide)]; rfl
            obtain ⟨sa, hsa⟩ : ∃ sa, sa = failD s1 0 18446744073709551615 := ⟨_, rfl⟩
            obtain ⟨sb, hsb⟩ : ∃ sb, sb = failD s1 0 keep := ⟨_, rfl⟩
            rw [← hsa, ← hsb] at HT12
            have FN1 : Hid (namesD (onD sa) = namesD s1) := hid (by rw [hsa, hon, hfd]; rfl)
            have FN2 : Hid (namesD (onD sb) = namesD s1) := hid (by rw [hsb, hon, hfd]; rfl)
            have FU1 : Hid (usedN (onD sa) = usedN s1) := hid (by rw [hsa, hon, hfd]; rfl)
            have FU2 : Hid (usedN (onD sb) ≤ usedN s1) := hid (by rw [hsb, hon, hfd]; exact Nat.le_refl _)
            have FRD : Hid (∀ t p, readDk (onD sa) t p = readDk s1 t p) := hid (fun t p => by rw [hsa, hon, hfd]; rfl)
            have HTX := hid HT12.out
            have HKX := hid HK12.out
            clear hc hon hfd hsa hsb hlt HT12 HK12 HNF
            go_wp2_with fail
            have HR1 := hid (HTX.out.swap.call (s' := onD sa) (fun K' h => dp_on h))
            refine HR1.out.mono ?_
            rintro e v1 ⟨rfl, t1, k1⟩
            have HKa := hid (HKX.out.trans k1)
            have HR2 := hid (t1.swap.turn.call (s' := onD sb) (fun K' h => dp_on h))
            clear t1 k1 HR1 HTX HKX
            go_wp2_with fail
            refine HR2.out.mono ?_
            rintro e v2 ⟨rfl, t2, k2⟩
            have HKb := hid (HKa.out.trans k2)
            have HT2 : Hid (Tri K v2 w.heap.size da db s1 (onD sa) (onD sb)) := hid t2.turn
            clear t2 k2 HR2 HKa
            generalize onD sa = sa2 at *
            generalize onD sb = sb2 at *
            have HR3 := hid (dp_names HT2.out.dp)
            go_wp2_with fail
            refine HR3.out.mono ?_
            rintro e v3 ⟨ax, cx, rfl, tx3, hB3⟩
            have HT3 := hid (HT2.out.low hB3).1
            have HKc := hid (HKb.out.trans (HT2.out.low hB3).2)
            have HX3 := hid tx3
            have HR4 := hid (dp_names HT3.out.swap.dp)
            rw [FN1.out] at HR4
            clear tx3 hB3 HR3 HT2 HKb
            obtain ⟨L, hL⟩ : ∃ L, L = namesD s1 := ⟨_, rfl⟩
            rw [← hL] at HX3 HR4 ⊢
            have HL := hid hL
            have hLl : L.length ≤ 256 := by rw [hL, names_len HOF.out]; exact HT3.out.dp.ok.few
            have HLL := hid hLl
            have HNMS : Hid (∀ (W : World) (a b : Value), Tx W a L → Tx W b L → Calls Tryz.prog 19 #[a, b] W fun e w' => e = .returned (.bool true) ∧ Below W.heap.size W w') := hid (fun W a b h1 h2 => by
              have := nsame_any W a b L L h1 h2 (by omega)
              rw [decide_eq_true rfl] at this
              exact this)
            have HTXL : Hid (∀ (W W' : World) (v : Value), Tx W v L → Below W.heap.size W W' → Tx W' v L) := hid (fun W W' v h hB => ownsRow_same h (fun g hg => hB.block g (h.lt g hg).2))
            obtain ⟨nL, hnL⟩ : ∃ nL, nL = L.length := ⟨_, rfl⟩
            rw [← hnL] at HX3 HR4 ⊢
            have HNL := hid hnL
            clear hL hLl hnL
            go_wp2_with fail
            refine HR4.out.mono ?_
            rintro e v4 ⟨ay, cy, rfl, ty4, hB4⟩
            have HT4 := hid (HT3.out.low hB4).1
            have HKd := hid (HKc.out.trans (HT3.out.low hB4).2)
            have HX4 := hid (HTXL.out _ _ _ HX3.out hB4)
            have HR5 := hid (HNMS.out v4 _ _ ty4 (HTXL.out _ _ _ HX3.out hB4))
            clear ty4 hB4 HR4 HT3 HKc HX3
            go_wp2_with fail
            refine HR5.out.mono ?_
            rintro e v5 ⟨rfl, hB5⟩
            have HT5 := hid (HT4.out.low hB5).1
            have HKe := hid (HKd.out.trans (HT4.out.low hB5).2)
            have HX5 := hid (HTXL.out _ _ _ HX4.out hB5)
            have HR6 := hid (dp_names (HT4.out.low hB5).1.turn.dp)
            rw [FN2.out, ← HL.out, ← HNL.out] at HR6
            clear hB5 HR5 HT4 HKd HX4
            go_wp2_with fail
            refine HR6.out.mono ?_
            rintro e v6 ⟨az, cz, rfl, tz6, hB6⟩
            have HT6' := hid (HT5.out.low hB6).1
            have HKf := hid (HKe.out.trans (HT5.out.low hB6).2)
            have HX6 := hid (HTXL.out _ _ _ HX5.out hB6)
            have HR7 := hid (HNMS.out v6 _ _ tz6 (HTXL.out _ _ _ HX5.out hB6))
            clear tz6 hB6 HR6 HT5 HKe HX5
            go_wp2_with fail
            refine HR7.out.mono ?_
            rintro e v7 ⟨rfl, hB7⟩
            have HT7 := hid (HT6'.out.low hB7).1
            have HKg := hid (HKf.out.trans (HT6'.out.low hB7).2)
            have HX7 := hid (HTXL.out _ _ _ HX6.out hB7)
            have HR8 := hid (dp_used (HT6'.out.low hB7).1.swap.dp)
            rw [FU1.out] at HR8
            clear hB7 HR7 HT6' HKf HX6
            have fu2 : ¬ ((usedN s1 : Nat) : Int) < ((usedN sb2 : Nat) : Int) := by have := FU2.out; omega
            have FU3 : Hid (usedN s1 ≤ s1.quota) := hid HT7.out.q0
            obtain ⟨us, hus⟩ : ∃ us, us = usedN s1 := ⟨_, rfl⟩
            obtain ⟨ub, hub⟩ : ∃ ub, ub = usedN sb2 := ⟨_, rfl⟩
            have FUS : Hid (usedN s1 = us) := hid hus.symm
            have FUB : Hid (usedN sb2 = ub) := hid hub.symm
            rw [← hus] at HR8 FU3 fu2 ⊢
            rw [← hub] at fu2
            clear hus hub
            go_wp2_with fail
            refine HR8.out.mono ?_
            rintro e v8 ⟨rfl, hB8⟩
            have HT8 := hid (HT7.out.low hB8).1
            have HKh := hid (HKg.out.trans (HT7.out.low hB8).2)
            have HX8 := hid (HTXL.out _ _ _ HX7.out hB8)
            have HR9 := hid (dp_used (HT7.out.low hB8).1.turn.dp)
            rw [FUB.out] at HR9
            clear hB8 HR8 HT7 HKg HX7
            go_wp2_with fail
            refine HR9.out.mono ?_
            rintro e v9 ⟨rfl, hB9⟩
            have HT9 := hid (HT8.out.low hB9).1
            have HKi := hid (HKh.out.trans (HT8.out.low hB9).2)
            have HX9 := hid (HTXL.out _ _ _ HX8.out hB9)
            clear hB9 HR9 HT8 HKh HX8
            go_wp2_with fail
            have hdz : decide (us < ub) = false := decide_eq_false (by omega)
            rw [hdz]
            clear fu2 hdz
            have HLEN : Hid (∀ t ∈ L, ∃ n, ∃ P : List Bs, P.length = n ∧ n ≤ 65536 ∧ lenD s1 t = (n, 0) ∧ ∀ k (hk : k < n), ∃ p : Bs, p.length = 256 ∧ readDk s1 t (k : Int) = (p, 0)) := hid (fun t ht => by
              rw [HL.out] at ht
              obtain ⟨f, hf⟩ := names_has HOF.out ht
              obtain ⟨hm, _⟩ := find_mem hf
              refine ⟨(pagesOf s1 f).length, pagesOf s1 f, rfl, ?_, ?_, fun k hk => ⟨(pagesOf s1 f)[k], pages_ok HT9.out.dp.ok hm _ (List.getElem_mem hk), ?_⟩⟩
              · have h1 := used_file hm
                have h2 := HT9.out.q0
                have h3 := HT9.out.dp.ok.quota
                omega
              · unfold lenD
                rw [if_neg (by rw [HOF.out]; decide), hf]
              · unfold readDk
                rw [if_neg (by rw [HOF.out]; decide), hf]
                show (if (k : Int) < 0 ∨ ((pagesOf s1 f).length : Int) ≤ (k : Int) then _ else _) = _
                rw [if_neg (by omega)]
                simp [hk])
            have HTLN : Hid (∀ t ∈ L, t.length ≤ 140737488355328) := hid (fun t ht => by
              rw [HL.out] at ht
              obtain ⟨f, hf⟩ := names_has HOF.out ht
              obtain ⟨hm, hn⟩ := find_mem hf
              have := HT9.out.dp.ok.lens f hm
              rw [hn] at this
              unfold named at this
              simp at this
              omega)
            go_loopg [14, 15, 16, 17, 18, 19, 20, 21] nL (fun gg vi _x1 _x2 _x3 _x4 _x5 _x6 _x7 wr => ∃ i : Nat, gg = nL - i ∧ i ≤ nL ∧ vi = .int .i64 (i : Int) ∧ Below v9.heap.size v9 wr)
            case atStart => exact ⟨0, rfl, Nat.zero_le _, rfl, Below.refl _ _⟩
            case round =>
              obtain ⟨i, rfl, hi, rfl, hbel⟩ := hrel
              by_cases hil : i < nL
              · have hiL : i < L.length := by have := HNL.out; omega
                obtain ⟨gx, cx', ex, _, hcx⟩ := (show Tx v9 (.slice ax nL cx) L from HX9.out).at' (by omega)
                have hax : ax = some ⟨gx, 0, none⟩ := by cases ex; rfl
                obtain ⟨t, ht⟩ : ∃ t, t = L[i]'hiL := ⟨_, rfl⟩
                have htm : t ∈ L := by rw [ht]; exact List.getElem_mem hiL
                obtain ⟨n, P, hPn, hn, hlen, hread⟩ := HLEN.out t htm
                have hcell : ∀ W, Below v9.heap.size v9 W → W.cell? ⟨gx, i, none⟩ = some (St t) := fun W hW => by
                  have h1 := (hcx i hiL).1
                  rw [ht, ← h1]
                  exact World.cell?_of_block (hW.block gx (World.block_lt_of_cell? v9 ⟨gx, i, none⟩ h1))
                have c1' := hcell wr hbel
                have HCELL := hid hcell
                have HTN := hid (HTLN.out t htm)
                have HRD := hid hread
                have HLE := hid (dp_len (HT9.out.low hbel).1.dp t (HTLN.out t htm))
                rw [hlen] at HLE
                have HN6 : Hid (n ≤ 65536) := hid hn
                have hiw : IntKind.i64.wrap ((i : Int) + 1) = ((i + 1 : Nat) : Int) := by rw [IntKind.wrap_i64]; have := HLL.out; have := HNL.out; omega
                have hi0 : (0 : Int) ≤ (i : Int) := Int.natCast_nonneg _
                have hi1 : (i : Int) < (nL : Int) := by omega
                have HIL := hid hil
                have HBE := hid hbel
                clear ex hcx ht htm hPn hn hlen hread hcell hi hil hiL hbel P
                subst hax
                go_wp2_with fail
                refine HLE.out.mono ?_
                rintro e wl ⟨rfl, hwl⟩
                have hwl := hwl.symm
                subst hwl
                clear c1' HLE
                have hz0 : ((0 : Nat) : Int) = 0 := rfl
                rw [hz0]
                clear hz0
                go_wp2_with fail
                obtain ⟨wi, hwi⟩ : ∃ wi, wi = wr := ⟨_, rfl⟩
                subst hwi
                go_loopg [17, 18, 19, 20, 21] n (fun gg vk _x4 _x5 _x6 _x7 wr => ∃ k : Nat, gg = n - k ∧ k ≤ n ∧ vk = .int .i64 (k : Int) ∧ Below v9.heap.size v9 wr)
                case atStart => exact ⟨0, rfl, Nat.zero_le _, rfl, HBE.out⟩
                case round =>
                  obtain ⟨k, rfl, hk, rfl, hbe2⟩ := hrel
                  by_cases hkl : k < n
                  · obtain ⟨p, hpl, hrd⟩ := HRD.out k hkl
                    have d1 := HCELL.out wr hbe2
                    have HT10 := (HT9.out.low hbe2).1
                    have HA1 : Hid (Calls Tryz.prog 21 #[.pointer (some ⟨w.heap.size, 0, none⟩), St t, .int .i64 (k : Int)] wr fun e w' => ∃ g, e = .returned (.tuple #[.slice (some ⟨g, 0, none⟩) 256 256, .int .i64 0]) ∧ Bo w' (.slice (some ⟨g, 0, none⟩) 256 256) p ∧ Below wr.heap.size wr w') := hid (by
                      refine (dp_read HT10.dp t HTN.out (k : Int) (by have := HN6.out; omega)).mono ?_
                      rw [hrd]
                      rintro e w' ⟨⟨v, rfl, hv⟩, hB⟩
                      obtain ⟨g, rfl, _⟩ := bw_range hv (by rw [hpl]; omega)
                      have hbo := hv.br.bo
                      rw [hpl] at hbo ⊢
                      exact ⟨g, rfl, hbo, hB⟩)
                    have HA2 : Hid (∀ W, Below wr.heap.size wr W → Calls Tryz.prog 21 #[.pointer (some ⟨da, 0, none⟩), St t, .int .i64 (k : Int)] W fun e w' => ∃ g, e = .returned (.tuple #[.slice (some ⟨g, 0, none⟩) 256 256, .int .i64 0]) ∧ Bo w' (.slice (some ⟨g, 0, none⟩) 256 256) p ∧ Below W.heap.size W w') := hid (fun W hW => by
                      refine (dp_read (HT10.low hW).1.swap.dp t HTN.out (k : Int) (by have := HN6.out; omega)).mono ?_
                      rw [FRD.out, hrd]
                      rintro e w' ⟨⟨v, rfl, hv⟩, hB⟩
                      obtain ⟨g, rfl, _⟩ := bw_range hv (by rw [hpl]; omega)
                      have hbo := hv.br.bo
                      rw [hpl] at hbo ⊢
                      exact ⟨g, rfl, hbo, hB⟩)
                    have hkw : IntKind.i64.wrap ((k : Int) + 1) = ((k + 1 : Nat) : Int) := by rw [IntKind.wrap_i64]; have := HN6.out; omega
                    have hk1 : (k : Int) < (n : Int) := by omega
                    have HKL2 := hid hkl
                    have HB2 := hid hbe2
                    clear hpl hrd HT10 hk hkl hbe2
                    go_wp2_with fail
                    refine HA1.out.mono ?_
                    rintro e y1 ⟨g1, rfl, b1, B1⟩
                    have d2 := HCELL.out y1 ⟨B1.os.trans HB2.out.os, B1.tape.trans HB2.out.tape, B1.output.trans HB2.out.output, Nat.le_trans HB2.out.size B1.size, fun z hz => (B1.block z (Nat.lt_of_lt_of_le hz HB2.out.size)).trans (HB2.out.block z hz)⟩
                    have HA3 := hid (HA2.out y1 B1)
                    have BB1 := hid b1
                    have HY1 := hid B1
                    clear b1 B1 HA1 HA2 d1
                    go_wp2_with fail
                    refine HA3.out.mono ?_
                    rintro e y2 ⟨g2, rfl, b2, B2⟩
                    have hcv1 := text_bo (BB1.out.low B2)
                    have hcv2 := text_bo b2
                    have HY2 : Hid (Below v9.heap.size v9 y2) := hid (by
                      have e1 : Below v9.heap.size v9 y1 := ⟨HY1.out.os.trans HB2.out.os, HY1.out.tape.trans HB2.out.tape, HY1.out.output.trans HB2.out.output, Nat.le_trans HB2.out.size HY1.out.size, fun z hz => (HY1.out.block z (Nat.lt_of_lt_of_le hz HB2.out.size)).trans (HB2.out.block z hz)⟩
                      exact ⟨B2.os.trans e1.os, B2.tape.trans e1.tape, B2.output.trans e1.output, Nat.le_trans e1.size B2.size, fun z hz => (B2.block z (Nat.lt_of_lt_of_le hz e1.size)).trans (e1.block z hz)⟩)
                    clear b2 B2 d2 HA3 BB1 HY1
                    go_wp2_with fail
                    go_roundg (n - (k + 1))
                    case measure => have := HKL2.out; omega
                    case rel => exact ⟨k + 1, rfl, HKL2.out, rfl, HY2.out⟩
                  · have hke : k = n := by omega
                    subst hke
                    have hkn : ¬ (k : Int) < (k : Int) := by omega
                    have HB2 := hid hbe2
                    clear hk hkl hbe2
                    go_wp2_with fail
                    go_roundg (nL - (i + 1))
                    case measure => have := HIL.out; omega
                    case rel => exact ⟨i + 1, rfl, HIL.out, rfl, HB2.out⟩
              · have hie : i = nL := by omega
                subst hie
                have hin : ¬ (i : Int) < (i : Int) := by omega
                have HZ1 := hid (dp_used (HT9.out.low hbel).1.dp)
                rw [FUS.out] at HZ1
                have HKz := hid (HKi.out.trans (HT9.out.low hbel).2)
                have hqq := HQV.out
                obtain ⟨m1, hm1⟩ : ∃ m1 : Int, m1 = min qv 65536 := ⟨_, rfl⟩
                obtain ⟨m2, hm2⟩ : ∃ m2 : Int, m2 = max m1 0 := ⟨_, rfl⟩
                have hle : (us : Int) ≤ m2 := by
                  have h1 := FU3.out
                  rw [HQ2.out] at h1
                  have h2 : (newD qv).quota = (min (max qv 0) 65536).toNat := rfl
                  omega
                have hm1' := hm1.symm
                have hm2' := hm2.symm
                clear hm1 hm2 hqq hbel hi hil
                go_wp2_with fail
                refine HZ1.out.mono ?_
                rintro e wz ⟨rfl, hBz⟩
                have HKy := hid (HBW.out _ _ HKz.out hBz)
                clear hBz HZ1
                have HKz2 : Hid (∀ w9, Below wz.heap.size wz w9 → Below w.heap.size w w9) := hid (fun w9 h9 => ⟨h9.os.trans HKy.out.os, h9.tape.trans HKy.out.tape, h9.output.trans HKy.out.output, Nat.le_trans HKy.out.size h9.size, fun z hz => (h9.block z (Nat.lt_of_lt_of_le hz HKy.out.size)).trans (HKy.out.block z hz)⟩)
                go_wp2_with fail
                all_goals
                  refine (HWK.out _).mono ?_
                  rintro e w9 ⟨rfl, hb9⟩
                  have HB9 := hid (HKz2.out w9 hb9)
                  clear hb9
                  go_wp2_with fail
                  go_ret
                  exact ⟨rfl, HB9.out⟩
end Go.Proofs.YtojnembakhhgiaaGreat
