/- What following notes, as a relation; what stays true of the notes meanwhile. -/
import Derived.Test.YtfnnhekjeobicaaGreatDoorConcern
namespace Go.Proofs.YtfnnhekjeobicaaGreatDoor

/-- the key of a note is that of its box -/
def KeyOK (N : NM) : Prop := ∀ t, (nget N t).key ≠ [] → t.head? = some 66 ∧ ∃ m, Tm.kidsOf 63 t = [(nget N t).key, m]
theorem nget_put (N : NM) (t : Bs) (n : Note) (s : Bs) : nget (nput N t n) s = if s = t then n else nget N s := by
  unfold nget nput; by_cases h : s = t <;> simp [h]
theorem KeyOK.put {N : NM} (h : KeyOK N) {t : Bs} {n : Note} (hn : n.key ≠ [] → t.head? = some 66 ∧ ∃ m, Tm.kidsOf 63 t = [n.key, m]) : KeyOK (nput N t n) := by
  intro s hs
  rw [nget_put] at hs ⊢
  by_cases e : s = t
  · subst e; simp only [if_pos] at hs ⊢; exact hn hs
  · rw [if_neg e] at hs ⊢; exact h s hs
theorem takeKeyF_key {N : NM} {l : List Bs} (h : KeyOK N) (t : Bs) : KeyOK (takeKeyF (N, l) t).1 := by
  unfold takeKeyF
  split
  · exact h
  · exact h.put (fun e => absurd rfl e)
theorem takeF_key {U : List Bs} (hU : Uni U) : ∀ (n : Nat) (N : NM) (l : List Bs) (t : Bs), t ∈ U → KeyOK N → KeyOK (takeF n (N, l) t).1
  | 0, N, l, t, _, h => h
  | n + 1, N, l, t, ht, h => by
    have hsame : KeyOK (nput N t ⟨(nget N t).heard, true, (nget N t).key⟩) := h.put (fun e => h t e)
    rw [takeF]
    split
    · exact h
    · split
      · rename_i hh
        have key : ∀ (ks : List Bs) (s : NM × List Bs), (∀ k ∈ ks, k ∈ U) → KeyOK s.1 → KeyOK (ks.foldl (takeF n) s).1 := by
          intro ks
          induction ks with
          | nil => intro s _ hs; exact hs
          | cons k ks ih => intro s hk hs; exact ih _ (fun x hx => hk x (by simp [hx])) (takeF_key hU n s.1 s.2 k (hk k (by simp)) hs)
        exact key _ _ (hU.tup t ht hh) hsame
      · split
        · exact takeKeyF_key hsame t
        · split
          · rename_i hh
            refine h.put (fun _ => ⟨hh, ?_⟩)
            match t, hh with
            | c :: l0, hh =>
              simp at hh
              subst hh
              obtain ⟨x, y, hxy⟩ := Tm.kids_pair (hU.right _ ht) (by decide) (by decide) (by decide) (by decide) (by decide)
              exact ⟨y, by rw [hxy]; rfl⟩
          · exact hsame

/-- how much can still be noted -/
def nu (U : List Bs) (N : NM) : Nat := (U.filter (fun t => (N t).isNone)).length + (U.filter (fun t => !(nget N t).held)).length
theorem filter_le {U : List Bs} {p q : Bs → Bool} (h : ∀ x, q x = true → p x = true) : (U.filter q).length ≤ (U.filter p).length := by
  induction U with
  | nil => simp
  | cons a U ih =>
    rw [List.filter_cons, List.filter_cons]
    cases hq : q a
    · cases hp : p a <;> simp <;> omega
    · rw [h a hq]; simp; omega
theorem filter_lt {U : List Bs} {p q : Bs → Bool} (h : ∀ x, q x = true → p x = true) {t : Bs} (ht : t ∈ U) (hp : p t = true) (hq : q t = false) : (U.filter q).length + 1 ≤ (U.filter p).length := by
  induction U with
  | nil => simp at ht
  | cons a U ih =>
    rw [List.filter_cons, List.filter_cons]
    rcases List.mem_cons.1 ht with e | hm
    · subst e
      rw [hp, hq]
      have := filter_le (U := U) h
      simp; omega
    · have := ih hm
      cases hqa : q a
      · cases hpa : p a <;> simp <;> omega
      · rw [h a hqa]; simp; omega
theorem nu_put {U : List Bs} {N : NM} {t : Bs} {n : Note} (hh : (nget N t).held = true → n.held = true) : nu U (nput N t n) ≤ nu U N := by
  unfold nu
  have h1 := filter_le (U := U) (p := fun t => (N t).isNone) (q := fun s => (nput N t n s).isNone) (fun s hs => by
    unfold nput at hs; by_cases e : s = t <;> simp [e] at hs ⊢; exact hs)
  have h2 := filter_le (U := U) (p := fun t => !(nget N t).held) (q := fun s => !(nget (nput N t n) s).held) (fun s hs => by
    simp only [nget_put] at hs
    by_cases e : s = t
    · subst e; simp at hs ⊢; cases hq : (nget N s).held with | false => rfl | true => rw [hh hq] at hs; cases hs
    · simp [e] at hs ⊢; exact hs)
  exact Nat.add_le_add h1 h2
theorem nu_held {U : List Bs} {N : NM} {t : Bs} {n : Note} (ht : t ∈ U) (h0 : (nget N t).held = false) (hn : n.held = true) : nu U (nput N t n) + 1 ≤ nu U N := by
  unfold nu
  have h1 := filter_le (U := U) (p := fun t => (N t).isNone) (q := fun s => (nput N t n s).isNone) (fun s hs => by
    unfold nput at hs; by_cases e : s = t <;> simp [e] at hs ⊢; exact hs)
  have h2 := filter_lt (U := U) (p := fun t => !(nget N t).held) (q := fun s => !(nget (nput N t n) s).held) (fun s hs => by
    simp only [nget_put] at hs
    by_cases e : s = t
    · subst e; simp [h0]
    · simp [e] at hs ⊢; exact hs) ht (by simp [h0]) (by simp [nget_put, hn])
  have h3 := Nat.add_le_add h1 h2
  rw [← Nat.add_assoc] at h3
  exact h3
theorem nu_noted {U : List Bs} {N : NM} {t : Bs} {n : Note} (ht : t ∈ U) (h0 : (N t).isSome = false) (_hn : n.held = false) : nu U (nput N t n) + 1 ≤ nu U N := by
  unfold nu
  have hN : N t = none := by cases h : N t with | none => rfl | some x => rw [h] at h0; cases h0
  have h1 := filter_lt (U := U) (p := fun t => (N t).isNone) (q := fun s => (nput N t n s).isNone) (fun s hs => by
    unfold nput at hs; by_cases e : s = t <;> simp [e] at hs ⊢; exact hs) ht (by simp [hN]) (by simp [nput])
  have h2 := filter_le (U := U) (p := fun t => !(nget N t).held) (q := fun s => !(nget (nput N t n) s).held) (fun s hs => by
    simp only [nget_put] at hs
    by_cases e : s = t
    · subst e; simp [nget, hN, nz]
    · simp [e] at hs ⊢; exact hs)
  have h3 := Nat.add_le_add h1 h2
  rw [Nat.add_right_comm] at h3
  exact h3
theorem nu_le (U : List Bs) (N : NM) : nu U N ≤ 2 * U.length := by
  unfold nu
  have h1 := List.length_filter_le (fun t => (N t).isNone) U
  have h2 := List.length_filter_le (fun t => !(nget N t).held) U
  omega
theorem takeKeyF_nu {U : List Bs} (hU : Uni U) {N : NM} {l : List Bs} {t : Bs} (ht : t ∈ U) (hh : t.head? = some 86 ∨ t.head? = some 75) : (takeKeyF (N, l) t).2.length + nu U (takeKeyF (N, l) t).1 ≤ l.length + nu U N := by
  unfold takeKeyF
  split
  · simp
  · rename_i h
    have h2 : (pubRes t).2 = 0 := Classical.byContradiction (fun e => h (Or.inr e))
    have h3 : (N (pubRes t).1).isSome = false := by cases hq : (N (pubRes t).1).isSome with | false => rfl | true => exact absurd (Or.inl hq) h
    have := nu_noted (n := nz) (hU.key t ht hh h2) h3 rfl
    simp; omega
theorem takeF_nu {U : List Bs} (hU : Uni U) : ∀ (n : Nat) (N : NM) (l : List Bs) (t : Bs), t ∈ U → (takeF n (N, l) t).2.length + nu U (takeF n (N, l) t).1 ≤ l.length + nu U N
  | 0, N, l, t, _ => by simp [takeF]
  | n + 1, N, l, t, ht => by
    rw [takeF]
    split
    · simp
    · rename_i hn
      have h0 : (nget N t).held = false := by cases h : (nget N t).held with | false => rfl | true => exact absurd h hn
      have h1 := fun k => nu_held (n := ⟨(nget N t).heard, true, k⟩) ht h0 rfl
      split
      · rename_i hh
        have key : ∀ (ks : List Bs) (s : NM × List Bs), (∀ k ∈ ks, k ∈ U) → (ks.foldl (takeF n) s).2.length + nu U (ks.foldl (takeF n) s).1 ≤ s.2.length + nu U s.1 := by
          intro ks
          induction ks with
          | nil => intro s _; exact Nat.le_refl _
          | cons k ks ih =>
            intro s hk
            exact Nat.le_trans (ih _ (fun x hx => hk x (by simp [hx]))) (takeF_nu hU n s.1 s.2 k (hk k (by simp)))
        refine Nat.le_trans (key _ _ (hU.tup t ht hh)) ?_
        have := h1 (nget N t).key
        simp; omega
      · split
        · rename_i hh
          refine Nat.le_trans (takeKeyF_nu hU ht hh) ?_
          have := h1 (nget N t).key
          simp; omega
        · split
          · have := h1 ((Tm.kidsOf 63 t).headD []); show (l ++ [t]).length + nu U (nput N t ⟨(nget N t).heard, true, (Tm.kidsOf 63 t).headD []⟩) ≤ _; rw [List.length_append, List.length_singleton]; omega
          · have := h1 (nget N t).key; simp; omega

/-- one box of a pass -/
def passStep (news : List Bs) (s : (NM × List Bs) × List Bs) (box : Bs) : (NM × List Bs) × List Bs :=
  if concernF news box && mkF s.1.1 (nget s.1.1 box).key then (openF s.1 box, s.2) else (s.1, s.2 ++ [box])
/-- what following comes to -/
inductive Follow : NM → List Bs → List Bs → NM → Prop
  | done (N : NM) (shut : List Bs) : Follow N [] shut N
  | step {N : NM} {news shut : List Bs} {M : NM} : news ≠ [] → Follow ((shut ++ boxesF N news).foldl (passStep news) ((N, []), [])).1.1 ((shut ++ boxesF N news).foldl (passStep news) ((N, []), [])).1.2 ((shut ++ boxesF N news).foldl (passStep news) ((N, []), [])).2 M → Follow N news shut M

/-- what holds all the way -/
structure Ok (U : List Bs) (N : NM) : Prop where
  dom : Dom N U
  key : KeyOK N
theorem mkF_nil {U : List Bs} (hU : Uni U) {N : NM} (h : Dom N U) : mkF N [] = false := by
  have hn : (N []).isSome = false := by
    cases hq : (N []).isSome with
    | false => rfl
    | true => exact absurd (by decide) (hU.right [] (h [] hq))
  unfold mkF
  rw [makesF, hn]
  simp only [Bool.false_or]
  rw [show Tm.deep [] = 0 by decide]
  rfl
/-- a box that is opened -/
theorem box_of {U : List Bs} (hU : Uni U) {N : NM} (h : Ok U N) {box : Bs} (hm : mkF N (nget N box).key = true) : (nget N box).key ≠ [] ∧ box.head? = some 66 ∧ ∃ m, Tm.kidsOf 63 box = [(nget N box).key, m] := by
  have hk : (nget N box).key ≠ [] := fun e => by rw [e, mkF_nil hU h.dom] at hm; cases hm
  exact ⟨hk, h.key box hk⟩
theorem openF_ok {U : List Bs} (hU : Uni U) {N : NM} {l : List Bs} (h : Ok U N) {box : Bs} (hb : box ∈ U) (hm : mkF N (nget N box).key = true) : Ok U (openF (N, l) box).1 ∧ (openF (N, l) box).2.length + nu U (openF (N, l) box).1 ≤ l.length + nu U N := by
  obtain ⟨hk, h66, m, hks⟩ := box_of hU h hm
  have hub : unboxRes (nget N box).key box = (m, true) := by unfold unboxRes; rw [if_pos ⟨hU.right box hb, h66⟩, hks]; simp
  have hmU := hU.box box hb h66 _ m hks
  unfold openF
  simp only [hub]
  have h1 : Ok U (nput N box ⟨(nget N box).heard, (nget N box).held, []⟩) := ⟨h.dom.put hb _, h.key.put (fun e => absurd rfl e)⟩
  refine ⟨⟨(take_bound hU 64 _ l m h1.dom hmU).1, takeF_key hU 64 _ l m hmU h1.key⟩, ?_⟩
  have h2 := takeF_nu hU 64 (nput N box ⟨(nget N box).heard, (nget N box).held, []⟩) l m hmU
  have h3 := nu_put (U := U) (N := N) (t := box) (n := ⟨(nget N box).heard, (nget N box).held, []⟩) (fun e => e)
  omega
end Go.Proofs.YtfnnhekjeobicaaGreatDoor
