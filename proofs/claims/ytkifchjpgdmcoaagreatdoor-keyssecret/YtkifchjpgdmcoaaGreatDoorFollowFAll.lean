import Derived.Test.YtkifchjpgdmcoaaGreatDoorBoxesAll
import Derived.Test.YtkifchjpgdmcoaaGreatDoorCards
import Derived.Test.YtkifchjpgdmcoaaGreatDoorTie
import Derived.Test.YtkifchjpgdmcoaaGreatDoorKyD
import Derived.ProofKit
import Derived.LaidMore
import Derived.OpenShut
import Derived.SizedLaws
import Derived.Stop.Joined
import Derived.Stop.LaidErr
import Derived.Lib.LaidTab
import Derived.Deep.Slices
import Derived.HandedShaped
import Derived.Shelf.Vars
/- What following notes, as a relation; what stays true of the notes meanwhile. -/
namespace Go.Proofs.YtkifchjpgdmcoaaGreatDoor

/-- the key of a note is that of its box -/
def KeyOK (N : NM) : Prop := ∀ t, (nget N t).key ≠ [] → t.head? = some 66 ∧ ∃ m, Tm.kidsOf 63 t = [(nget N t).key, m]
theorem nget_put (N : NM) (t : Bs) (n : Note) (s : Bs) : nget (nput N t n) s = if s = t then n else nget N s := by
  unfold nget nput; by_cases h : s = t <;> simp [h]
theorem KeyOK.put {N : NM} (h : KeyOK N) {t : Bs} {n : Note} (hn : n.key ≠ [] → t.head? = some 66 ∧ ∃ m, Tm.kidsOf 63 t = [n.key, m]) : KeyOK (nput N t n) := by
  intro s hs
  rw [nget_put] at hs ⊢
  by_cases e : s = t
  · subst e; simp only [if_pos] at hs ⊢; exact hn hs
  · rw [if_neg e] at hs ⊢; exact h s hs
theorem takeKeyF_key {N : NM} {l : List Bs} (h : KeyOK N) (t : Bs) : KeyOK (takeKeyF (N, l) t).1 := by
  unfold takeKeyF
  split
  · exact h
  · exact h.put (fun e => absurd rfl e)
theorem takeF_key {U : List Bs} (hU : Uni U) : ∀ (n : Nat) (N : NM) (l : List Bs) (t : Bs), t ∈ U → KeyOK N → KeyOK (takeF n (N, l) t).1
  | 0, N, l, t, _, h => h
  | n + 1, N, l, t, ht, h => by
    have hsame : KeyOK (nput N t ⟨(nget N t).heard, true, (nget N t).key⟩) := h.put (fun e => h t e)
    rw [takeF]
    split
    · exact h
    · split
      · rename_i hh
        have key : ∀ (ks : List Bs) (s : NM × List Bs), (∀ k ∈ ks, k ∈ U) → KeyOK s.1 → KeyOK (ks.foldl (takeF n) s).1 := by
          intro ks
          induction ks with
          | nil => intro s _ hs; exact hs
          | cons k ks ih => intro s hk hs; exact ih _ (fun x hx => hk x (by simp [hx])) (takeF_key hU n s.1 s.2 k (hk k (by simp)) hs)
        exact key _ _ (hU.tup t ht hh) hsame
      · split
        · exact takeKeyF_key hsame t
        · split
          · rename_i hh
            refine h.put (fun _ => ⟨hh, ?_⟩)
            match t, hh with
            | c :: l0, hh =>
              simp at hh
              subst hh
              obtain ⟨x, y, hxy⟩ := Tm.kids_pair (hU.right _ ht) (by decide) (by decide) (by decide) (by decide) (by decide)
              exact ⟨y, by rw [hxy]; rfl⟩
          · exact hsame

/-- how much can still be noted -/
def nu (U : List Bs) (N : NM) : Nat := (U.filter (fun t => (N t).isNone)).length + (U.filter (fun t => !(nget N t).held)).length
theorem filter_le {U : List Bs} {p q : Bs → Bool} (h : ∀ x, q x = true → p x = true) : (U.filter q).length ≤ (U.filter p).length := by
  induction U with
  | nil => simp
  | cons a U ih =>
    rw [List.filter_cons, List.filter_cons]
    cases hq : q a
    · cases hp : p a <;> simp <;> omega
    · rw [h a hq]; simp; omega
theorem filter_lt {U : List Bs} {p q : Bs → Bool} (h : ∀ x, q x = true → p x = true) {t : Bs} (ht : t ∈ U) (hp : p t = true) (hq : q t = false) : (U.filter q).length + 1 ≤ (U.filter p).length := by
  induction U with
  | nil => simp at ht
  | cons a U ih =>
    rw [List.filter_cons, List.filter_cons]
    rcases List.mem_cons.1 ht with e | hm
    · subst e
      rw [hp, hq]
      have := filter_le (U := U) h
      simp; omega
    · have := ih hm
      cases hqa : q a
      · cases hpa : p a <;> simp <;> omega
      · rw [h a hqa]; simp; omega
theorem nu_put {U : List Bs} {N : NM} {t : Bs} {n : Note} (hh : (nget N t).held = true → n.held = true) : nu U (nput N t n) ≤ nu U N := by
  unfold nu
  have h1 := filter_le (U := U) (p := fun t => (N t).isNone) (q := fun s => (nput N t n s).isNone) (fun s hs => by
    unfold nput at hs; by_cases e : s = t <;> simp [e] at hs ⊢; exact hs)
  have h2 := filter_le (U := U) (p := fun t => !(nget N t).held) (q := fun s => !(nget (nput N t n) s).held) (fun s hs => by
    simp only [nget_put] at hs
    by_cases e : s = t
    · subst e; simp at hs ⊢; cases hq : (nget N s).held with | false => rfl | true => rw [hh hq] at hs; cases hs
    · simp [e] at hs ⊢; exact hs)
  exact Nat.add_le_add h1 h2
theorem nu_held {U : List Bs} {N : NM} {t : Bs} {n : Note} (ht : t ∈ U) (h0 : (nget N t).held = false) (hn : n.held = true) : nu U (nput N t n) + 1 ≤ nu U N := by
  unfold nu
  have h1 := filter_le (U := U) (p := fun t => (N t).isNone) (q := fun s => (nput N t n s).isNone) (fun s hs => by
    unfold nput at hs; by_cases e : s = t <;> simp [e] at hs ⊢; exact hs)
  have h2 := filter_lt (U := U) (p := fun t => !(nget N t).held) (q := fun s => !(nget (nput N t n) s).held) (fun s hs => by
    simp only [nget_put] at hs
    by_cases e : s = t
    · subst e; simp [h0]
    · simp [e] at hs ⊢; exact hs) ht (by simp [h0]) (by simp [nget_put, hn])
  have h3 := Nat.add_le_add h1 h2
  rw [← Nat.add_assoc] at h3
  exact h3
theorem nu_noted {U : List Bs} {N : NM} {t : Bs} {n : Note} (ht : t ∈ U) (h0 : (N t).isSome = false) (_hn : n.held = false) : nu U (nput N t n) + 1 ≤ nu U N := by
  unfold nu
  have hN : N t = none := by cases h : N t with | none => rfl | some x => rw [h] at h0; cases h0
  have h1 := filter_lt (U := U) (p := fun t => (N t).isNone) (q := fun s => (nput N t n s).isNone) (fun s hs => by
    unfold nput at hs; by_cases e : s = t <;> simp [e] at hs ⊢; exact hs) ht (by simp [hN]) (by simp [nput])
  have h2 := filter_le (U := U) (p := fun t => !(nget N t).held) (q := fun s => !(nget (nput N t n) s).held) (fun s hs => by
    simp only [nget_put] at hs
    by_cases e : s = t
    · subst e; simp [nget, hN, nz]
    · simp [e] at hs ⊢; exact hs)
  have h3 := Nat.add_le_add h1 h2
  rw [Nat.add_right_comm] at h3
  exact h3
theorem nu_le (U : List Bs) (N : NM) : nu U N ≤ 2 * U.length := by
  unfold nu
  have h1 := List.length_filter_le (fun t => (N t).isNone) U
  have h2 := List.length_filter_le (fun t => !(nget N t).held) U
  omega
theorem takeKeyF_nu {U : List Bs} (hU : Uni U) {N : NM} {l : List Bs} {t : Bs} (ht : t ∈ U) (hh : t.head? = some 86 ∨ t.head? = some 75) : (takeKeyF (N, l) t).2.length + nu U (takeKeyF (N, l) t).1 ≤ l.length + nu U N := by
  unfold takeKeyF
  split
  · simp
  · rename_i h
    have h2 : (pubRes t).2 = 0 := Classical.byContradiction (fun e => h (Or.inr e))
    have h3 : (N (pubRes t).1).isSome = false := by cases hq : (N (pubRes t).1).isSome with | false => rfl | true => exact absurd (Or.inl hq) h
    have := nu_noted (n := nz) (hU.key t ht hh h2) h3 rfl
    simp; omega
theorem takeF_nu {U : List Bs} (hU : Uni U) : ∀ (n : Nat) (N : NM) (l : List Bs) (t : Bs), t ∈ U → (takeF n (N, l) t).2.length + nu U (takeF n (N, l) t).1 ≤ l.length + nu U N
  | 0, N, l, t, _ => by simp [takeF]
  | n + 1, N, l, t, ht => by
    rw [takeF]
    split
    · simp
    · rename_i hn
      have h0 : (nget N t).held = false := by cases h : (nget N t).held with | false => rfl | true => exact absurd h hn
      have h1 := fun k => nu_held (n := ⟨(nget N t).heard, true, k⟩) ht h0 rfl
      split
      · rename_i hh
        have key : ∀ (ks : List Bs) (s : NM × List Bs), (∀ k ∈ ks, k ∈ U) → (ks.foldl (takeF n) s).2.length + nu U (ks.foldl (takeF n) s).1 ≤ s.2.length + nu U s.1 := by
          intro ks
          induction ks with
          | nil => intro s _; exact Nat.le_refl _
          | cons k ks ih =>
            intro s hk
            exact Nat.le_trans (ih _ (fun x hx => hk x (by simp [hx]))) (takeF_nu hU n s.1 s.2 k (hk k (by simp)))
        refine Nat.le_trans (key _ _ (hU.tup t ht hh)) ?_
        have := h1 (nget N t).key
        simp; omega
      · split
        · rename_i hh
          refine Nat.le_trans (takeKeyF_nu hU ht hh) ?_
          have := h1 (nget N t).key
          simp; omega
        · split
          · have := h1 ((Tm.kidsOf 63 t).headD []); show (l ++ [t]).length + nu U (nput N t ⟨(nget N t).heard, true, (Tm.kidsOf 63 t).headD []⟩) ≤ _; rw [List.length_append, List.length_singleton]; omega
          · have := h1 (nget N t).key; simp; omega

/-- one box of a pass -/
def passStep (news : List Bs) (s : (NM × List Bs) × List Bs) (box : Bs) : (NM × List Bs) × List Bs :=
  if concernF news box && mkF s.1.1 (nget s.1.1 box).key then (openF s.1 box, s.2) else (s.1, s.2 ++ [box])
/-- what following comes to -/
inductive Follow : NM → List Bs → List Bs → NM → Prop
  | done (N : NM) (shut : List Bs) : Follow N [] shut N
  | step {N : NM} {news shut : List Bs} {M : NM} : news ≠ [] → Follow ((shut ++ boxesF N news).foldl (passStep news) ((N, []), [])).1.1 ((shut ++ boxesF N news).foldl (passStep news) ((N, []), [])).1.2 ((shut ++ boxesF N news).foldl (passStep news) ((N, []), [])).2 M → Follow N news shut M

/-- what holds all the way -/
structure Ok (U : List Bs) (N : NM) : Prop where
  dom : Dom N U
  key : KeyOK N
theorem mkF_nil {U : List Bs} (hU : Uni U) {N : NM} (h : Dom N U) : mkF N [] = false := by
  have hn : (N []).isSome = false := by
    cases hq : (N []).isSome with
    | false => rfl
    | true => exact absurd (by decide) (hU.right [] (h [] hq))
  unfold mkF
  rw [makesF, hn]
  simp only [Bool.false_or]
  rw [show Tm.deep [] = 0 by decide]
  rfl
/-- a box that is opened -/
theorem box_of {U : List Bs} (hU : Uni U) {N : NM} (h : Ok U N) {box : Bs} (hm : mkF N (nget N box).key = true) : (nget N box).key ≠ [] ∧ box.head? = some 66 ∧ ∃ m, Tm.kidsOf 63 box = [(nget N box).key, m] := by
  have hk : (nget N box).key ≠ [] := fun e => by rw [e, mkF_nil hU h.dom] at hm; cases hm
  exact ⟨hk, h.key box hk⟩
theorem openF_ok {U : List Bs} (hU : Uni U) {N : NM} {l : List Bs} (h : Ok U N) {box : Bs} (hb : box ∈ U) (hm : mkF N (nget N box).key = true) : Ok U (openF (N, l) box).1 ∧ (openF (N, l) box).2.length + nu U (openF (N, l) box).1 ≤ l.length + nu U N := by
  obtain ⟨hk, h66, m, hks⟩ := box_of hU h hm
  have hub : unboxRes (nget N box).key box = (m, true) := by unfold unboxRes; rw [if_pos ⟨hU.right box hb, h66⟩, hks]; simp
  have hmU := hU.box box hb h66 _ m hks
  unfold openF
  simp only [hub]
  have h1 : Ok U (nput N box ⟨(nget N box).heard, (nget N box).held, []⟩) := ⟨h.dom.put hb _, h.key.put (fun e => absurd rfl e)⟩
  refine ⟨⟨(take_bound hU 64 _ l m h1.dom hmU).1, takeF_key hU 64 _ l m hmU h1.key⟩, ?_⟩
  have h2 := takeF_nu hU 64 (nput N box ⟨(nget N box).heard, (nget N box).held, []⟩) l m hmU
  have h3 := nu_put (U := U) (N := N) (t := box) (n := ⟨(nget N box).heard, (nget N box).held, []⟩) (fun e => e)
  omega
end Go.Proofs.YtkifchjpgdmcoaaGreatDoor

/- Following: boxes whose keys can be made are opened, till no more open. -/
namespace Go.Proofs.YtkifchjpgdmcoaaGreatDoor
open Go.RowKit Go.Maps Go.WideElems

/-- two rows do not share a block -/
def Ap (v u : Value) : Prop := ∀ g, v.ownBlock = some g → u.ownBlock ≠ some g
theorem Ap.symm {v u : Value} (h : Ap v u) : Ap u v := fun g e e2 => h g e2 e
theorem ap_none (n : Nat) (u : Value) : Ap (.slice none 0 n) u := fun g e => by cases e
/-- rows that stay when one row grows -/
theorem Kp.row {w w' : World} {p b : Nat} {N : NM} (hM : Md w p b N) {v v' u : Value} (h : Kp w w' b v v') {n : Nat} {xs : List Value} (ho : w.ownsRow 0 22 1 u n xs) (ha : Ap u v) : w'.ownsRow 0 22 1 u n xs := by
  have hne := own_ne hM ho
  exact own_kept ho (fun i e => h.block i (own_lt ho e) (fun e2 => by subst e2; exact hne.2 e) (ha i e))
theorem Kp.ap {w w' : World} {b : Nat} {v v' u : Value} (h : Kp w w' b v v') {n : Nat} {xs : List Value} (ho : w.ownsRow 0 22 1 u n xs) (ha : Ap u v) : Ap u v' := fun g e e2 => by
  rcases h.own g e2 with e3 | e3
  · exact ha g e e3
  · have := own_lt ho e; omega

/-- a row behind a row -/
theorem append_row (W : World) (b : Nat) (v x : Value) (l r : List Bs) (hv : W.ownsRow 0 22 1 v l.length (l.map St)) (hx : W.ownsRow 0 22 1 x r.length (r.map St)) (hl : l.length + r.length < 1000000000000) :
    ∃ ao kc w', (∀ ty, (Builtin.append_ #[39, 39] ty #[v, x]).run Tryz.prog W = .ok (.slice ao (l ++ r).length kc) w') ∧ w'.ownsRow 0 22 1 (.slice ao (l ++ r).length kc) (l ++ r).length ((l ++ r).map St) ∧ Kp W w' b v (.slice ao (l ++ r).length kc) ∧ ∀ i, i < W.heap.size → v.ownBlock ≠ some i → w'.heap[i]? = W.heap[i]? := by
  obtain ⟨i0, hi, hz0, hz1, hz2⟩ := info_parts Tryz.info22
  by_cases h0 : 0 < r.length
  · obtain ⟨g, kc, rfl, _, _, hcs⟩ := row_cells hx h0
    obtain ⟨v', w', h1, h2, h3, _, h5⟩ := run_append_own_at (P := Tryz.prog) W 0 39 39 22 i0 _ 1 16 Tryz.underlying39 hi hz0 hz1 hz2 rfl (by decide) v l.length (l.map St) hv ⟨g, 0, none⟩ r.length kc (r.map St) (by simp) (fun j u hu => by
      have hj : j < r.length := by have := (List.getElem?_eq_some_iff.1 hu).1; simpa using this
      have e : (⟨g, 0, none⟩ : Addr).add j = ⟨g, j, none⟩ := by unfold Addr.add; split <;> simp_all
      rw [e, hcs j hj, ← hu]; simp [hj]) (fun u hu => by obtain ⟨x, _, rfl⟩ := List.mem_map.1 hu; rfl) (by unfold maxLen; omega) (by omega) (Nat.zero_le _)
    obtain ⟨ao, kc', rfl⟩ := own_shape h2
    have hs : ∀ i, i < W.heap.size → v.ownBlock ≠ some i → w'.heap[i]? = W.heap[i]? := fun k hk hne => h3.block k hk (fun e => hne e.symm)
    refine ⟨ao, kc', w', fun ty => by rw [List.length_append]; exact h1, by rw [List.length_append, List.map_append]; exact h2, ⟨h3.os, h3.tape, h3.output, h3.size, fun k hk _ hne => hs k hk hne, fun g' hg' => ?_⟩, hs⟩
    rw [List.length_append] at hg'
    rcases h5 with e | e
    · exact Or.inl (e ▸ hg')
    · right; rw [e] at hg'; cases hg'; exact Nat.le_refl _
  · obtain rfl : r = [] := List.eq_nil_of_length_eq_zero (by omega)
    obtain ⟨ao, kc, rfl⟩ := own_shape hv
    obtain ⟨ax, kx, rfl⟩ := own_shape hx
    have hrun : ∀ ty, (Builtin.append_ #[39, 39] ty #[.slice ao l.length kc, .slice ax ([] : List Bs).length kx]).run Tryz.prog W = .ok (.slice ao l.length kc) W := by
      intro ty
      rcases hv.2 with ⟨e, e2⟩ | ⟨g, cp, cur, e, _, _, hle, _⟩
      · obtain rfl : l = [] := List.eq_nil_of_length_eq_zero e2
        cases e
        cases ax <;> simp [Builtin.append_, Builtin.firstCells, run_underlying Tryz.underlying39, sizeOf, typeInfo, hi, Builtin.lenOf, go_sem]
      · cases e
        cases ax <;> simp [Builtin.append_, Builtin.firstCells, run_underlying Tryz.underlying39, sizeOf, typeInfo, hi, Builtin.lenOf, hle, storeCells, go_sem]
    exact ⟨ao, kc, W, by simpa using hrun, by simpa using hv, by simpa using Kp.refl W b _, fun i _ _ => rfl⟩

theorem own_zero {w : World} {base : Nat} {v : Value} {n : Nat} {xs : List Value} (h : w.ownsRow base 22 1 v n xs) : w.ownsRow 0 22 1 v n xs :=
  ⟨h.1, h.2.imp id (fun ⟨g, cap, cur, e1, _, e3⟩ => ⟨g, cap, cur, e1, Nat.zero_le _, e3⟩)⟩
/-- the library's variable lies in block 0 -/
def G0 (w : World) : Prop := ∃ m fr, w.heap[2]? = some (.cells #[.int .i64 m] 3 fr)
theorem G0.cell {w : World} (h : G0 w) : ∃ m, w.cell? ⟨2, 0, none⟩ = some (.int .i64 m) := by
  obtain ⟨m, fr, h⟩ := h
  exact ⟨m, by simp [World.cell?, h]⟩
theorem G0.lt {w : World} (h : G0 w) : 2 < w.heap.size := by obtain ⟨m, fr, h⟩ := h; exact lt_of_block h
theorem G0.below {w w' : World} (h : G0 w) (hb : Below w.heap.size w w') : G0 w' := by
  have hl := h.lt
  obtain ⟨m, fr, h⟩ := h
  exact ⟨m, fr, (hb.block 2 hl).trans h⟩
theorem G0.nb {w : World} (h : G0 w) {b : Nat} {N : NM} (ho : Om w b N) : (2 : Nat) ≠ b := by
  intro e
  obtain ⟨m, fr, h⟩ := h
  obtain ⟨n, D, ⟨es, clock, hb, _⟩, _⟩ := ho.own
  rw [← e, h] at hb
  cases hb
theorem G0.nv {w : World} (h : G0 w) {v : Value} {n : Nat} {xs : List Value} (ho : w.ownsRow 0 22 1 v n xs) : v.ownBlock ≠ some 2 := by
  intro e
  obtain ⟨m, fr, h⟩ := h
  rcases ho.2 with ⟨h1, h2⟩ | ⟨k, cap, cur, h1, h2, h3, _⟩
  · subst h1; cases e
  · subst h1; cases e; rw [h] at h3; cases h3
theorem G0.kp {w w' : World} (h : G0 w) {b : Nat} {N : NM} (hom : Om w b N) {v v' : Value} {n : Nat} {xs : List Value} (ho : w.ownsRow 0 22 1 v n xs) (hk : Kp w w' b v v') : G0 w' := by
  have hl := h.lt
  have hb := h.nb hom
  have hv := h.nv ho
  obtain ⟨m, fr, h⟩ := h
  exact ⟨m, fr, (hk.block 2 hl hb hv).trans h⟩

/-- what lies there ahead of a round -/
structure Fo (U : List Bs) (w0 : World) (vs0 : Value) (p b : Nat) (N : NM) (vn : Value) (news : List Bs) (vs : Value) (shut : List Bs) (w : World) : Prop where
  mn : Mn w p b N vn news
  row : w.ownsRow 0 22 1 vs shut.length (shut.map St)
  ap : Ap vn vs
  kp : Kp w0 w b vs0 vs
  ok : Ok U N
  nu' : ∀ x ∈ news, x ∈ U
  su : ∀ x ∈ shut, x ∈ U
  g0 : G0 w
  bd : shut.length + news.length + nu U N < 1000000000
/-- what lies there within a pass -/
structure Fi (U : List Bs) (w0 : World) (vs0 : Value) (p b : Nat) (s : NM × List Bs) (vm : Value) (vn : Value) (news : List Bs) (vs : Value) (shut : List Bs) (vt : Value) (still : List Bs) (w : World) : Prop where
  mn : Mn w p b s.1 vm s.2
  nrow : w.ownsRow 0 22 1 vn news.length (news.map St)
  srow : w.ownsRow 0 22 1 vs shut.length (shut.map St)
  trow : w.ownsRow 0 22 1 vt still.length (still.map St)
  a1 : Ap vn vm
  a2 : Ap vs vm
  a3 : Ap vt vm
  a4 : Ap vn vt
  a5 : Ap vs vt
  nm : ∀ g, vm.ownBlock = some g → w0.heap.size ≤ g
  nt : ∀ g, vt.ownBlock = some g → w0.heap.size ≤ g
  kp : Kp w0 w b vs0 vs
  ok : Ok U s.1
  g0 : G0 w
theorem Kp.after {w0 w w' : World} {b : Nat} {vs0 vs v v' : Value} (h : Kp w0 w b vs0 vs) (hk : Kp w w' b v v') (hn : ∀ g, v.ownBlock = some g → w0.heap.size ≤ g) : Kp w0 w' b vs0 vs :=
  ⟨hk.os.trans h.os, hk.tape.trans h.tape, hk.output.trans h.output, Nat.le_trans h.size hk.size, fun i hi hb hv => (hk.block i (Nat.lt_of_lt_of_le hi h.size) hb (fun e => by have := hn i e; omega)).trans (h.block i hi hb hv), h.own⟩
/-- the row of what was found grows, the notes change -/
theorem Fi.opened {U : List Bs} {w0 : World} {vs0 : Value} {p b : Nat} {s : NM × List Bs} {vm vn : Value} {news : List Bs} {vs : Value} {shut : List Bs} {vt : Value} {still : List Bs} {w w' : World} (h : Fi U w0 vs0 p b s vm vn news vs shut vt still w)
    {s' : NM × List Bs} {vm' : Value} (hmn : Mn w' p b s'.1 vm' s'.2) (hk : Kp w w' b vm vm') (hok : Ok U s'.1) : Fi U w0 vs0 p b s' vm' vn news vs shut vt still w' :=
  ⟨hmn, hk.row h.mn.md h.nrow h.a1, hk.row h.mn.md h.srow h.a2, hk.row h.mn.md h.trow h.a3, hk.ap h.nrow h.a1, hk.ap h.srow h.a2, hk.ap h.trow h.a3, h.a4, h.a5,
    fun g e => (hk.own g e).elim (fun e2 => h.nm g e2) (fun e2 => Nat.le_trans h.kp.size e2), h.nt, h.kp.after hk h.nm, hok, h.g0.kp h.mn.md.om h.mn.row hk⟩
/-- the row of what stays shut grows -/
theorem Fi.stays {U : List Bs} {w0 : World} {vs0 : Value} {p b : Nat} {s : NM × List Bs} {vm vn : Value} {news : List Bs} {vs : Value} {shut : List Bs} {vt : Value} {still : List Bs} {w w' : World} (h : Fi U w0 vs0 p b s vm vn news vs shut vt still w)
    {vt' : Value} {still' : List Bs} (hrow : w'.ownsRow 0 22 1 vt' still'.length (still'.map St)) (hk : Kp w w' b vt vt') (hs : ∀ i, i < w.heap.size → vt.ownBlock ≠ some i → w'.heap[i]? = w.heap[i]?) : Fi U w0 vs0 p b s vm vn news vs shut vt' still' w' := by
  have hne := own_ne h.mn.md h.trow
  refine ⟨⟨h.mn.md.kp hne.1 hne.2 h.mn.md.ne hk (hs b h.mn.md.om.lt hne.2), hk.row h.mn.md h.mn.row h.a3.symm⟩, hk.row h.mn.md h.nrow h.a4, hk.row h.mn.md h.srow h.a5, hrow, h.a1, h.a2, (hk.ap h.mn.row h.a3.symm).symm, hk.ap h.nrow h.a4, hk.ap h.srow h.a5, h.nm,
    fun g e => (hk.own g e).elim (fun e2 => h.nt g e2) (fun e2 => Nat.le_trans h.kp.size e2), h.kp.after hk h.nt, h.ok, h.g0.kp h.mn.md.om h.trow hk⟩
theorem Fi.below {U : List Bs} {w0 : World} {vs0 : Value} {p b : Nat} {s : NM × List Bs} {vm vn : Value} {news : List Bs} {vs : Value} {shut : List Bs} {vt : Value} {still : List Bs} {w w' : World} (h : Fi U w0 vs0 p b s vm vn news vs shut vt still w) (hb : Below w.heap.size w w') : Fi U w0 vs0 p b s vm vn news vs shut vt still w' :=
  ⟨h.mn.below hb, own_below h.nrow hb, own_below h.srow hb, own_below h.trow hb, h.a1, h.a2, h.a3, h.a4, h.a5, h.nm, h.nt, h.kp.below hb, h.ok, h.g0.below hb⟩

theorem pass_bound {U : List Bs} (hU : Uni U) (news : List Bs) : ∀ (l : List Bs) (s : (NM × List Bs) × List Bs), (∀ x ∈ l, x ∈ U) → Ok U s.1.1 →
    Ok U (l.foldl (passStep news) s).1.1 ∧ (l.foldl (passStep news) s).1.2.length + nu U (l.foldl (passStep news) s).1.1 ≤ s.1.2.length + nu U s.1.1 ∧ (l.foldl (passStep news) s).2.length ≤ s.2.length + l.length
  | [], s, _, h => ⟨h, Nat.le_refl _, by simp⟩
  | box :: l, s, hl, h => by
    have step : Ok U (passStep news s box).1.1 ∧ (passStep news s box).1.2.length + nu U (passStep news s box).1.1 ≤ s.1.2.length + nu U s.1.1 ∧ (passStep news s box).2.length ≤ s.2.length + 1 := by
      unfold passStep
      split
      · rename_i hc
        simp only [Bool.and_eq_true] at hc
        obtain ⟨h1, h2⟩ := openF_ok hU (l := s.1.2) h (hl box (by simp)) hc.2
        exact ⟨h1, h2, by simp⟩
      · exact ⟨h, Nat.le_refl _, by simp⟩
    obtain ⟨h1, h2, h3⟩ := pass_bound hU news l (passStep news s box) (fun x hx => hl x (by simp [hx])) step.1
    refine ⟨h1, Nat.le_trans h2 step.2.1, ?_⟩
    have := step.2.2
    simp only [List.foldl_cons, List.length_cons]
    omega
theorem takeF_mem {U : List Bs} (hU : Uni U) : ∀ (n : Nat) (N : NM) (l : List Bs) (t : Bs), t ∈ U → (∀ x ∈ l, x ∈ U) → ∀ x ∈ (takeF n (N, l) t).2, x ∈ U
  | 0, N, l, t, _, h => h
  | n + 1, N, l, t, ht, h => by
    have h1 : ∀ x ∈ l ++ [t], x ∈ U := fun x hx => by rcases List.mem_append.1 hx with hx | hx; exact h x hx; simp at hx; subst hx; exact ht
    rw [takeF]
    split
    · exact h
    · split
      · rename_i hh
        have key : ∀ (ks : List Bs) (s : NM × List Bs), (∀ k ∈ ks, k ∈ U) → (∀ x ∈ s.2, x ∈ U) → ∀ x ∈ (ks.foldl (takeF n) s).2, x ∈ U := by
          intro ks
          induction ks with
          | nil => intro s _ hs; exact hs
          | cons k ks ih => intro s hk hs; exact ih _ (fun x hx => hk x (by simp [hx])) (takeF_mem hU n s.1 s.2 k (hk k (by simp)) hs)
        exact key _ _ (hU.tup t ht hh) h1
      · split
        · rename_i hh
          unfold takeKeyF
          split
          · exact h1
          · rename_i h2
            have h3 : (pubRes t).2 = 0 := Classical.byContradiction (fun e => h2 (Or.inr e))
            intro x hx
            rcases List.mem_append.1 hx with hx | hx
            · exact h1 x hx
            · simp at hx; subst hx; exact hU.key t ht hh h3
        · split <;> exact h1
theorem pass_mem {U : List Bs} (hU : Uni U) (news : List Bs) : ∀ (l : List Bs) (s : (NM × List Bs) × List Bs), (∀ x ∈ l, x ∈ U) → Ok U s.1.1 → (∀ x ∈ s.1.2, x ∈ U) → (∀ x ∈ s.2, x ∈ U) →
    (∀ x ∈ (l.foldl (passStep news) s).1.2, x ∈ U) ∧ ∀ x ∈ (l.foldl (passStep news) s).2, x ∈ U
  | [], s, _, _, h1, h2 => ⟨h1, h2⟩
  | box :: l, s, hl, h, h1, h2 => by
    have hb := hl box (by simp)
    have step : Ok U (passStep news s box).1.1 ∧ (∀ x ∈ (passStep news s box).1.2, x ∈ U) ∧ ∀ x ∈ (passStep news s box).2, x ∈ U := by
      unfold passStep
      split
      · rename_i hc
        simp only [Bool.and_eq_true] at hc
        refine ⟨(openF_ok hU (l := s.1.2) h hb hc.2).1, ?_, h2⟩
        obtain ⟨hk, h66, m, hks⟩ := box_of hU h hc.2
        have hub : unboxRes (nget s.1.1 box).key box = (m, true) := by unfold unboxRes; rw [if_pos ⟨hU.right box hb, h66⟩, hks]; simp
        unfold openF
        rw [hub]
        exact takeF_mem hU 64 _ _ m (hU.box box hb h66 _ m hks) h1
      · refine ⟨h, h1, fun x hx => ?_⟩
        rcases List.mem_append.1 hx with hx | hx
        · exact h2 x hx
        · simp at hx; subst hx; exact hb
    exact pass_mem hU news l (passStep news s box) (fun x hx => hl x (by simp [hx])) step.1 step.2.1 step.2.2
theorem boxesF_mem {U : List Bs} {N : NM} {l : List Bs} (h : ∀ x ∈ l, x ∈ U) : ∀ x ∈ boxesF N l, x ∈ U := fun x hx => h x ((List.mem_filter.1 hx).1)
end Go.Proofs.YtkifchjpgdmcoaaGreatDoor

/- Keys: one start that fits; the listed variables as the program's own text lays them; what comes in. -/
namespace Go.Proofs.YtkifchjpgdmcoaaGreatDoor
open Go.ChangeShapes Go.WideShapes Go.ChangeAt Go.RowKit

theorem own : ownKnob Tryz.prog.godebug = none := by kernel_rfl
theorem laidOut : laidOutB Tryz.prog = true := by kernel_rfl
/-- the listed variables -/
def laid3 : List (String × DataW Unit) := Rows.keysSecretRow.laid
set_option maxRecDepth 100000 in
theorem door_met (os : Os) (args : Array Value) : laidMetH Tryz.prog laid3 ((World.doorLaid Tryz.prog 400 os).forCall (fun _ _ => 0) ⟨#[], args, []⟩).memory :=
  laidMetH_of_parts3 (fuel := 8) (laidMet_of_run' 8 (by kernel_rfl) (by kernel_rfl)) (by kernel_rfl) (by kernel_rfl)
theorem reach_le {n : Nat} (h : n ≤ reachBytes) : n ≤ 140737488355328 := by
  have h2 := reachBytes_lt
  have e3 : (2 : Nat) ^ 47 = 140737488355328 := by decide
  omega
theorem Tryz.gPow : Tryz.prog.globalNamed "internal/strconv.uint64pow10" = some 1 := by kernel_rfl
theorem Tryz.gPowType : (Tryz.prog.globals[1]?).map (·.type) = some 129 := by kernel_rfl
theorem Tryz.gLab : Tryz.prog.globalNamed "sluiceway/keys.labels" = some 0 := by kernel_rfl
theorem Tryz.gLabType : (Tryz.prog.globals[0]?).map (·.type) = some 76 := by kernel_rfl
theorem Tryz.c106 : Tryz.prog.cellsOf 106 = 1 := by kernel_rfl
theorem Tryz.c129 : Tryz.prog.cellsOf 129 = 20 := by kernel_rfl
theorem Tryz.c9 : Tryz.prog.cellsOf 9 = 1 := by kernel_rfl
theorem Tryz.c76 : Tryz.prog.cellsOf 76 = 6 := by kernel_rfl
theorem pw_of_laid {W : World} (h : laidMetH Tryz.prog laid3 W) : Pw W := by
  have h1 : laidMet Tryz.prog laid3 W := h
  have h2 : laidMet Tryz.prog (("internal/strconv.uint64pow10", Lib.tabData .u64 Lib.pow10Tab) :: [("sluiceway/keys.labels", Rows.laid_sluiceway_keys_labels)]) W := (h1.tail).tail
  exact Lib.tabIs_of_head Tryz.gPow Tryz.gPowType Tryz.underlying129 Tryz.underlying106 Tryz.c106 Tryz.c129 h2
/-- an array of strings that reads as a row of texts holds these -/
theorem cells_of_str {H : Type} {enc : TypeId × Value → H} {P : Program} {w : World} {base : Nat} {sp : Nat → Bool} {held : Bool} {fuel : Nat} {t e : TypeId} {n : Nat} {cs : List Value} {zs : List Bs} {p : List MemPlace}
    (ht : P.underlying t = some (.array n e)) (he : P.underlying e = some .string) (hce : P.cellsOf e = 1) (hct : P.cellsOf t = n)
    (h : DataW.trod enc P w base sp held fuel t cs = some (.agg (zs.map fun z => .lit (.string z)), p)) : ∀ i (hi : i < zs.length), cs[i]? = some (St zs[i]) := by
  cases fuel with
  | zero => simp [DataW.trod] at h
  | succ fuel =>
    simp only [DataW.trod, ht, hce, hct, Nat.mul_one] at h
    split at h
    · rename_i hl
      obtain ⟨xs, hm, hx⟩ := Option.map_eq_some_iff.1 h
      have hxs : xs.map (·.1) = zs.map fun z => (DataW.lit (.string z) : DataW H) := by
        have := congrArg Prod.fst hx
        simpa using this
      have hxl : xs.length = n := by simpa using Lib.mapM_length hm
      have hzl : zs.length = n := by
        have := congrArg List.length hxs
        simp at this
        omega
      intro i hi
      obtain ⟨b, hb, hf⟩ := Lib.mapM_at hm i i (List.getElem?_range (by omega))
      obtain ⟨z, hc, hz2, _⟩ := DataW.trod_string he hf
      have h1 : cs[i]? = some (.string z) := by
        have := congrArg (·[0]?) hc
        simpa [List.getElem?_take, List.getElem?_drop] using this
      have h2 : (xs.map (·.1))[i]? = some (DataW.lit (.string z.data.toList) : DataW H) := by simp [hb, hz2]
      rw [hxs] at h2
      simp only [List.getElem?_map, Option.map_eq_some_iff, DataW.lit.injEq, Lit.string.injEq] at h2
      obtain ⟨z', hz', he'⟩ := h2
      rw [List.getElem?_eq_getElem hi] at hz'
      have : zs[i] = z.data.toList := by rw [← he']; exact (Option.some.inj hz')
      rw [h1, this]
    · cases h
theorem lb_of_laid {W : World} (h : laidMetH Tryz.prog laid3 W) : Lb W := by
  have h1 : laidMet Tryz.prog laid3 W := h
  have h2 : laidMet Tryz.prog [("sluiceway/keys.labels", Rows.laid_sluiceway_keys_labels)] W := h1.tail.tail.tail
  obtain ⟨ps, ⟨g, t, cs, fuel, p, q, hg, hty, hvar, hd, _, _⟩, _⟩ := h2
  obtain rfl := Option.some.inj (Tryz.gLab.symm.trans hg)
  obtain rfl := Option.some.inj (Tryz.gLabType.symm.trans hty)
  have hc := cells_of_str (zs := [lb 0, lb 1, lb 2, lb 3, lb 4, lb 5]) Tryz.underlying76 Tryz.underlying9 Tryz.c9 Tryz.c76 hd
  intro j hj
  have h3 := World.var?_cell Tryz.gLab hvar j
  have h4 := hc j hj
  match j, hj with
  | 0, _ | 1, _ | 2, _ | 3, _ | 4, _ | 5, _ => rw [h3]; simpa using h4
/-- the bound of what is sorted lies where the program lays it -/
theorem g0_of_shape {W : World} (h : W.ShapedOpen Tryz.prog) : G0 W := by
  obtain ⟨m, hm⟩ := cell_of_shapedOpen_int (P := Tryz.prog) (g := 2) (t := 3) (zero := #[.int .i64 0]) h (of_decide_eq_true (by kernel_rfl)) (by kernel_rfl) rfl (by kernel_rfl) (by kernel_rfl) Tryz.underlying3
  obtain ⟨cs, hh, hs, _⟩ := h.1 2 #[.int .i64 0] 3 (of_decide_eq_true (by kernel_rfl)) (by kernel_rfl)
  have h1 : cs.size = 1 := hs
  rw [cell_of_heap hh] at hm
  refine ⟨m, (0, 0), hh.trans ?_⟩
  have e : cs = #[.int .i64 m] := by
    apply Array.ext (by rw [h1]; rfl)
    intro i hi _
    have : i = 0 := by omega
    subst this
    rw [Array.getElem?_eq_getElem hi] at hm
    exact Option.some.inj hm
  rw [e]
end Go.Proofs.YtkifchjpgdmcoaaGreatDoor
