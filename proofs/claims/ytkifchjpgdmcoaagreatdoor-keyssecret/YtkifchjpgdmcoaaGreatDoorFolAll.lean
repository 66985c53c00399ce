import Derived.Test.YtkifchjpgdmcoaaGreatDoorBoxAll
/- What following notes, as a relation; what stays true of the notes meanwhile. -/
namespace Go.Proofs.YtkifchjpgdmcoaaGreatDoor
def KeyOK (N : NM) : Prop := ∀ t, (nget N t).key ≠ [] → t.head? = some 66 ∧ ∃ m, Tm.kidsOf 63 t = [(nget N t).key, m]
theorem nget_put (N : NM) (t : Bs) (n : Note) (s : Bs) : nget (nput N t n) s = if s = t then n else nget N s := by
 unfold nget nput; by_cases h : s = t <;> simp [h]
theorem KeyOK.put {N : NM} (h : KeyOK N) {t : Bs} {n : Note} (hn : n.key ≠ [] → t.head? = some 66 ∧ ∃ m, Tm.kidsOf 63 t = [n.key, m]) : KeyOK (nput N t n) := by
 intro s hs
 rw [nget_put] at hs ⊢
 by_cases e : s = t
 · subst e; simp only [if_pos] at hs ⊢; exact hn hs
 · rw [if_neg e] at hs ⊢; exact h s hs
theorem takeKeyF_key {N : NM} {l : List Bs} (h : KeyOK N) (t : Bs) : KeyOK (takeKeyF (N, l) t).1 := by
 unfold takeKeyF
 split
 · exact h
 · exact h.put (fun e => absurd rfl e)
theorem takeF_key {U : List Bs} (hU : Uni U) : ∀ (n : Nat) (N : NM) (l : List Bs) (t : Bs), t ∈ U → KeyOK N → KeyOK (takeF n (N, l) t).1
 | 0, N, l, t, _, h => h
 | n + 1, N, l, t, ht, h => by
   have hsame : KeyOK (nput N t ⟨(nget N t).heard, true, (nget N t).key⟩) := h.put (fun e => h t e)
   rw [takeF]
   split
   · exact h
   · split
     · rename_i hh
       have key : ∀ (ks : List Bs) (s : NM × List Bs), (∀ k ∈ ks, k ∈ U) → KeyOK s.1 → KeyOK (ks.foldl (takeF n) s).1 := by
         intro ks
         induction ks with
         | nil => intro s _ hs; exact hs
         | cons k ks ih => intro s hk hs; exact ih _ (fun x hx => hk x (by simp [hx])) (takeF_key hU n s.1 s.2 k (hk k (by simp)) hs)
       exact key _ _ (hU.tup t ht hh) hsame
     · split
       · exact takeKeyF_key hsame t
       · split
         · rename_i hh
           refine h.put (fun _ => ⟨hh, ?_⟩)
           match t, hh with
           | c :: l0, hh =>
             simp at hh
             subst hh
             obtain ⟨x, y, hxy⟩ := Tm.kids_pair (hU.right _ ht) (by decide) (by decide) (by decide) (by decide) (by decide)
             exact ⟨y, by rw [hxy]; rfl⟩
         · exact hsame
def nu (U : List Bs) (N : NM) : Nat := (U.filter (fun t => (N t).isNone)).length + (U.filter (fun t => !(nget N t).held)).length
theorem filter_le {U : List Bs} {p q : Bs → Bool} (h : ∀ x, q x = true → p x = true) : (U.filter q).length ≤ (U.filter p).length := by
 induction U with
 | nil => simp
 | cons a U ih =>
   rw [List.filter_cons, List.filter_cons]
   cases hq : q a
   · cases hp : p a <;> simp <;> omega
   · rw [h a hq]; simp; omega
theorem filter_lt {U : List Bs} {p q : Bs → Bool} (h : ∀ x, q x = true → p x = true) {t : Bs} (ht : t ∈ U) (hp : p t = true) (hq : q t = false) : (U.filter q).length + 1 ≤ (U.filter p).length := by
 induction U with
 | nil => simp at ht
 | cons a U ih =>
   rw [List.filter_cons, List.filter_cons]
   rcases List.mem_cons.1 ht with e | hm
   · subst e
     rw [hp, hq]
     have := filter_le (U := U) h
     simp; omega
   · have := ih hm
     cases hqa : q a
     · cases hpa : p a <;> simp <;> omega
     · rw [h a hqa]; simp; omega
theorem nu_put {U : List Bs} {N : NM} {t : Bs} {n : Note} (hh : (nget N t).held = true → n.held = true) : nu U (nput N t n) ≤ nu U N := by
 unfold nu
 have h1 := filter_le (U := U) (p := fun t => (N t).isNone) (q := fun s => (nput N t n s).isNone) (fun s hs => by
   unfold nput at hs; by_cases e : s = t <;> simp [e] at hs ⊢; exact hs)
 have h2 := filter_le (U := U) (p := fun t => !(nget N t).held) (q := fun s => !(nget (nput N t n) s).held) (fun s hs => by
   simp only [nget_put] at hs
   by_cases e : s = t
   · subst e; simp at hs ⊢; cases hq : (nget N s).held with | false => rfl | true => rw [hh hq] at hs; cases hs
   · simp [e] at hs ⊢; exact hs)
 exact Nat.add_le_add h1 h2
theorem nu_held {U : List Bs} {N : NM} {t : Bs} {n : Note} (ht : t ∈ U) (h0 : (nget N t).held = false) (hn : n.held = true) : nu U (nput N t n) + 1 ≤ nu U N := by
 unfold nu
 have h1 := filter_le (U := U) (p := fun t => (N t).isNone) (q := fun s => (nput N t n s).isNone) (fun s hs => by
   unfold nput at hs; by_cases e : s = t <;> simp [e] at hs ⊢; exact hs)
 have h2 := filter_lt (U := U) (p := fun t => !(nget N t).held) (q := fun s => !(nget (nput N t n) s).held) (fun s hs => by
   simp only [nget_put] at hs
   by_cases e : s = t
   · subst e; simp [h0]
   · simp [e] at hs ⊢; exact hs) ht (by simp [h0]) (by simp [nget_put, hn])
 have h3 := Nat.add_le_add h1 h2
 rw [← Nat.add_assoc] at h3
 exact h3
theorem nu_noted {U : List Bs} {N : NM} {t : Bs} {n : Note} (ht : t ∈ U) (h0 : (N t).isSome = false) (_hn : n.held = false) : nu U (nput N t n) + 1 ≤ nu U N := by
 unfold nu
 have hN : N t = none := by cases h : N t with | none => rfl | some x => rw [h] at h0; cases h0
 have h1 := filter_lt (U := U) (p := fun t => (N t).isNone) (q := fun s => (nput N t n s).isNone) (fun s hs => by
   unfold nput at hs; by_cases e : s = t <;> simp [e] at hs ⊢; exact hs) ht (by simp [hN]) (by simp [nput])
 have h2 := filter_le (U := U) (p := fun t => !(nget N t).held) (q := fun s => !(nget (nput N t n) s).held) (fun s hs => by
   simp only [nget_put] at hs
   by_cases e : s = t
   · subst e; simp [nget, hN, nz]
   · simp [e] at hs ⊢; exact hs)
 have h3 := Nat.add_le_add h1 h2
 rw [Nat.add_right_comm] at h3
 exact h3
theorem nu_le (U : List Bs) (N : NM) : nu U N ≤ 2 * U.length := by
 unfold nu
 have h1 := List.length_filter_le (fun t => (N t).isNone) U
 have h2 := List.length_filter_le (fun t => !(nget N t).held) U
 omega
theorem takeKeyF_nu {U : List Bs} (hU : Uni U) {N : NM} {l : List Bs} {t : Bs} (ht : t ∈ U) (hh : t.head? = some 86 ∨ t.head? = some 75) : (takeKeyF (N, l) t).2.length + nu U (takeKeyF (N, l) t).1 ≤ l.length + nu U N := by
 unfold takeKeyF
 split
 · simp
 · rename_i h
   have h2 : (pubRes t).2 = 0 := Classical.byContradiction (fun e => h (Or.inr e))
   have h3 : (N (pubRes t).1).isSome = false := by cases hq : (N (pubRes t).1).isSome with | false => rfl | true => exact absurd (Or.inl hq) h
   have := nu_noted (n := nz) (hU.key t ht hh h2) h3 rfl
   simp; omega
theorem takeF_nu {U : List Bs} (hU : Uni U) : ∀ (n : Nat) (N : NM) (l : List Bs) (t : Bs), t ∈ U → (takeF n (N, l) t).2.length + nu U (takeF n (N, l) t).1 ≤ l.length + nu U N
 | 0, N, l, t, _ => by simp [takeF]
 | n + 1, N, l, t, ht => by
   rw [takeF]
   split
   · simp
   · rename_i hn
     have h0 : (nget N t).held = false := by cases h : (nget N t).held with | false => rfl | true => exact absurd h hn
     have h1 := fun k => nu_held (n := ⟨(nget N t).heard, true, k⟩) ht h0 rfl
     split
     · rename_i hh
       have key : ∀ (ks : List Bs) (s : NM × List Bs), (∀ k ∈ ks, k ∈ U) → (ks.foldl (takeF n) s).2.length + nu U (ks.foldl (takeF n) s).1 ≤ s.2.length + nu U s.1 := by
         intro ks
         induction ks with
         | nil => intro s _; exact Nat.le_refl _
         | cons k ks ih =>
           intro s hk
           exact Nat.le_trans (ih _ (fun x hx => hk x (by simp [hx]))) (takeF_nu hU n s.1 s.2 k (hk k (by simp)))
       refine Nat.le_trans (key _ _ (hU.tup t ht hh)) ?_
       have := h1 (nget N t).key
       simp; omega
     · split
       · rename_i hh
         refine Nat.le_trans (takeKeyF_nu hU ht hh) ?_
         have := h1 (nget N t).key
         simp; omega
       · split
         · have := h1 ((Tm.kidsOf 63 t).headD []); show (l ++ [t]).length + nu U (nput N t ⟨(nget N t).heard, true, (Tm.kidsOf 63 t).headD []⟩) ≤ _; rw [List.length_append, List.length_singleton]; omega
         · have := h1 (nget N t).key; simp; omega
def passStep (news : List Bs) (s : (NM × List Bs) × List Bs) (box : Bs) : (NM × List Bs) × List Bs :=
 if concernF news box && mkF s.1.1 (nget s.1.1 box).key then (openF s.1 box, s.2) else (s.1, s.2 ++ [box])
inductive Follow : NM → List Bs → List Bs → NM → Prop
 | done (N : NM) (shut : List Bs) : Follow N [] shut N
 | step {N : NM} {news shut : List Bs} {M : NM} : news ≠ [] → Follow ((shut ++ boxesF N news).foldl (passStep news) ((N, []), [])).1.1 ((shut ++ boxesF N news).foldl (passStep news) ((N, []), [])).1.2 ((shut ++ boxesF N news).foldl (passStep news) ((N, []), [])).2 M → Follow N news shut M
structure Ok (U : List Bs) (N : NM) : Prop where
 dom : Dom N U
 key : KeyOK N
theorem mkF_nil {U : List Bs} (hU : Uni U) {N : NM} (h : Dom N U) : mkF N [] = false := by
 have hn : (N []).isSome = false := by
   cases hq : (N []).isSome with
   | false => rfl
   | true => exact absurd (by decide) (hU.right [] (h [] hq))
 unfold mkF
 rw [makesF, hn]
 simp only [Bool.false_or]
 rw [show Tm.deep [] = 0 by decide]
 rfl
theorem box_of {U : List Bs} (hU : Uni U) {N : NM} (h : Ok U N) {box : Bs} (hm : mkF N (nget N box).key = true) : (nget N box).key ≠ [] ∧ box.head? = some 66 ∧ ∃ m, Tm.kidsOf 63 box = [(nget N box).key, m] := by
 have hk : (nget N box).key ≠ [] := fun e => by rw [e, mkF_nil hU h.dom] at hm; cases hm
 exact ⟨hk, h.key box hk⟩
theorem openF_ok {U : List Bs} (hU : Uni U) {N : NM} {l : List Bs} (h : Ok U N) {box : Bs} (hb : box ∈ U) (hm : mkF N (nget N box).key = true) : Ok U (openF (N, l) box).1 ∧ (openF (N, l) box).2.length + nu U (openF (N, l) box).1 ≤ l.length + nu U N := by
 obtain ⟨hk, h66, m, hks⟩ := box_of hU h hm
 have hub : unboxRes (nget N box).key box = (m, true) := by unfold unboxRes; rw [if_pos ⟨hU.right box hb, h66⟩, hks]; simp
 have hmU := hU.box box hb h66 _ m hks
 unfold openF
 simp only [hub]
 have h1 : Ok U (nput N box ⟨(nget N box).heard, (nget N box).held, []⟩) := ⟨h.dom.put hb _, h.key.put (fun e => absurd rfl e)⟩
 refine ⟨⟨(take_bound hU 64 _ l m h1.dom hmU).1, takeF_key hU 64 _ l m hmU h1.key⟩, ?_⟩
 have h2 := takeF_nu hU 64 (nput N box ⟨(nget N box).heard, (nget N box).held, []⟩) l m hmU
 have h3 := nu_put (U := U) (N := N) (t := box) (n := ⟨(nget N box).heard, (nget N box).held, []⟩) (fun e => e)
 omega
end Go.Proofs.YtkifchjpgdmcoaaGreatDoor

/- Following: boxes whose keys can be made are opened, till no more open. -/
namespace Go.Proofs.YtkifchjpgdmcoaaGreatDoor
open Go.RowKit Go.Maps Go.WideElems
def Ap (v u : Value) : Prop := ∀ g, v.ownBlock = some g → u.ownBlock ≠ some g
theorem Ap.symm {v u : Value} (h : Ap v u) : Ap u v := fun g e e2 => h g e2 e
theorem ap_none (n : Nat) (u : Value) : Ap (.slice none 0 n) u := fun g e => by cases e
theorem Kp.row {w w' : World} {p b : Nat} {N : NM} (hM : Md w p b N) {v v' u : Value} (h : Kp w w' b v v') {n : Nat} {xs : List Value} (ho : w.ownsRow 0 22 1 u n xs) (ha : Ap u v) : w'.ownsRow 0 22 1 u n xs := by
 have hne := own_ne hM ho
 exact own_kept ho (fun i e => h.block i (own_lt ho e) (fun e2 => by subst e2; exact hne.2 e) (ha i e))
theorem Kp.ap {w w' : World} {b : Nat} {v v' u : Value} (h : Kp w w' b v v') {n : Nat} {xs : List Value} (ho : w.ownsRow 0 22 1 u n xs) (ha : Ap u v) : Ap u v' := fun g e e2 => by
 rcases h.own g e2 with e3 | e3
 · exact ha g e e3
 · have := own_lt ho e; omega
theorem append_row (W : World) (b : Nat) (v x : Value) (l r : List Bs) (hv : W.ownsRow 0 22 1 v l.length (l.map St)) (hx : W.ownsRow 0 22 1 x r.length (r.map St)) (hl : l.length + r.length < 1000000000000) :
   ∃ ao kc w', (∀ ty, (Builtin.append_ #[39, 39] ty #[v, x]).run Tryz.prog W = .ok (.slice ao (l ++ r).length kc) w') ∧ w'.ownsRow 0 22 1 (.slice ao (l ++ r).length kc) (l ++ r).length ((l ++ r).map St) ∧ Kp W w' b v (.slice ao (l ++ r).length kc) ∧ ∀ i, i < W.heap.size → v.ownBlock ≠ some i → w'.heap[i]? = W.heap[i]? := by
 obtain ⟨i0, hi, hz0, hz1, hz2⟩ := info_parts Tryz.info22
 by_cases h0 : 0 < r.length
 · obtain ⟨g, kc, rfl, _, _, hcs⟩ := row_cells hx h0
   obtain ⟨v', w', h1, h2, h3, _, h5⟩ := run_append_own_at (P := Tryz.prog) W 0 39 39 22 i0 _ 1 16 Tryz.underlying39 hi hz0 hz1 hz2 rfl (by decide) v l.length (l.map St) hv ⟨g, 0, none⟩ r.length kc (r.map St) (by simp) (fun j u hu => by
     have hj : j < r.length := by have := (List.getElem?_eq_some_iff.1 hu).1; simpa using this
     have e : (⟨g, 0, none⟩ : Addr).add j = ⟨g, j, none⟩ := by unfold Addr.add; split <;> simp_all
     rw [e, hcs j hj, ← hu]; simp [hj]) (fun u hu => by obtain ⟨x, _, rfl⟩ := List.mem_map.1 hu; rfl) (by unfold maxLen; omega) (by omega) (Nat.zero_le _)
   obtain ⟨ao, kc', rfl⟩ := own_shape h2
   have hs : ∀ i, i < W.heap.size → v.ownBlock ≠ some i → w'.heap[i]? = W.heap[i]? := fun k hk hne => h3.block k hk (fun e => hne e.symm)
   refine ⟨ao, kc', w', fun ty => by rw [List.length_append]; exact h1, by rw [List.length_append, List.map_append]; exact h2, ⟨h3.os, h3.tape, h3.output, h3.size, fun k hk _ hne => hs k hk hne, fun g' hg' => ?_⟩, hs⟩
   rw [List.length_append] at hg'
   rcases h5 with e | e
   · exact Or.inl (e ▸ hg')
   · right; rw [e] at hg'; cases hg'; exact Nat.le_refl _
 · obtain rfl : r = [] := List.eq_nil_of_length_eq_zero (by omega)
   obtain ⟨ao, kc, rfl⟩ := own_shape hv
   obtain ⟨ax, kx, rfl⟩ := own_shape hx
   have hrun : ∀ ty, (Builtin.append_ #[39, 39] ty #[.slice ao l.length kc, .slice ax ([] : List Bs).length kx]).run Tryz.prog W = .ok (.slice ao l.length kc) W := by
     intro ty
     rcases hv.2 with ⟨e, e2⟩ | ⟨g, cp, cur, e, _, _, hle, _⟩
     · obtain rfl : l = [] := List.eq_nil_of_length_eq_zero e2
       cases e
       cases ax <;> simp [Builtin.append_, Builtin.firstCells, run_underlying Tryz.underlying39, sizeOf, typeInfo, hi, Builtin.lenOf, go_sem]
     · cases e
       cases ax <;> simp [Builtin.append_, Builtin.firstCells, run_underlying Tryz.underlying39, sizeOf, typeInfo, hi, Builtin.lenOf, hle, storeCells, go_sem]
   exact ⟨ao, kc, W, by simpa using hrun, by simpa using hv, by simpa using Kp.refl W b _, fun i _ _ => rfl⟩
theorem own_zero {w : World} {base : Nat} {v : Value} {n : Nat} {xs : List Value} (h : w.ownsRow base 22 1 v n xs) : w.ownsRow 0 22 1 v n xs :=
 ⟨h.1, h.2.imp id (fun ⟨g, cap, cur, e1, _, e3⟩ => ⟨g, cap, cur, e1, Nat.zero_le _, e3⟩)⟩
def G0 (w : World) : Prop := ∃ m fr, w.heap[2]? = some (.cells #[.int .i64 m] 3 fr)
theorem G0.cell {w : World} (h : G0 w) : ∃ m, w.cell? ⟨2, 0, none⟩ = some (.int .i64 m) := by
 obtain ⟨m, fr, h⟩ := h
 exact ⟨m, by simp [World.cell?, h]⟩
theorem G0.lt {w : World} (h : G0 w) : 2 < w.heap.size := by obtain ⟨m, fr, h⟩ := h; exact lt_of_block h
theorem G0.below {w w' : World} (h : G0 w) (hb : Below w.heap.size w w') : G0 w' := by
 have hl := h.lt
 obtain ⟨m, fr, h⟩ := h
 exact ⟨m, fr, (hb.block 2 hl).trans h⟩
theorem G0.nb {w : World} (h : G0 w) {b : Nat} {N : NM} (ho : Om w b N) : (2 : Nat) ≠ b := by
 intro e
 obtain ⟨m, fr, h⟩ := h
 obtain ⟨n, D, ⟨es, clock, hb, _⟩, _⟩ := ho.own
 rw [← e, h] at hb
 cases hb
theorem G0.nv {w : World} (h : G0 w) {v : Value} {n : Nat} {xs : List Value} (ho : w.ownsRow 0 22 1 v n xs) : v.ownBlock ≠ some 2 := by
 intro e
 obtain ⟨m, fr, h⟩ := h
 rcases ho.2 with ⟨h1, h2⟩ | ⟨k, cap, cur, h1, h2, h3, _⟩
 · subst h1; cases e
 · subst h1; cases e; rw [h] at h3; cases h3
theorem G0.kp {w w' : World} (h : G0 w) {b : Nat} {N : NM} (hom : Om w b N) {v v' : Value} {n : Nat} {xs : List Value} (ho : w.ownsRow 0 22 1 v n xs) (hk : Kp w w' b v v') : G0 w' := by
 have hl := h.lt
 have hb := h.nb hom
 have hv := h.nv ho
 obtain ⟨m, fr, h⟩ := h
 exact ⟨m, fr, (hk.block 2 hl hb hv).trans h⟩
structure Fo (U : List Bs) (w0 : World) (vs0 : Value) (p b : Nat) (N : NM) (vn : Value) (news : List Bs) (vs : Value) (shut : List Bs) (w : World) : Prop where
 mn : Mn w p b N vn news
 row : w.ownsRow 0 22 1 vs shut.length (shut.map St)
 ap : Ap vn vs
 kp : Kp w0 w b vs0 vs
 ok : Ok U N
 nu' : ∀ x ∈ news, x ∈ U
 su : ∀ x ∈ shut, x ∈ U
 g0 : G0 w
 bd : shut.length + news.length + nu U N < 1000000000
structure Fi (U : List Bs) (w0 : World) (vs0 : Value) (p b : Nat) (s : NM × List Bs) (vm : Value) (vn : Value) (news : List Bs) (vs : Value) (shut : List Bs) (vt : Value) (still : List Bs) (w : World) : Prop where
 mn : Mn w p b s.1 vm s.2
 nrow : w.ownsRow 0 22 1 vn news.length (news.map St)
 srow : w.ownsRow 0 22 1 vs shut.length (shut.map St)
 trow : w.ownsRow 0 22 1 vt still.length (still.map St)
 a1 : Ap vn vm
 a2 : Ap vs vm
 a3 : Ap vt vm
 a4 : Ap vn vt
 a5 : Ap vs vt
 nm : ∀ g, vm.ownBlock = some g → w0.heap.size ≤ g
 nt : ∀ g, vt.ownBlock = some g → w0.heap.size ≤ g
 kp : Kp w0 w b vs0 vs
 ok : Ok U s.1
 g0 : G0 w
theorem Kp.after {w0 w w' : World} {b : Nat} {vs0 vs v v' : Value} (h : Kp w0 w b vs0 vs) (hk : Kp w w' b v v') (hn : ∀ g, v.ownBlock = some g → w0.heap.size ≤ g) : Kp w0 w' b vs0 vs :=
 ⟨hk.os.trans h.os, hk.tape.trans h.tape, hk.output.trans h.output, Nat.le_trans h.size hk.size, fun i hi hb hv => (hk.block i (Nat.lt_of_lt_of_le hi h.size) hb (fun e => by have := hn i e; omega)).trans (h.block i hi hb hv), h.own⟩
theorem Fi.opened {U : List Bs} {w0 : World} {vs0 : Value} {p b : Nat} {s : NM × List Bs} {vm vn : Value} {news : List Bs} {vs : Value} {shut : List Bs} {vt : Value} {still : List Bs} {w w' : World} (h : Fi U w0 vs0 p b s vm vn news vs shut vt still w)
   {s' : NM × List Bs} {vm' : Value} (hmn : Mn w' p b s'.1 vm' s'.2) (hk : Kp w w' b vm vm') (hok : Ok U s'.1) : Fi U w0 vs0 p b s' vm' vn news vs shut vt still w' :=
 ⟨hmn, hk.row h.mn.md h.nrow h.a1, hk.row h.mn.md h.srow h.a2, hk.row h.mn.md h.trow h.a3, hk.ap h.nrow h.a1, hk.ap h.srow h.a2, hk.ap h.trow h.a3, h.a4, h.a5,
   fun g e => (hk.own g e).elim (fun e2 => h.nm g e2) (fun e2 => Nat.le_trans h.kp.size e2), h.nt, h.kp.after hk h.nm, hok, h.g0.kp h.mn.md.om h.mn.row hk⟩
theorem Fi.stays {U : List Bs} {w0 : World} {vs0 : Value} {p b : Nat} {s : NM × List Bs} {vm vn : Value} {news : List Bs} {vs : Value} {shut : List Bs} {vt : Value} {still : List Bs} {w w' : World} (h : Fi U w0 vs0 p b s vm vn news vs shut vt still w)
   {vt' : Value} {still' : List Bs} (hrow : w'.ownsRow 0 22 1 vt' still'.length (still'.map St)) (hk : Kp w w' b vt vt') (hs : ∀ i, i < w.heap.size → vt.ownBlock ≠ some i → w'.heap[i]? = w.heap[i]?) : Fi U w0 vs0 p b s vm vn news vs shut vt' still' w' := by
 have hne := own_ne h.mn.md h.trow
 refine ⟨⟨h.mn.md.kp hne.1 hne.2 h.mn.md.ne hk (hs b h.mn.md.om.lt hne.2), hk.row h.mn.md h.mn.row h.a3.symm⟩, hk.row h.mn.md h.nrow h.a4, hk.row h.mn.md h.srow h.a5, hrow, h.a1, h.a2, (hk.ap h.mn.row h.a3.symm).symm, hk.ap h.nrow h.a4, hk.ap h.srow h.a5, h.nm,
   fun g e => (hk.own g e).elim (fun e2 => h.nt g e2) (fun e2 => Nat.le_trans h.kp.size e2), h.kp.after hk h.nt, h.ok, h.g0.kp h.mn.md.om h.trow hk⟩
theorem Fi.below {U : List Bs} {w0 : World} {vs0 : Value} {p b : Nat} {s : NM × List Bs} {vm vn : Value} {news : List Bs} {vs : Value} {shut : List Bs} {vt : Value} {still : List Bs} {w w' : World} (h : Fi U w0 vs0 p b s vm vn news vs shut vt still w) (hb : Below w.heap.size w w') : Fi U w0 vs0 p b s vm vn news vs shut vt still w' :=
 ⟨h.mn.below hb, own_below h.nrow hb, own_below h.srow hb, own_below h.trow hb, h.a1, h.a2, h.a3, h.a4, h.a5, h.nm, h.nt, h.kp.below hb, h.ok, h.g0.below hb⟩
theorem pass_bound {U : List Bs} (hU : Uni U) (news : List Bs) : ∀ (l : List Bs) (s : (NM × List Bs) × List Bs), (∀ x ∈ l, x ∈ U) → Ok U s.1.1 →
   Ok U (l.foldl (passStep news) s).1.1 ∧ (l.foldl (passStep news) s).1.2.length + nu U (l.foldl (passStep news) s).1.1 ≤ s.1.2.length + nu U s.1.1 ∧ (l.foldl (passStep news) s).2.length ≤ s.2.length + l.length
 | [], s, _, h => ⟨h, Nat.le_refl _, by simp⟩
 | box :: l, s, hl, h => by
   have step : Ok U (passStep news s box).1.1 ∧ (passStep news s box).1.2.length + nu U (passStep news s box).1.1 ≤ s.1.2.length + nu U s.1.1 ∧ (passStep news s box).2.length ≤ s.2.length + 1 := by
     unfold passStep
     split
     · rename_i hc
       simp only [Bool.and_eq_true] at hc
       obtain ⟨h1, h2⟩ := openF_ok hU (l := s.1.2) h (hl box (by simp)) hc.2
       exact ⟨h1, h2, by simp⟩
     · exact ⟨h, Nat.le_refl _, by simp⟩
   obtain ⟨h1, h2, h3⟩ := pass_bound hU news l (passStep news s box) (fun x hx => hl x (by simp [hx])) step.1
   refine ⟨h1, Nat.le_trans h2 step.2.1, ?_⟩
   have := step.2.2
   simp only [List.foldl_cons, List.length_cons]
   omega
theorem takeF_mem {U : List Bs} (hU : Uni U) : ∀ (n : Nat) (N : NM) (l : List Bs) (t : Bs), t ∈ U → (∀ x ∈ l, x ∈ U) → ∀ x ∈ (takeF n (N, l) t).2, x ∈ U
 | 0, N, l, t, _, h => h
 | n + 1, N, l, t, ht, h => by
   have h1 : ∀ x ∈ l ++ [t], x ∈ U := fun x hx => by rcases List.mem_append.1 hx with hx | hx; exact h x hx; simp at hx; subst hx; exact ht
   rw [takeF]
   split
   · exact h
   · split
     · rename_i hh
       have key : ∀ (ks : List Bs) (s : NM × List Bs), (∀ k ∈ ks, k ∈ U) → (∀ x ∈ s.2, x ∈ U) → ∀ x ∈ (ks.foldl (takeF n) s).2, x ∈ U := by
         intro ks
         induction ks with
         | nil => intro s _ hs; exact hs
         | cons k ks ih => intro s hk hs; exact ih _ (fun x hx => hk x (by simp [hx])) (takeF_mem hU n s.1 s.2 k (hk k (by simp)) hs)
       exact key _ _ (hU.tup t ht hh) h1
     · split
       · rename_i hh
         unfold takeKeyF
         split
         · exact h1
         · rename_i h2
           have h3 : (pubRes t).2 = 0 := Classical.byContradiction (fun e => h2 (Or.inr e))
           intro x hx
           rcases List.mem_append.1 hx with hx | hx
           · exact h1 x hx
           · simp at hx; subst hx; exact hU.key t ht hh h3
       · split <;> exact h1
theorem pass_mem {U : List Bs} (hU : Uni U) (news : List Bs) : ∀ (l : List Bs) (s : (NM × List Bs) × List Bs), (∀ x ∈ l, x ∈ U) → Ok U s.1.1 → (∀ x ∈ s.1.2, x ∈ U) → (∀ x ∈ s.2, x ∈ U) →
   (∀ x ∈ (l.foldl (passStep news) s).1.2, x ∈ U) ∧ ∀ x ∈ (l.foldl (passStep news) s).2, x ∈ U
 | [], s, _, _, h1, h2 => ⟨h1, h2⟩
 | box :: l, s, hl, h, h1, h2 => by
   have hb := hl box (by simp)
   have step : Ok U (passStep news s box).1.1 ∧ (∀ x ∈ (passStep news s box).1.2, x ∈ U) ∧ ∀ x ∈ (passStep news s box).2, x ∈ U := by
     unfold passStep
     split
     · rename_i hc
       simp only [Bool.and_eq_true] at hc
       refine ⟨(openF_ok hU (l := s.1.2) h hb hc.2).1, ?_, h2⟩
       obtain ⟨hk, h66, m, hks⟩ := box_of hU h hc.2
       have hub : unboxRes (nget s.1.1 box).key box = (m, true) := by unfold unboxRes; rw [if_pos ⟨hU.right box hb, h66⟩, hks]; simp
       unfold openF
       rw [hub]
       exact takeF_mem hU 64 _ _ m (hU.box box hb h66 _ m hks) h1
     · refine ⟨h, h1, fun x hx => ?_⟩
       rcases List.mem_append.1 hx with hx | hx
       · exact h2 x hx
       · simp at hx; subst hx; exact hb
   exact pass_mem hU news l (passStep news s box) (fun x hx => hl x (by simp [hx])) step.1 step.2.1 step.2.2
theorem boxesF_mem {U : List Bs} {N : NM} {l : List Bs} (h : ∀ x ∈ l, x ∈ U) : ∀ x ∈ boxesF N l, x ∈ U := fun x hx => h x ((List.mem_filter.1 hx).1)
end Go.Proofs.YtkifchjpgdmcoaaGreatDoor

/- What follow does. -/
namespace Go.Proofs.YtkifchjpgdmcoaaGreatDoor
open Go.RowKit Go.Maps Go.WideElems
set_option maxRecDepth 100000 in
set_option maxHeartbeats 8000000 in
theorem follow_any {U : List Bs} (hU : Uni U) (w : World) (p b : Nat) (N : NM) (vn : Value) (news : List Bs) (vs : Value) (shut : List Bs) (h : Fo U w vs p b N vn news vs shut w) :
   Calls Tryz.prog 31 #[.pointer (some ⟨p, 0, none⟩), vn, vs] w fun e w' => ∃ M, e = .returned (.tuple #[]) ∧ Follow N news shut M ∧ Md w' p b M ∧ Ok U M ∧ (∃ v', Kp w w' b vs v') ∧ G0 w' := by
 obtain ⟨an, kn, hvn⟩ := own_shape h.mn.row
 obtain ⟨aq, kq, hvs⟩ := own_shape h.row
 subst hvn
 subst hvs
 have HU := hid hU
 have HF := hid h
 clear h hU
 go_enter Tryz.func31, Tryz.ntmps31
 go_wp2_with fail
 go_loopg [1, 2] (2 * nu U N + (if news = [] then 0 else 1)) (fun gg vn' vs' wr => ∃ (N' : NM) (news' shut' : List Bs) (an' : Option Addr) (kn' : Nat) (aq' : Option Addr) (kq' : Nat), gg = 2 * nu U N' + (if news' = [] then 0 else 1) ∧ vn' = .slice an' news'.length kn' ∧ vs' = .slice aq' shut'.length kq' ∧
   Fo U w (.slice aq shut.length kq) p b N' (.slice an' news'.length kn') news' (.slice aq' shut'.length kq') shut' wr ∧ ∀ M, Follow N' news' shut' M → Follow N news shut M)
 case atStart => exact ⟨N, news, shut, an, kn, aq, kq, rfl, rfl, rfl, HF.out, fun M h => h⟩
 case round =>
   clear HF
   obtain ⟨N1, news1, shut1, an1, kn1, aq1, kq1, rfl, rfl, rfl, hF, hfol⟩ := hrel
   have HF := hid hF
   have HFO := hid hfol
   clear hF hfol
   by_cases hnil : news1 = []
   · have hn0 : news1.length = 0 := by rw [hnil]; rfl
     have HNIL := hid hnil
     clear hnil
     go_wp2_with fail
     go_end0
     have hF := HF.out
     refine ⟨N1, rfl, HFO.out N1 ?_, hF.mn.md, hF.ok, ⟨_, hF.kp⟩, hF.g0⟩
     rw [HNIL.out]
     exact Follow.done N1 shut1
   · have hn0 : ¬ (news1.length : Int) = 0 := by have := List.length_pos_iff.2 hnil; omega
     have hn1 : (0 : Int) < (news1.length : Int) := by omega
     have HNN := hid hnil
     have hn2 : 0 < news1.length := List.length_pos_iff.2 hnil
     clear hnil
     have HBX := hid (boxes_any wr p b N1 _ news1 HF.out.mn (by have := HF.out.bd; omega) (fun t ht => by have := (Tm.deep_is (HU.out.right t (HF.out.nu' t ht))).2; omega))
     have HNX : Hid (∀ x ∈ news1, x ≠ []) := hid (fun x hx e => absurd (by decide) (HU.out.right [] (e ▸ HF.out.nu' x hx)))
     have HB32 := hid HF.out.bd
     generalize hnl : news1.length = nl at hn0 hn1 hn2 HBX ⊢
     have HNL := hid hnl
     have hdc : decide (0 < nl) = true := by simpa using hn2
     go_wp2_with fail
     refine HBX.out.mono ?_
     rintro e w1 ⟨ax, kx, rfl, hrow, hb1⟩
     obtain ⟨ao2, kc2, w2, hrun, hown2, hk2, hs2⟩ := append_row w1 b (.slice aq1 shut1.length kq1) (.slice ax (boxesF N1 news1).length kx) shut1 (boxesF N1 news1) (own_below HF.out.row hb1) (own_zero hrow) (by have := boxesF_le N1 news1; have := HF.out.bd; omega)
     obtain ⟨sh, hsh⟩ : ∃ sh, sh = shut1 ++ boxesF N1 news1 := ⟨_, rfl⟩
     rw [← hsh] at hrun hown2 hk2
     have HSH := hid hsh
     have HFI : Hid (Fi U w (.slice aq shut.length kq) p b (N1, []) (.slice none 0 0) (.slice an1 nl kn1) news1 (.slice ao2 sh.length kc2) sh (.slice none 0 0) [] w2) := by
       apply hid
       have hF := HF.out
       rw [hnl] at hF
       have hmn1 := hF.mn.below hb1
       have hsr := own_below hF.row hb1
       have hne := own_ne hmn1.md hsr
       have hmd2 : Md w2 p b N1 := hmn1.md.kp hne.1 hne.2 hmn1.md.ne hk2 (hs2 b hmn1.md.om.lt hne.2)
       exact ⟨⟨hmd2, World.ownsRow_nil _ _ _ _⟩, hk2.row hmn1.md hmn1.row hF.ap, hown2, World.ownsRow_nil _ _ _ _, (ap_none _ _).symm, (ap_none _ _).symm, (ap_none _ _).symm, (ap_none _ _).symm, (ap_none _ _).symm, (fun g e => by cases e), (fun g e => by cases e), (hF.kp.below hb1).trans hk2, hF.ok, (hF.g0.below hb1).kp hmn1.md.om hsr hk2⟩
     have HSU : Hid (∀ x ∈ sh, x ∈ U) := by
       apply hid; rw [hsh]; intro x hx
       rcases List.mem_append.1 hx with hx | hx
       · exact HF.out.su x hx
       · exact boxesF_mem HF.out.nu' x hx
     have HSB2 : Hid (sh.length + nu U N1 < 1000000000) := by apply hid; rw [hsh, List.length_append]; have := boxesF_le N1 news1; have := HF.out.bd; omega
     have HSB : Hid (sh.length < 1000000000) := by apply hid; rw [hsh, List.length_append]; have := boxesF_le N1 news1; have := HF.out.bd; omega
     have HRUN := hid hrun
     have HNU := hid HF.out.nu'
     have HOK1 := hid HF.out.ok
     clear hrow hb1 hrun hown2 hk2 hs2 HBX hsh HF hnl
     go_wp2_with (first | (at_builtin; refine wpList_append_run rfl (.tmp 13) (.tmp 16) 39 rfl (.slice aq1 shut1.length kq1) (.slice ax (boxesF N1 news1).length kx) (.slice ao2 sh.length kc2) w2 rfl rfl HRUN.out ?_) | fail)
     clear HRUN
     obtain ⟨F, hF⟩ : ∃ F : Nat → (NM × List Bs) × List Bs, F = fun i => (sh.take i).foldl (passStep news1) ((N1, []), []) := ⟨_, rfl⟩
     have HF0 : Hid (F 0 = ((N1, []), [])) := by apply hid; rw [hF]; rfl
     have HFS : Hid (∀ i (hi : i < sh.length), F (i + 1) = passStep news1 (F i) sh[i]) := by
       apply hid; intro i hi; rw [hF]; simp only [List.take_succ_eq_append_getElem hi, List.foldl_append, List.foldl_cons, List.foldl_nil]
     have HFE : Hid (F sh.length = (shut1 ++ boxesF N1 news1).foldl (passStep news1) ((N1, []), [])) := by apply hid; rw [hF, ← HSH.out]; simp
     have HFB : Hid (∀ i, Ok U (F i).1.1 ∧ (F i).1.2.length + nu U (F i).1.1 ≤ nu U N1 ∧ (F i).2.length ≤ sh.length) := by
       apply hid; intro i
       obtain ⟨h1, h2, h3⟩ := pass_bound HU.out news1 (sh.take i) ((N1, []), []) (fun x hx => HSU.out x (List.mem_of_mem_take hx)) HOK1.out
       rw [hF]
       refine ⟨h1, by simpa using h2, Nat.le_trans h3 ?_⟩
       simp
       omega
     have HFM : Hid ((∀ x ∈ (F sh.length).1.2, x ∈ U) ∧ ∀ x ∈ (F sh.length).2, x ∈ U) := by
       apply hid
       rw [hF]
       simp only [List.take_length]
       exact pass_mem HU.out news1 sh ((N1, []), []) HSU.out HOK1.out (by simp) (by simp)
     clear hF HSH
     obtain ⟨n, hn⟩ : ∃ n, n = sh.length := ⟨_, rfl⟩
     have HN := hid hn
     have hnb : n < 1000000000 := by rw [hn]; exact HSB.out
     rw [← hn]
     have HFI2 := HFI
     rw [← hn] at HFI2
     clear hn HFI
     go_loopg [6, 7, 20] n (fun gg vm vt vi wr => ∃ (i : Nat) (am : Option Addr) (km : Nat) (au : Option Addr) (ku : Nat), i ≤ n ∧ gg = n - i ∧ vi = .int .i64 (i : Int) ∧ vm = .slice am (F i).1.2.length km ∧ vt = .slice au (F i).2.length ku ∧
       Fi U w (.slice aq shut.length kq) p b (F i).1 (.slice am (F i).1.2.length km) (.slice an1 nl kn1) news1 (.slice ao2 n kc2) sh (.slice au (F i).2.length ku) (F i).2 wr)
     case atStart => exact ⟨0, none, 0, none, 0, by omega, by omega, rfl, by rw [HF0.out]; rfl, by rw [HF0.out]; rfl, by rw [HF0.out]; exact HFI2.out⟩
     case round =>
       clear HFI2 HF0
       obtain ⟨i, am, km, au, ku, hi, rfl, rfl, rfl, rfl, hfi⟩ := hrel
       have HFI := hid hfi
       clear hfi
       by_cases hil : i < n
       · as_aux_lemma =>
         have hik : i < sh.length := by rw [← HN.out]; exact hil
         have hsr := HFI.out.srow
         obtain ⟨g, kc', hv, hg1, hg2, hcs⟩ := row_cells hsr (by omega)
         rw [← HN.out] at hv
         cases hv
         have hcell := hcs i hik
         have hbU := HSU.out sh[i] (List.getElem_mem hik)
         have HFX := hid (HFS.out i hik)
         generalize sh[i] = box at hcell hbU HFX
         have HBU := hid hbU
         have hbl : box.length ≤ 100000 := by have := (Tm.deep_is (HU.out.right box hbU)).2; omega
         obtain ⟨mx, hmx⟩ := HFI.out.g0.cell
         have HCO := hid (concern_any wr (.slice an1 nl kn1) news1 HFI.out.nrow (by have := HB32.out; have := HNL.out; omega) HNX.out box hbl mx hmx)
         have HBD := hid (HFB.out i)
         have HFI1 := HFI
         clear hsr hcs hbU hmx hg1 hg2
         have STAYS : Hid (∀ W, Fi U w (.slice aq shut.length kq) p b (F i).1 (.slice am (F i).1.2.length km) (.slice an1 nl kn1) news1 (.slice (some ⟨g, 0, none⟩) n kc2) sh (.slice au (F i).2.length ku) (F i).2 W → ∃ ao5 kc5 w5, (∀ ty, (Builtin.append_ #[39, 39] ty #[.slice au (F i).2.length ku, .slice (some ⟨W.heap.size, 0, none⟩) 1 1]).run Tryz.prog (W.alloc (.cells #[St box] 22)) = .ok (.slice ao5 ((F i).2.length + 1) kc5) w5) ∧
             Fi U w (.slice aq shut.length kq) p b (F i).1 (.slice am (F i).1.2.length km) (.slice an1 nl kn1) news1 (.slice (some ⟨g, 0, none⟩) n kc2) sh (.slice ao5 ((F i).2.length + 1) kc5) ((F i).2 ++ [box]) w5) := by
           apply hid
           intro W hW
           obtain ⟨ao5, kc5, w5, h1, h2, h3, h4⟩ := append_kp W b (.slice au (F i).2.length ku) (F i).2 box hW.trow (by have := HBD.out.2.2; have := HN.out; omega)
           exact ⟨ao5, kc5, w5, h1, hW.stays h2 h3 h4⟩
         cases hcc : concernF news1 box
         · rw [hcc] at HCO
           have HPS : Hid (F (i + 1) = ((F i).1, (F i).2 ++ [box])) := by apply hid; rw [HFX.out]; unfold passStep; rw [hcc]; rfl
           obtain ⟨ao5, kc5, w5, hrun5, hfi5⟩ := STAYS.out wr HFI.out
           have HR5 := hid hrun5
           have HF5 := hid hfi5
           clear hrun5 hfi5
           go_wp2_with fail
           refine HCO.out.mono ?_
           rintro e w3 ⟨rfl, hw3⟩
           subst hw3
           go_wp2_with (first | (at_builtin; refine wpList_append_run rfl (.tmp 42) (.tmp 44) 39 rfl (.slice au (F i).2.length ku) (.slice (some ⟨w3.heap.size, 0, none⟩) 1 1) (.slice ao5 ((F i).2.length + 1) kc5) w5 rfl rfl HR5.out ?_) | fail)
           go_roundg (n - (i + 1))
           case measure => omega
           case rel =>
             refine ⟨i + 1, am, km, ao5, kc5, by omega, rfl, by go_num, ?_, ?_, ?_⟩
             · rw [HPS.out]
             · rw [HPS.out]; simp
             · rw [HPS.out]; simpa using HF5.out
         · rw [hcc] at HCO
           have hmp := HFI.out.mn.md.rm.cell
           have hlk := HFI.out.mn.md.rm.one box hbl
           have HKL : Hid ((nget (F i).1.1 box).key.length ≤ 100000) := by
             apply hid
             by_cases hk0 : (nget (F i).1.1 box).key = []
             · rw [hk0]; simp
             · obtain ⟨h66, m, hks⟩ := HBD.out.1.key box hk0
               have := (Tm.kids_right (HU.out.right box HBU.out) (by rw [hks]; simp : (nget (F i).1.1 box).key ∈ Tm.kidsOf 63 box)).2.2.1
               omega
           have HMK := hid (fun W (hW : Rm W p (some b) (F i).1.1) => makes_any W p (some b) (F i).1.1 (nget (F i).1.1 box).key hW HKL.out)
           have HPX : Hid (F (i + 1) = if mkF (F i).1.1 (nget (F i).1.1 box).key then (openF (F i).1 box, (F i).2) else ((F i).1, (F i).2 ++ [box])) := by
             apply hid; rw [HFX.out]; unfold passStep; rw [hcc]; rfl
           have HOP : Hid (mkF (F i).1.1 (nget (F i).1.1 box).key = true → ∀ W, Mn W p b (F i).1.1 (.slice am (F i).1.2.length km) (F i).1.2 → Calls Tryz.prog 60 #[.pointer (some ⟨p, 0, none⟩), St box, .slice am (F i).1.2.length km] W fun e w' => ∃ v', e = .returned v' ∧ Mn w' p b (openF (F i).1 box).1 v' (openF (F i).1 box).2 ∧ Kp W w' b (.slice am (F i).1.2.length km) v') := by
             apply hid
             intro hm W hW
             obtain ⟨hk, h66, m, hks⟩ := box_of HU.out HBD.out.1 hm
             exact open_any HU.out W p b (F i).1.1 _ (F i).1.2 hW HBD.out.1.dom box _ m HBU.out h66 hks rfl (by have := HBD.out.2.1; have := HB32.out; omega)
           have HOO : Hid (mkF (F i).1.1 (nget (F i).1.1 box).key = true → Ok U (openF (F i).1 box).1) := hid (fun hm => (openF_ok HU.out (l := (F i).1.2) HBD.out.1 HBU.out hm).1)
           generalize mkF (F i).1.1 (nget (F i).1.1 box).key = mk at HMK HPX HOP HOO
           generalize nget (F i).1.1 box = nt at hlk HMK
           obtain ⟨nh, nd, nk⟩ := nt
           simp only at HMK
           have hfd : ∀ W, Sem.run Tryz.prog (Instr.field 63 (.agg #[.bool nh, .bool nd, .string ⟨nk.toArray⟩]) 2) W = .ok (.string ⟨nk.toArray⟩) W := fun _ => rfl
           clear hcc HKL hbl
           go_wp2_with fail
           refine HCO.out.mono ?_
           rintro e w3 ⟨rfl, hw3⟩
           subst hw3
           go_wp2_with fail
           refine (HMK.out _ HFI.out.mn.md.rm).mono ?_
           rintro e w4 ⟨rfl, hb4⟩
           have HF4 := hid (HFI.out.below hb4)
           clear hb4 hmp hlk hfd
           cases mk
           · have HPS : Hid (F (i + 1) = ((F i).1, (F i).2 ++ [box])) := by apply hid; rw [HPX.out]; rfl
             obtain ⟨ao5, kc5, w5, hrun5, hfi5⟩ := STAYS.out w4 HF4.out
             have HR5 := hid hrun5
             have HF5 := hid hfi5
             clear hrun5 hfi5
             go_wp2_with (first | (at_builtin; refine wpList_append_run rfl (.tmp 42) (.tmp 44) 39 rfl (.slice au (F i).2.length ku) (.slice (some ⟨w4.heap.size, 0, none⟩) 1 1) (.slice ao5 ((F i).2.length + 1) kc5) w5 rfl rfl HR5.out ?_) | fail)
             go_roundg (n - (i + 1))
             case measure => omega
             case rel =>
               refine ⟨i + 1, am, km, ao5, kc5, by omega, rfl, by go_num, ?_, ?_, ?_⟩
               · rw [HPS.out]
               · rw [HPS.out]; simp
               · rw [HPS.out]; simpa using HF5.out
           · have HPS : Hid (F (i + 1) = (openF (F i).1 box, (F i).2)) := by apply hid; rw [HPX.out]; rfl
             have HO5 := hid (HOP.out rfl w4 HF4.out.mn)
             have HOK := hid (HOO.out rfl)
             go_wp2_with fail
             refine HO5.out.mono ?_
             rintro e w5 ⟨v5, rfl, hmn5, hkp5⟩
             have HF5 := hid (HF4.out.opened hmn5 hkp5 HOK.out)
             obtain ⟨am5, km5, hv5⟩ := own_shape hmn5.row
             subst hv5
             clear hmn5 hkp5
             go_wp2_with fail
             go_roundg (n - (i + 1))
             case measure => omega
             case rel =>
               refine ⟨i + 1, am5, km5, au, ku, by omega, rfl, by go_num, ?_, ?_, ?_⟩
               · rw [HPS.out]
               · rw [HPS.out]
               · rw [HPS.out]; exact HF5.out
       · obtain rfl : i = n := by omega
         have HFI1 := HFI
         clear HFI
         go_wp2_with fail
         go_roundg (2 * nu U (F i).1.1 + (if (F i).1.2 = [] then 0 else 1))
         case measure =>
           have h1 := (HFB.out i).2.1
           try rw [if_neg HNN.out]
           by_cases e : (F i).1.2 = []
           · rw [if_pos e]; omega
           · rw [if_neg e]; have := List.length_pos_iff.2 e; omega
         case rel =>
           have hfi := HFI1.out
           have hb := HFB.out i
           refine ⟨(F i).1.1, (F i).1.2, (F i).2, am, km, au, ku, rfl, rfl, rfl, ⟨hfi.mn, hfi.trow, hfi.a3.symm, ⟨hfi.kp.os, hfi.kp.tape, hfi.kp.output, hfi.kp.size, hfi.kp.block, fun g e => Or.inr (hfi.nt g e)⟩, hb.1, ?_, ?_, hfi.g0, ?_⟩, fun M hM => ?_⟩
           · rw [HN.out]; exact HFM.out.1
           · rw [HN.out]; exact HFM.out.2
           · have h2 := hb.2.1; have h3 := hb.2.2; have h4 := HSB2.out; omega
           · refine HFO.out M (Follow.step HNN.out ?_)
             rw [HN.out, HFE.out] at hM
             exact hM
end Go.Proofs.YtkifchjpgdmcoaaGreatDoor
