/- Following: boxes whose keys can be made are opened, till no more open. -/
import Derived.Test.YtfnnhekjeobicaaGreatDoorFollowF
namespace Go.Proofs.YtfnnhekjeobicaaGreatDoor
open Go.RowKit Go.Maps Go.WideElems

/-- two rows do not share a block -/
def Ap (v u : Value) : Prop := ∀ g, v.ownBlock = some g → u.ownBlock ≠ some g
theorem Ap.symm {v u : Value} (h : Ap v u) : Ap u v := fun g e e2 => h g e2 e
theorem ap_none (n : Nat) (u : Value) : Ap (.slice none 0 n) u := fun g e => by cases e
/-- rows that stay when one row grows -/
theorem Kp.row {w w' : World} {p b : Nat} {N : NM} (hM : Md w p b N) {v v' u : Value} (h : Kp w w' b v v') {n : Nat} {xs : List Value} (ho : w.ownsRow 0 29 1 u n xs) (ha : Ap u v) : w'.ownsRow 0 29 1 u n xs := by
  have hne := own_ne hM ho
  exact own_kept ho (fun i e => h.block i (own_lt ho e) (fun e2 => by subst e2; exact hne.2 e) (ha i e))
theorem Kp.ap {w w' : World} {b : Nat} {v v' u : Value} (h : Kp w w' b v v') {n : Nat} {xs : List Value} (ho : w.ownsRow 0 29 1 u n xs) (ha : Ap u v) : Ap u v' := fun g e e2 => by
  rcases h.own g e2 with e3 | e3
  · exact ha g e e3
  · have := own_lt ho e; omega

/-- a row behind a row -/
theorem append_row (W : World) (b : Nat) (v x : Value) (l r : List Bs) (hv : W.ownsRow 0 29 1 v l.length (l.map St)) (hx : W.ownsRow 0 29 1 x r.length (r.map St)) (hl : l.length + r.length < 1000000000000) :
    ∃ ao kc w', (∀ ty, (Builtin.append_ #[22, 22] ty #[v, x]).run Tryz.prog W = .ok (.slice ao (l ++ r).length kc) w') ∧ w'.ownsRow 0 29 1 (.slice ao (l ++ r).length kc) (l ++ r).length ((l ++ r).map St) ∧ Kp W w' b v (.slice ao (l ++ r).length kc) ∧ ∀ i, i < W.heap.size → v.ownBlock ≠ some i → w'.heap[i]? = W.heap[i]? := by
  obtain ⟨i0, hi, hz0, hz1, hz2⟩ := info_parts Tryz.info29
  by_cases h0 : 0 < r.length
  · obtain ⟨g, kc, rfl, _, _, hcs⟩ := row_cells hx h0
    obtain ⟨v', w', h1, h2, h3, _, h5⟩ := run_append_own_at (P := Tryz.prog) W 0 22 22 29 i0 _ 1 16 Tryz.underlying22 hi hz0 hz1 hz2 rfl (by decide) v l.length (l.map St) hv ⟨g, 0, none⟩ r.length kc (r.map St) (by simp) (fun j u hu => by
      have hj : j < r.length := by have := (List.getElem?_eq_some_iff.1 hu).1; simpa using this
      have e : (⟨g, 0, none⟩ : Addr).add j = ⟨g, j, none⟩ := by unfold Addr.add; split <;> simp_all
      rw [e, hcs j hj, ← hu]; simp [hj]) (fun u hu => by obtain ⟨x, _, rfl⟩ := List.mem_map.1 hu; rfl) (by unfold maxLen; omega) (by omega) (Nat.zero_le _)
    obtain ⟨ao, kc', rfl⟩ := own_shape h2
    have hs : ∀ i, i < W.heap.size → v.ownBlock ≠ some i → w'.heap[i]? = W.heap[i]? := fun k hk hne => h3.block k hk (fun e => hne e.symm)
    refine ⟨ao, kc', w', fun ty => by rw [List.length_append]; exact h1, by rw [List.length_append, List.map_append]; exact h2, ⟨h3.os, h3.tape, h3.output, h3.size, fun k hk _ hne => hs k hk hne, fun g' hg' => ?_⟩, hs⟩
    rw [List.length_append] at hg'
    rcases h5 with e | e
    · exact Or.inl (e ▸ hg')
    · right; rw [e] at hg'; cases hg'; exact Nat.le_refl _
  · obtain rfl : r = [] := List.eq_nil_of_length_eq_zero (by omega)
    obtain ⟨ao, kc, rfl⟩ := own_shape hv
    obtain ⟨ax, kx, rfl⟩ := own_shape hx
    have hrun : ∀ ty, (Builtin.append_ #[22, 22] ty #[.slice ao l.length kc, .slice ax ([] : List Bs).length kx]).run Tryz.prog W = .ok (.slice ao l.length kc) W := by
      intro ty
      rcases hv.2 with ⟨e, e2⟩ | ⟨g, cp, cur, e, _, _, hle, _⟩
      · obtain rfl : l = [] := List.eq_nil_of_length_eq_zero e2
        cases e
        cases ax <;> simp [Builtin.append_, Builtin.firstCells, run_underlying Tryz.underlying22, sizeOf, typeInfo, hi, Builtin.lenOf, go_sem]
      · cases e
        cases ax <;> simp [Builtin.append_, Builtin.firstCells, run_underlying Tryz.underlying22, sizeOf, typeInfo, hi, Builtin.lenOf, hle, storeCells, go_sem]
    exact ⟨ao, kc, W, by simpa using hrun, by simpa using hv, by simpa using Kp.refl W b _, fun i _ _ => rfl⟩

theorem own_zero {w : World} {base : Nat} {v : Value} {n : Nat} {xs : List Value} (h : w.ownsRow base 29 1 v n xs) : w.ownsRow 0 29 1 v n xs :=
  ⟨h.1, h.2.imp id (fun ⟨g, cap, cur, e1, _, e3⟩ => ⟨g, cap, cur, e1, Nat.zero_le _, e3⟩)⟩
/-- the library's variable lies in block 0 -/
def G0 (w : World) : Prop := ∃ m fr, w.heap[1]? = some (.cells #[.int .i64 m] 3 fr)
theorem G0.cell {w : World} (h : G0 w) : ∃ m, w.cell? ⟨1, 0, none⟩ = some (.int .i64 m) := by
  obtain ⟨m, fr, h⟩ := h
  exact ⟨m, by simp [World.cell?, h]⟩
theorem G0.lt {w : World} (h : G0 w) : 1 < w.heap.size := by obtain ⟨m, fr, h⟩ := h; exact lt_of_block h
theorem G0.below {w w' : World} (h : G0 w) (hb : Below w.heap.size w w') : G0 w' := by
  have hl := h.lt
  obtain ⟨m, fr, h⟩ := h
  exact ⟨m, fr, (hb.block 1 hl).trans h⟩
theorem G0.nb {w : World} (h : G0 w) {b : Nat} {N : NM} (ho : Om w b N) : (1 : Nat) ≠ b := by
  intro e
  obtain ⟨m, fr, h⟩ := h
  obtain ⟨n, D, ⟨es, clock, hb, _⟩, _⟩ := ho.own
  rw [← e, h] at hb
  cases hb
theorem G0.nv {w : World} (h : G0 w) {v : Value} {n : Nat} {xs : List Value} (ho : w.ownsRow 0 29 1 v n xs) : v.ownBlock ≠ some 1 := by
  intro e
  obtain ⟨m, fr, h⟩ := h
  rcases ho.2 with ⟨h1, h2⟩ | ⟨k, cap, cur, h1, h2, h3, _⟩
  · subst h1; cases e
  · subst h1; cases e; rw [h] at h3; cases h3
theorem G0.kp {w w' : World} (h : G0 w) {b : Nat} {N : NM} (hom : Om w b N) {v v' : Value} {n : Nat} {xs : List Value} (ho : w.ownsRow 0 29 1 v n xs) (hk : Kp w w' b v v') : G0 w' := by
  have hl := h.lt
  have hb := h.nb hom
  have hv := h.nv ho
  obtain ⟨m, fr, h⟩ := h
  exact ⟨m, fr, (hk.block 1 hl hb hv).trans h⟩

/-- what lies there ahead of a round -/
structure Fo (U : List Bs) (w0 : World) (vs0 : Value) (p b : Nat) (N : NM) (vn : Value) (news : List Bs) (vs : Value) (shut : List Bs) (w : World) : Prop where
  mn : Mn w p b N vn news
  row : w.ownsRow 0 29 1 vs shut.length (shut.map St)
  ap : Ap vn vs
  kp : Kp w0 w b vs0 vs
  ok : Ok U N
  nu' : ∀ x ∈ news, x ∈ U
  su : ∀ x ∈ shut, x ∈ U
  g0 : G0 w
  bd : shut.length + news.length + nu U N < 1000000000
/-- what lies there within a pass -/
structure Fi (U : List Bs) (w0 : World) (vs0 : Value) (p b : Nat) (s : NM × List Bs) (vm : Value) (vn : Value) (news : List Bs) (vs : Value) (shut : List Bs) (vt : Value) (still : List Bs) (w : World) : Prop where
  mn : Mn w p b s.1 vm s.2
  nrow : w.ownsRow 0 29 1 vn news.length (news.map St)
  srow : w.ownsRow 0 29 1 vs shut.length (shut.map St)
  trow : w.ownsRow 0 29 1 vt still.length (still.map St)
  a1 : Ap vn vm
  a2 : Ap vs vm
  a3 : Ap vt vm
  a4 : Ap vn vt
  a5 : Ap vs vt
  nm : ∀ g, vm.ownBlock = some g → w0.heap.size ≤ g
  nt : ∀ g, vt.ownBlock = some g → w0.heap.size ≤ g
  kp : Kp w0 w b vs0 vs
  ok : Ok U s.1
  g0 : G0 w
theorem Kp.after {w0 w w' : World} {b : Nat} {vs0 vs v v' : Value} (h : Kp w0 w b vs0 vs) (hk : Kp w w' b v v') (hn : ∀ g, v.ownBlock = some g → w0.heap.size ≤ g) : Kp w0 w' b vs0 vs :=
  ⟨hk.os.trans h.os, hk.tape.trans h.tape, hk.output.trans h.output, Nat.le_trans h.size hk.size, fun i hi hb hv => (hk.block i (Nat.lt_of_lt_of_le hi h.size) hb (fun e => by have := hn i e; omega)).trans (h.block i hi hb hv), h.own⟩
/-- the row of what was found grows, the notes change -/
theorem Fi.opened {U : List Bs} {w0 : World} {vs0 : Value} {p b : Nat} {s : NM × List Bs} {vm vn : Value} {news : List Bs} {vs : Value} {shut : List Bs} {vt : Value} {still : List Bs} {w w' : World} (h : Fi U w0 vs0 p b s vm vn news vs shut vt still w)
    {s' : NM × List Bs} {vm' : Value} (hmn : Mn w' p b s'.1 vm' s'.2) (hk : Kp w w' b vm vm') (hok : Ok U s'.1) : Fi U w0 vs0 p b s' vm' vn news vs shut vt still w' :=
  ⟨hmn, hk.row h.mn.md h.nrow h.a1, hk.row h.mn.md h.srow h.a2, hk.row h.mn.md h.trow h.a3, hk.ap h.nrow h.a1, hk.ap h.srow h.a2, hk.ap h.trow h.a3, h.a4, h.a5,
    fun g e => (hk.own g e).elim (fun e2 => h.nm g e2) (fun e2 => Nat.le_trans h.kp.size e2), h.nt, h.kp.after hk h.nm, hok, h.g0.kp h.mn.md.om h.mn.row hk⟩
/-- the row of what stays shut grows -/
theorem Fi.stays {U : List Bs} {w0 : World} {vs0 : Value} {p b : Nat} {s : NM × List Bs} {vm vn : Value} {news : List Bs} {vs : Value} {shut : List Bs} {vt : Value} {still : List Bs} {w w' : World} (h : Fi U w0 vs0 p b s vm vn news vs shut vt still w)
    {vt' : Value} {still' : List Bs} (hrow : w'.ownsRow 0 29 1 vt' still'.length (still'.map St)) (hk : Kp w w' b vt vt') (hs : ∀ i, i < w.heap.size → vt.ownBlock ≠ some i → w'.heap[i]? = w.heap[i]?) : Fi U w0 vs0 p b s vm vn news vs shut vt' still' w' := by
  have hne := own_ne h.mn.md h.trow
  refine ⟨⟨h.mn.md.kp hne.1 hne.2 h.mn.md.ne hk (hs b h.mn.md.om.lt hne.2), hk.row h.mn.md h.mn.row h.a3.symm⟩, hk.row h.mn.md h.nrow h.a4, hk.row h.mn.md h.srow h.a5, hrow, h.a1, h.a2, (hk.ap h.mn.row h.a3.symm).symm, hk.ap h.nrow h.a4, hk.ap h.srow h.a5, h.nm,
    fun g e => (hk.own g e).elim (fun e2 => h.nt g e2) (fun e2 => Nat.le_trans h.kp.size e2), h.kp.after hk h.nt, h.ok, h.g0.kp h.mn.md.om h.trow hk⟩
theorem Fi.below {U : List Bs} {w0 : World} {vs0 : Value} {p b : Nat} {s : NM × List Bs} {vm vn : Value} {news : List Bs} {vs : Value} {shut : List Bs} {vt : Value} {still : List Bs} {w w' : World} (h : Fi U w0 vs0 p b s vm vn news vs shut vt still w) (hb : Below w.heap.size w w') : Fi U w0 vs0 p b s vm vn news vs shut vt still w' :=
  ⟨h.mn.below hb, own_below h.nrow hb, own_below h.srow hb, own_below h.trow hb, h.a1, h.a2, h.a3, h.a4, h.a5, h.nm, h.nt, h.kp.below hb, h.ok, h.g0.below hb⟩

theorem pass_bound {U : List Bs} (hU : Uni U) (news : List Bs) : ∀ (l : List Bs) (s : (NM × List Bs) × List Bs), (∀ x ∈ l, x ∈ U) → Ok U s.1.1 →
    Ok U (l.foldl (passStep news) s).1.1 ∧ (l.foldl (passStep news) s).1.2.length + nu U (l.foldl (passStep news) s).1.1 ≤ s.1.2.length + nu U s.1.1 ∧ (l.foldl (passStep news) s).2.length ≤ s.2.length + l.length
  | [], s, _, h => ⟨h, Nat.le_refl _, by simp⟩
  | box :: l, s, hl, h => by
    have step : Ok U (passStep news s box).1.1 ∧ (passStep news s box).1.2.length + nu U (passStep news s box).1.1 ≤ s.1.2.length + nu U s.1.1 ∧ (passStep news s box).2.length ≤ s.2.length + 1 := by
      unfold passStep
      split
      · rename_i hc
        simp only [Bool.and_eq_true] at hc
        obtain ⟨h1, h2⟩ := openF_ok hU (l := s.1.2) h (hl box (by simp)) hc.2
        exact ⟨h1, h2, by simp⟩
      · exact ⟨h, Nat.le_refl _, by simp⟩
    obtain ⟨h1, h2, h3⟩ := pass_bound hU news l (passStep news s box) (fun x hx => hl x (by simp [hx])) step.1
    refine ⟨h1, Nat.le_trans h2 step.2.1, ?_⟩
    have := step.2.2
    simp only [List.foldl_cons, List.length_cons]
    omega
theorem takeF_mem {U : List Bs} (hU : Uni U) : ∀ (n : Nat) (N : NM) (l : List Bs) (t : Bs), t ∈ U → (∀ x ∈ l, x ∈ U) → ∀ x ∈ (takeF n (N, l) t).2, x ∈ U
  | 0, N, l, t, _, h => h
  | n + 1, N, l, t, ht, h => by
    have h1 : ∀ x ∈ l ++ [t], x ∈ U := fun x hx => by rcases List.mem_append.1 hx with hx | hx; exact h x hx; simp at hx; subst hx; exact ht
    rw [takeF]
    split
    · exact h
    · split
      · rename_i hh
        have key : ∀ (ks : List Bs) (s : NM × List Bs), (∀ k ∈ ks, k ∈ U) → (∀ x ∈ s.2, x ∈ U) → ∀ x ∈ (ks.foldl (takeF n) s).2, x ∈ U := by
          intro ks
          induction ks with
          | nil => intro s _ hs; exact hs
          | cons k ks ih => intro s hk hs; exact ih _ (fun x hx => hk x (by simp [hx])) (takeF_mem hU n s.1 s.2 k (hk k (by simp)) hs)
        exact key _ _ (hU.tup t ht hh) h1
      · split
        · rename_i hh
          unfold takeKeyF
          split
          · exact h1
          · rename_i h2
            have h3 : (pubRes t).2 = 0 := Classical.byContradiction (fun e => h2 (Or.inr e))
            intro x hx
            rcases List.mem_append.1 hx with hx | hx
            · exact h1 x hx
            · simp at hx; subst hx; exact hU.key t ht hh h3
        · split <;> exact h1
theorem pass_mem {U : List Bs} (hU : Uni U) (news : List Bs) : ∀ (l : List Bs) (s : (NM × List Bs) × List Bs), (∀ x ∈ l, x ∈ U) → Ok U s.1.1 → (∀ x ∈ s.1.2, x ∈ U) → (∀ x ∈ s.2, x ∈ U) →
    (∀ x ∈ (l.foldl (passStep news) s).1.2, x ∈ U) ∧ ∀ x ∈ (l.foldl (passStep news) s).2, x ∈ U
  | [], s, _, _, h1, h2 => ⟨h1, h2⟩
  | box :: l, s, hl, h, h1, h2 => by
    have hb := hl box (by simp)
    have step : Ok U (passStep news s box).1.1 ∧ (∀ x ∈ (passStep news s box).1.2, x ∈ U) ∧ ∀ x ∈ (passStep news s box).2, x ∈ U := by
      unfold passStep
      split
      · rename_i hc
        simp only [Bool.and_eq_true] at hc
        refine ⟨(openF_ok hU (l := s.1.2) h hb hc.2).1, ?_, h2⟩
        obtain ⟨hk, h66, m, hks⟩ := box_of hU h hc.2
        have hub : unboxRes (nget s.1.1 box).key box = (m, true) := by unfold unboxRes; rw [if_pos ⟨hU.right box hb, h66⟩, hks]; simp
        unfold openF
        rw [hub]
        exact takeF_mem hU 64 _ _ m (hU.box box hb h66 _ m hks) h1
      · refine ⟨h, h1, fun x hx => ?_⟩
        rcases List.mem_append.1 hx with hx | hx
        · exact h2 x hx
        · simp at hx; subst hx; exact hb
    exact pass_mem hU news l (passStep news s box) (fun x hx => hl x (by simp [hx])) step.1 step.2.1 step.2.2
theorem boxesF_mem {U : List Bs} {N : NM} {l : List Bs} (h : ∀ x ∈ l, x ∈ U) : ∀ x ∈ boxesF N l, x ∈ U := fun x hx => h x ((List.mem_filter.1 hx).1)
end Go.Proofs.YtfnnhekjeobicaaGreatDoor
