import Derived.Test.YtkifchjpgdmcoaaGreatDoorKidsAll
/- What is noted of a term that was heard: takeKey. -/
namespace Go.Proofs.YtkifchjpgdmcoaaGreatDoor
open Go.RowKit Go.Maps Go.WideElems

/-- what may change: the notes' block, a row's own block; what is new -/
structure Kp (w w' : World) (b : Nat) (v v' : Value) : Prop where
  os : w'.os = w.os
  tape : w'.tape = w.tape
  output : w'.output = w.output
  size : w.heap.size ≤ w'.heap.size
  block : ∀ i, i < w.heap.size → i ≠ b → v.ownBlock ≠ some i → w'.heap[i]? = w.heap[i]?
  own : ∀ g, v'.ownBlock = some g → v.ownBlock = some g ∨ w.heap.size ≤ g
theorem Kp.refl (w : World) (b : Nat) (v : Value) : Kp w w b v v := ⟨rfl, rfl, rfl, Nat.le_refl _, fun _ _ _ _ => rfl, fun _ h => Or.inl h⟩
theorem Kp.trans {w w1 w2 : World} {b : Nat} {v v1 v2 : Value} (h : Kp w w1 b v v1) (k : Kp w1 w2 b v1 v2) : Kp w w2 b v v2 := by
  refine ⟨k.os.trans h.os, k.tape.trans h.tape, k.output.trans h.output, Nat.le_trans h.size k.size, fun i hi hb hv => ?_, fun g hg => ?_⟩
  · refine (k.block i (Nat.lt_of_lt_of_le hi h.size) hb (fun e => ?_)).trans (h.block i hi hb hv)
    rcases h.own i e with e | e
    · exact hv e
    · omega
  · rcases k.own g hg with e | e
    · exact h.own g e
    · exact Or.inr (Nat.le_trans h.size e)
theorem Kp.below {w w1 w2 : World} {b : Nat} {v v' : Value} (h : Kp w w1 b v v') (hb : Below w1.heap.size w1 w2) : Kp w w2 b v v' :=
  ⟨hb.os.trans h.os, hb.tape.trans h.tape, hb.output.trans h.output, Nat.le_trans h.size hb.size, fun i hi hb' hv => (hb.block i (Nat.lt_of_lt_of_le hi h.size)).trans (h.block i hi hb' hv), h.own⟩
theorem Kp.of_below {w w1 : World} (b : Nat) (v : Value) (hb : Below w.heap.size w w1) : Kp w w1 b v v := (Kp.refl w b v).below hb
theorem Kp.map {w w1 : World} {b : Nat} (v : Value) (hg : w.grownBy w1 (some b)) : Kp w w1 b v v :=
  ⟨hg.os, hg.tape, hg.output, hg.size, fun i hi hb _ => hg.block i hi (fun e => hb (by cases e; rfl)), fun _ h => Or.inl h⟩

/-- one text more, and where the row lies then -/
theorem append_kp (W : World) (b : Nat) (v : Value) (l : List Bs) (t : Bs) (hown : W.ownsRow 0 22 1 v l.length (l.map St)) (hl : l.length < 1000000000000) :
    ∃ ao kc w', (∀ ty, (Builtin.append_ #[39, 39] ty #[v, .slice (some ⟨W.heap.size, 0, none⟩) 1 1]).run Tryz.prog (W.alloc (.cells #[St t] 22)) = .ok (.slice ao (l.length + 1) kc) w') ∧ w'.ownsRow 0 22 1 (.slice ao (l.length + 1) kc) (l ++ [t]).length ((l ++ [t]).map St) ∧ Kp W w' b v (.slice ao (l.length + 1) kc) ∧ ∀ i, i < W.heap.size → v.ownBlock ≠ some i → w'.heap[i]? = W.heap[i]? := by
  obtain ⟨i0, hi, hz0, hz1, hz2⟩ := info_parts Tryz.info22
  obtain ⟨v', w', h1, h2, h3, _, h5⟩ := run_append_own_at (P := Tryz.prog) (W.alloc (.cells #[St t] 22)) 0 39 39 22 i0 _ 1 16 Tryz.underlying39 hi hz0 hz1 hz2 rfl (by decide) v l.length (l.map St) (hown.alloc _) ⟨W.heap.size, 0, none⟩ 1 1 [St t] rfl (cell_one_new W _ _) (fun u hu => by simp at hu; subst hu; rfl) (by unfold maxLen; omega) (by omega) (Nat.zero_le _)
  have h4 : ∃ ao kc, v' = .slice ao (l.length + 1) kc := by
    rcases h2.2 with ⟨_, e⟩ | ⟨g, cap, _, e, _⟩
    · omega
    · exact ⟨_, _, e⟩
  obtain ⟨ao, kc, rfl⟩ := h4
  have hs : ∀ i, i < W.heap.size → v.ownBlock ≠ some i → w'.heap[i]? = W.heap[i]? := fun k hk hne => by
    rw [h3.block k (by simp; omega) (fun e => hne e.symm)]; exact Below.heap_alloc W _ k hk
  refine ⟨ao, kc, w', fun ty => h1, by simpa using h2, ⟨h3.os, h3.tape, h3.output, ?_, fun k hk _ hne => hs k hk hne, fun g hg => ?_⟩, hs⟩
  · have := h3.size; simp at this; omega
  · rcases h5 with e | e
    · exact Or.inl (e ▸ hg)
    · right; rw [e] at hg; cases hg; simp
theorem Md.rm {w : World} {p b : Nat} {N : NM} (h : Md w p b N) : Rm w p (some b) N := ⟨h.ptr, h.om⟩
theorem Md.below {w w' : World} {p b : Nat} {N : NM} (h : Md w p b N) (hb : Below w.heap.size w w') : Md w' p b N := ⟨(h.rm.below hb).ptr, (h.rm.below hb).om⟩
/-- a row is neither a mind nor its notes -/
theorem own_ne {w : World} {p b : Nat} {N : NM} {v : Value} {n : Nat} {xs : List Value} (h : Md w p b N) (ho : w.ownsRow 0 22 1 v n xs) : v.ownBlock ≠ some p ∧ v.ownBlock ≠ some b := by
  have key : ∀ g, v.ownBlock = some g → ∃ cur, w.heap[g]? = some (.cells cur 22 (0, 0)) := by
    intro g e
    rcases ho.2 with ⟨h1, h2⟩ | ⟨k, cap, cur, h1, h2, h3, _⟩
    · subst h1; cases e
    · subst h1; cases e; exact ⟨cur, h3⟩
  refine ⟨fun e => ?_, fun e => ?_⟩
  · obtain ⟨cur, hc⟩ := key p e
    rw [h.ptr] at hc
    cases hc
  · obtain ⟨cur, hc⟩ := key b e
    obtain ⟨n, D, ⟨es, clock, hb, _⟩, _⟩ := h.om.own
    rw [hb] at hc
    cases hc
theorem Md.kp {w w' : World} {p b : Nat} {N : NM} {v v' : Value} (h : Md w p b N) (hp : v.ownBlock ≠ some p) (_hb : v.ownBlock ≠ some b) (hn : p ≠ b) (hk : Kp w w' b v v') (hs : w'.heap[b]? = w.heap[b]?) : Md w' p b N :=
  ⟨(hk.block p (lt_of_block h.ptr) hn hp).trans h.ptr, h.om.same hs⟩
theorem Md.ne {w : World} {p b : Nat} {N : NM} (h : Md w p b N) : p ≠ b := by
  intro e
  obtain ⟨n, D, ⟨es, clock, hb, _⟩, _⟩ := h.om.own
  rw [← e, h.ptr] at hb
  cases hb
theorem own_kept {w w' : World} {v : Value} {n : Nat} {xs : List Value} (ho : w.ownsRow 0 22 1 v n xs) (h : ∀ i, v.ownBlock = some i → w'.heap[i]? = w.heap[i]?) : w'.ownsRow 0 22 1 v n xs := by
  refine ⟨ho.1, ?_⟩
  rcases ho.2 with h2 | ⟨g, cap, cur, e1, e2, e3, e4⟩
  · exact Or.inl h2
  · exact Or.inr ⟨g, cap, cur, e1, e2, by rw [h g (by rw [e1]; rfl)]; exact e3, e4⟩
theorem own_lt {w : World} {v : Value} {n : Nat} {xs : List Value} (ho : w.ownsRow 0 22 1 v n xs) {g : Nat} (e : v.ownBlock = some g) : g < w.heap.size := (own_ge ho e).2
theorem own_below {w w' : World} {v : Value} {n : Nat} {xs : List Value} (ho : w.ownsRow 0 22 1 v n xs) (hb : Below w.heap.size w w') : w'.ownsRow 0 22 1 v n xs := own_kept ho (fun i e => hb.block i (own_lt ho e))

/-- all that may be noted -/
structure Uni (U : List Bs) : Prop where
  len : U.length < 100000000
  right : ∀ t ∈ U, Tm.deep t ≠ 0
  tup : ∀ t ∈ U, t.head? = some 84 → ∀ k ∈ Tm.kidsOf 63 t, k ∈ U
  key : ∀ t ∈ U, t.head? = some 86 ∨ t.head? = some 75 → (pubRes t).2 = 0 → (pubRes t).1 ∈ U
  box : ∀ t ∈ U, t.head? = some 66 → ∀ k m, Tm.kidsOf 63 t = [k, m] → m ∈ U
def Dom (N : NM) (U : List Bs) : Prop := ∀ t, (N t).isSome = true → t ∈ U
theorem Dom.put {N : NM} {U : List Bs} (h : Dom N U) {t : Bs} (ht : t ∈ U) (m : Note) : Dom (nput N t m) U := by
  intro s hs
  unfold nput at hs
  by_cases e : s = t
  · subst e; exact ht
  · rw [if_neg e] at hs; exact h s hs
/-- the notes and a row, both as they lie there -/
structure Mn (w : World) (p b : Nat) (N : NM) (v : Value) (l : List Bs) : Prop where
  md : Md w p b N
  row : w.ownsRow 0 22 1 v l.length (l.map St)

/-- what takeKey notes -/
def takeKeyF (s : NM × List Bs) (t : Bs) : NM × List Bs :=
  if (s.1 (pubRes t).1).isSome = true ∨ (pubRes t).2 ≠ 0 then s else (nput s.1 (pubRes t).1 nz, s.2 ++ [(pubRes t).1])

set_option maxRecDepth 100000 in
set_option maxHeartbeats 4000000 in
theorem takeKey_any (w : World) (p b : Nat) (N : NM) (v : Value) (l : List Bs) (h : Mn w p b N v l) (U : List Bs) (hU : Dom N U) (hUl : U.length < 100000000000) (hl : l.length < 100000000000) (t : Bs) (ht : t.length ≤ 100000) :
    Calls Tryz.prog 62 #[.pointer (some ⟨p, 0, none⟩), St t, v] w fun e w' => ∃ v', e = .returned v' ∧ Mn w' p b (takeKeyF (N, l) t).1 v' (takeKeyF (N, l) t).2 ∧ Kp w w' b v v' := by
  have HC := hid (fun W => pubs_any t W)
  have HPL := hid (pub_len t ht)
  have HE : Hid (takeKeyF (N, l) t = if (N (pubRes t).1).isSome = true ∨ (pubRes t).2 ≠ 0 then (N, l) else (nput N (pubRes t).1 nz, l ++ [(pubRes t).1])) := hid rfl
  obtain ⟨ao, kc, hv⟩ := own_shape h.row
  subst hv
  have HM := hid h
  have HUD := hid hU
  have HUL := hid hUl
  have HLL := hid hl
  clear h ht hU hUl hl
  generalize takeKeyF (N, l) t = res at HE ⊢
  generalize pubRes t = r at HC HPL HE
  obtain ⟨q, er⟩ := r
  unfold made at HC
  simp only at HC HPL HE
  go_enter Tryz.func62, Tryz.ntmps62
  go_wp2_with fail
  refine (HC.out _).mono ?_
  rintro e w1 ⟨rfl, hb1⟩
  have HB1 := hid hb1
  have HM1 := hid (HM.out.md.below hb1)
  have HO1 := hid (own_below HM.out.row hb1)
  have hcell := HM1.out.rm.cell
  have hlk := HM1.out.rm.ok q HPL.out
  clear hb1 HC
  generalize hnt : nget N q = nt at hlk
  clear hnt
  have HB2 : Hid (Below w1.heap.size w1 (w1.alloc (.cells #[.bool nt.heard, .bool nt.held, .string ⟨nt.key.toArray⟩] 63))) := hid ((Below.refl _ _).alloc (Nat.le_refl _) _)
  have HM2 := hid (HM1.out.below HB2.out)
  have HO2 := hid (own_below HO1.out HB2.out)
  have HK2 := hid ((Kp.of_below b (.slice ao l.length kc) HB1.out).below HB2.out)
  cases hN : (N q).isSome
  · rw [hN] at hlk
    have HNN := hid hN
    clear hN
    by_cases he : er = 0
    · subst he
      have hcell2 := HM2.out.rm.cell
      obtain ⟨w3, hup, hom3, hg3⟩ := HM2.out.om.store U HUD.out (by have := HUL.out; omega) q HPL.out nz
      have HM3 : Hid (Md w3 p b (nput N q nz)) := hid ⟨(hg3.block p HM2.out.rm.lt (fun e => by cases e; exact HM2.out.ne rfl)).trans HM2.out.ptr, hom3⟩
      have HN2 := hid (own_ne HM2.out HO2.out)
      have HO3 : Hid (w3.ownsRow 0 22 1 (.slice ao l.length kc) l.length (l.map St)) := hid (own_kept HO2.out (fun i e => hg3.block i (own_lt HO2.out e) (fun e2 => by cases e2; exact HN2.out.2 e)))
      have HK3 := hid (HK2.out.trans (Kp.map (.slice ao l.length kc) hg3))
      obtain ⟨ao4, kc4, w4, hrun, hown4, hk4, hs4⟩ := append_kp w3 b (.slice ao l.length kc) l q HO3.out (by have := HLL.out; omega)
      have HR4 := hid hrun
      have HN3 := hid (own_ne HM3.out HO3.out)
      have HM4 : Hid (Md w4 p b (nput N q nz)) := hid (HM3.out.kp HN3.out.1 HN3.out.2 HM3.out.ne hk4 (hs4 b HM3.out.om.lt HN3.out.2))
      have hup' : (Instr.mapUpdate 59 (.map (some b)) (St q) (.agg #[.bool false, .bool false, .string ⟨#[]⟩])).run Tryz.prog (w1.alloc (.cells #[.bool nt.heard, .bool nt.held, .string ⟨nt.key.toArray⟩] 63)) = .ok () w3 := hup
      have HO4 := hid hown4
      have HK4 := hid (HK3.out.trans hk4)
      have HER : Hid (res = (nput N q nz, l ++ [q])) := by apply hid; rw [HE.out, if_neg (by rw [HNN.out]; simp)]
      clear hrun hup hom3 hg3 hown4 hk4 hs4
      go_wp2_with (first | (at_builtin; refine wpList_append_run rfl (.tmp 37) (.tmp 39) 39 rfl (.slice ao l.length kc) (.slice (some ⟨w3.heap.size, 0, none⟩) 1 1) (.slice ao4 (l.length + 1) kc4) w4 rfl rfl HR4.out ?_) | go_in)
 
      go_ret
      rw [HER.out]
      exact ⟨_, rfl, ⟨HM4.out, HO4.out⟩, HK4.out⟩
    · have he' : ¬ (er : Int) = 0 := by omega
      have HEN := hid he
      clear he
      go_wp2_with fail
      go_ret
      rw [HE.out, if_pos (Or.inr HEN.out)]
      exact ⟨_, rfl, ⟨HM2.out, HO2.out⟩, HK2.out⟩
  · rw [hN] at hlk
    go_wp2_with fail
    go_ret
    rw [HE.out, if_pos (Or.inl hN)]
    exact ⟨_, rfl, ⟨HM2.out, HO2.out⟩, HK2.out⟩
end Go.Proofs.YtkifchjpgdmcoaaGreatDoor

/- What take notes, as a function; its bounds. -/
namespace Go.Proofs.YtkifchjpgdmcoaaGreatDoor

/-- what take notes -/
def takeF : Nat → NM × List Bs → Bs → NM × List Bs
  | 0, s, _ => s
  | n + 1, s, t =>
    if (nget s.1 t).held = true then s
    else if t.head? = some 84 then (Tm.kidsOf 63 t).foldl (takeF n) (nput s.1 t ⟨(nget s.1 t).heard, true, (nget s.1 t).key⟩, s.2 ++ [t])
    else if t.head? = some 86 ∨ t.head? = some 75 then takeKeyF (nput s.1 t ⟨(nget s.1 t).heard, true, (nget s.1 t).key⟩, s.2 ++ [t]) t
    else if t.head? = some 66 then (nput s.1 t ⟨(nget s.1 t).heard, true, (Tm.kidsOf 63 t).headD []⟩, s.2 ++ [t])
    else (nput s.1 t ⟨(nget s.1 t).heard, true, (nget s.1 t).key⟩, s.2 ++ [t])

theorem takeKeyF_dom {N : NM} {l : List Bs} {U : List Bs} (hU : Uni U) (hD : Dom N U) {t : Bs} (ht : t ∈ U) (hh : t.head? = some 86 ∨ t.head? = some 75) : Dom (takeKeyF (N, l) t).1 U ∧ (takeKeyF (N, l) t).2.length ≤ l.length + 1 := by
  unfold takeKeyF
  split
  · exact ⟨hD, by simp⟩
  · rename_i h
    have h2 : (pubRes t).2 = 0 := Classical.byContradiction (fun e => h (Or.inr e))
    exact ⟨hD.put (hU.key t ht hh h2) nz, by simp⟩

theorem kidsN_sum (f : Bs → Option (Nat × Bs)) (hf : ∀ l d r, f l = some (d, r) → ∃ p, l = p ++ r ∧ p ≠ []) : ∀ (k : Nat) (l : Bs), ((Tm.kidsN f k l).map List.length).sum ≤ l.length
  | 0, _ => by simp [Tm.kidsN]
  | k + 1, l => by
    rw [Tm.kidsN]
    match hg : f l with
    | none => simp
    | some (d, r) =>
      obtain ⟨p, rfl, _⟩ := hf l d r hg
      have := kidsN_sum f hf k r
      simp only [List.map_cons, List.sum_cons, Tm.used_app, List.length_append]
      omega
theorem rd_front {n : Nat} : ∀ l d r, Tm.rd n l = some (d, r) → ∃ p, l = p ++ r ∧ p ≠ [] := by
  intro l d r h
  obtain ⟨p, e, _, hi⟩ := Tm.rd_good n _ _ _ h
  exact ⟨p, e, hi.2.1⟩
theorem kids_sum {t : Bs} (hh : t.head? = some 84) : ((Tm.kidsOf 63 t).map List.length).sum + 1 ≤ t.length := by
  match t, hh with
  | c :: l, hh =>
    simp at hh
    subst hh
    have e : Tm.kidsOf 63 (84 :: l) = Tm.tupleK (Tm.rd 63) l := rfl
    rw [e]
    unfold Tm.tupleK
    match hg : Tm.num 58 l with
    | none => simp
    | some (k, r) =>
      obtain ⟨p, hp, rfl, _⟩ := Tm.num_app hg
      have := kidsN_sum (Tm.rd 63) rd_front k r
      simp only [List.length_cons, List.length_append]
      omega

theorem fold_bound {U : List Bs} {n : Nat} (ih : ∀ (N : NM) (l : List Bs) (t : Bs), Dom N U → t ∈ U → Dom (takeF n (N, l) t).1 U ∧ (takeF n (N, l) t).2.length ≤ l.length + 2 * t.length) :
    ∀ (ks : List Bs) (N : NM) (l : List Bs), Dom N U → (∀ k ∈ ks, k ∈ U) → Dom (ks.foldl (takeF n) (N, l)).1 U ∧ (ks.foldl (takeF n) (N, l)).2.length ≤ l.length + 2 * (ks.map List.length).sum
  | [], N, l, hD, _ => ⟨hD, by simp⟩
  | k :: ks, N, l, hD, hk => by
    obtain ⟨h1, h2⟩ := ih N l k hD (hk k (by simp))
    obtain ⟨h3, h4⟩ := fold_bound ih ks (takeF n (N, l) k).1 (takeF n (N, l) k).2 h1 (fun x hx => hk x (by simp [hx]))
    simp only [List.foldl_cons, List.map_cons, List.sum_cons]
    exact ⟨h3, by rw [show takeF n (N, l) k = ((takeF n (N, l) k).1, (takeF n (N, l) k).2) from rfl]; omega⟩
theorem take_bound {U : List Bs} (hU : Uni U) : ∀ (n : Nat) (N : NM) (l : List Bs) (t : Bs), Dom N U → t ∈ U → Dom (takeF n (N, l) t).1 U ∧ (takeF n (N, l) t).2.length ≤ l.length + 2 * t.length
  | 0, N, l, t, hD, _ => ⟨hD, by simp [takeF]⟩
  | n + 1, N, l, t, hD, ht => by
    have hpos : 1 ≤ t.length := by
      cases t with | nil => exact absurd (by decide) (hU.right [] ht) | cons a b => simp
    rw [takeF]
    split
    · exact ⟨hD, by simp⟩
    · split
      · rename_i hh
        obtain ⟨h1, h2⟩ := fold_bound (take_bound hU n) (Tm.kidsOf 63 t) _ (l ++ [t]) (hD.put ht ⟨(nget N t).heard, true, (nget N t).key⟩) (hU.tup t ht hh)
        refine ⟨h1, Nat.le_trans h2 ?_⟩
        have := kids_sum hh
        simp
        omega
      · split
        · rename_i hh
          obtain ⟨h1, h2⟩ := takeKeyF_dom (l := l ++ [t]) hU (hD.put ht ⟨(nget N t).heard, true, (nget N t).key⟩) ht hh
          refine ⟨h1, Nat.le_trans h2 ?_⟩
          simp
          omega
        · split
          · exact ⟨hD.put ht _, by simp; omega⟩
          · exact ⟨hD.put ht _, by simp; omega⟩
end Go.Proofs.YtkifchjpgdmcoaaGreatDoor
