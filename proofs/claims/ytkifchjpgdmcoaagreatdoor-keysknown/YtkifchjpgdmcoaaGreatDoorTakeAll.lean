import Derived.Test.YtkifchjpgdmcoaaGreatDoorMakesC
/- What is noted of a term that was heard: takeKey. -/
namespace Go.Proofs.YtkifchjpgdmcoaaGreatDoor
open Go.RowKit Go.Maps Go.WideElems
structure Kp (w w' : World) (b : Nat) (v v' : Value) : Prop where
 os : w'.os = w.os
 tape : w'.tape = w.tape
 output : w'.output = w.output
 size : w.heap.size ≤ w'.heap.size
 block : ∀ i, i < w.heap.size → i ≠ b → v.ownBlock ≠ some i → w'.heap[i]? = w.heap[i]?
 own : ∀ g, v'.ownBlock = some g → v.ownBlock = some g ∨ w.heap.size ≤ g
theorem Kp.refl (w : World) (b : Nat) (v : Value) : Kp w w b v v := ⟨rfl, rfl, rfl, Nat.le_refl _, fun _ _ _ _ => rfl, fun _ h => Or.inl h⟩
theorem Kp.trans {w w1 w2 : World} {b : Nat} {v v1 v2 : Value} (h : Kp w w1 b v v1) (k : Kp w1 w2 b v1 v2) : Kp w w2 b v v2 := by
 refine ⟨k.os.trans h.os, k.tape.trans h.tape, k.output.trans h.output, Nat.le_trans h.size k.size, fun i hi hb hv => ?_, fun g hg => ?_⟩
 · refine (k.block i (Nat.lt_of_lt_of_le hi h.size) hb (fun e => ?_)).trans (h.block i hi hb hv)
   rcases h.own i e with e | e
   · exact hv e
   · omega
 · rcases k.own g hg with e | e
   · exact h.own g e
   · exact Or.inr (Nat.le_trans h.size e)
theorem Kp.below {w w1 w2 : World} {b : Nat} {v v' : Value} (h : Kp w w1 b v v') (hb : Below w1.heap.size w1 w2) : Kp w w2 b v v' :=
 ⟨hb.os.trans h.os, hb.tape.trans h.tape, hb.output.trans h.output, Nat.le_trans h.size hb.size, fun i hi hb' hv => (hb.block i (Nat.lt_of_lt_of_le hi h.size)).trans (h.block i hi hb' hv), h.own⟩
theorem Kp.of_below {w w1 : World} (b : Nat) (v : Value) (hb : Below w.heap.size w w1) : Kp w w1 b v v := (Kp.refl w b v).below hb
theorem Kp.map {w w1 : World} {b : Nat} (v : Value) (hg : w.grownBy w1 (some b)) : Kp w w1 b v v :=
 ⟨hg.os, hg.tape, hg.output, hg.size, fun i hi hb _ => hg.block i hi (fun e => hb (by cases e; rfl)), fun _ h => Or.inl h⟩
theorem append_kp (W : World) (b : Nat) (v : Value) (l : List Bs) (t : Bs) (hown : W.ownsRow 0 22 1 v l.length (l.map St)) (hl : l.length < 1000000000000) :
   ∃ ao kc w', (∀ ty, (Builtin.append_ #[39, 39] ty #[v, .slice (some ⟨W.heap.size, 0, none⟩) 1 1]).run Tryz.prog (W.alloc (.cells #[St t] 22)) = .ok (.slice ao (l.length + 1) kc) w') ∧ w'.ownsRow 0 22 1 (.slice ao (l.length + 1) kc) (l ++ [t]).length ((l ++ [t]).map St) ∧ Kp W w' b v (.slice ao (l.length + 1) kc) ∧ ∀ i, i < W.heap.size → v.ownBlock ≠ some i → w'.heap[i]? = W.heap[i]? := by
 obtain ⟨i0, hi, hz0, hz1, hz2⟩ := info_parts Tryz.info22
 obtain ⟨v', w', h1, h2, h3, _, h5⟩ := run_append_own_at (P := Tryz.prog) (W.alloc (.cells #[St t] 22)) 0 39 39 22 i0 _ 1 16 Tryz.underlying39 hi hz0 hz1 hz2 rfl (by decide) v l.length (l.map St) (hown.alloc _) ⟨W.heap.size, 0, none⟩ 1 1 [St t] rfl (cell_one_new W _ _) (fun u hu => by simp at hu; subst hu; rfl) (by unfold maxLen; omega) (by omega) (Nat.zero_le _)
 have h4 : ∃ ao kc, v' = .slice ao (l.length + 1) kc := by
   rcases h2.2 with ⟨_, e⟩ | ⟨g, cap, _, e, _⟩
   · omega
   · exact ⟨_, _, e⟩
 obtain ⟨ao, kc, rfl⟩ := h4
 have hs : ∀ i, i < W.heap.size → v.ownBlock ≠ some i → w'.heap[i]? = W.heap[i]? := fun k hk hne => by
   rw [h3.block k (by simp; omega) (fun e => hne e.symm)]; exact Below.heap_alloc W _ k hk
 refine ⟨ao, kc, w', fun ty => h1, by simpa using h2, ⟨h3.os, h3.tape, h3.output, ?_, fun k hk _ hne => hs k hk hne, fun g hg => ?_⟩, hs⟩
 · have := h3.size; simp at this; omega
 · rcases h5 with e | e
   · exact Or.inl (e ▸ hg)
   · right; rw [e] at hg; cases hg; simp
theorem Md.rm {w : World} {p b : Nat} {N : NM} (h : Md w p b N) : Rm w p (some b) N := ⟨h.ptr, h.om⟩
theorem Md.below {w w' : World} {p b : Nat} {N : NM} (h : Md w p b N) (hb : Below w.heap.size w w') : Md w' p b N := ⟨(h.rm.below hb).ptr, (h.rm.below hb).om⟩
theorem own_ne {w : World} {p b : Nat} {N : NM} {v : Value} {n : Nat} {xs : List Value} (h : Md w p b N) (ho : w.ownsRow 0 22 1 v n xs) : v.ownBlock ≠ some p ∧ v.ownBlock ≠ some b := by
 have key : ∀ g, v.ownBlock = some g → ∃ cur, w.heap[g]? = some (.cells cur 22 (0, 0)) := by
   intro g e
   rcases ho.2 with ⟨h1, h2⟩ | ⟨k, cap, cur, h1, h2, h3, _⟩
   · subst h1; cases e
   · subst h1; cases e; exact ⟨cur, h3⟩
 refine ⟨fun e => ?_, fun e => ?_⟩
 · obtain ⟨cur, hc⟩ := key p e
   rw [h.ptr] at hc
   cases hc
 · obtain ⟨cur, hc⟩ := key b e
   obtain ⟨n, D, ⟨es, clock, hb, _⟩, _⟩ := h.om.own
   rw [hb] at hc
   cases hc
theorem Md.kp {w w' : World} {p b : Nat} {N : NM} {v v' : Value} (h : Md w p b N) (hp : v.ownBlock ≠ some p) (_hb : v.ownBlock ≠ some b) (hn : p ≠ b) (hk : Kp w w' b v v') (hs : w'.heap[b]? = w.heap[b]?) : Md w' p b N :=
 ⟨(hk.block p (lt_of_block h.ptr) hn hp).trans h.ptr, h.om.same hs⟩
theorem Md.ne {w : World} {p b : Nat} {N : NM} (h : Md w p b N) : p ≠ b := by
 intro e
 obtain ⟨n, D, ⟨es, clock, hb, _⟩, _⟩ := h.om.own
 rw [← e, h.ptr] at hb
 cases hb
theorem own_kept {w w' : World} {v : Value} {n : Nat} {xs : List Value} (ho : w.ownsRow 0 22 1 v n xs) (h : ∀ i, v.ownBlock = some i → w'.heap[i]? = w.heap[i]?) : w'.ownsRow 0 22 1 v n xs := by
 refine ⟨ho.1, ?_⟩
 rcases ho.2 with h2 | ⟨g, cap, cur, e1, e2, e3, e4⟩
 · exact Or.inl h2
 · exact Or.inr ⟨g, cap, cur, e1, e2, by rw [h g (by rw [e1]; rfl)]; exact e3, e4⟩
theorem own_lt {w : World} {v : Value} {n : Nat} {xs : List Value} (ho : w.ownsRow 0 22 1 v n xs) {g : Nat} (e : v.ownBlock = some g) : g < w.heap.size := (own_ge ho e).2
theorem own_below {w w' : World} {v : Value} {n : Nat} {xs : List Value} (ho : w.ownsRow 0 22 1 v n xs) (hb : Below w.heap.size w w') : w'.ownsRow 0 22 1 v n xs := own_kept ho (fun i e => hb.block i (own_lt ho e))
structure Uni (U : List Bs) : Prop where
 len : U.length < 100000000
 right : ∀ t ∈ U, Tm.deep t ≠ 0
 tup : ∀ t ∈ U, t.head? = some 84 → ∀ k ∈ Tm.kidsOf 63 t, k ∈ U
 key : ∀ t ∈ U, t.head? = some 86 ∨ t.head? = some 75 → (pubRes t).2 = 0 → (pubRes t).1 ∈ U
 box : ∀ t ∈ U, t.head? = some 66 → ∀ k m, Tm.kidsOf 63 t = [k, m] → m ∈ U
def Dom (N : NM) (U : List Bs) : Prop := ∀ t, (N t).isSome = true → t ∈ U
theorem Dom.put {N : NM} {U : List Bs} (h : Dom N U) {t : Bs} (ht : t ∈ U) (m : Note) : Dom (nput N t m) U := by
 intro s hs
 unfold nput at hs
 by_cases e : s = t
 · subst e; exact ht
 · rw [if_neg e] at hs; exact h s hs
structure Mn (w : World) (p b : Nat) (N : NM) (v : Value) (l : List Bs) : Prop where
 md : Md w p b N
 row : w.ownsRow 0 22 1 v l.length (l.map St)
def takeKeyF (s : NM × List Bs) (t : Bs) : NM × List Bs :=
 if (s.1 (pubRes t).1).isSome = true ∨ (pubRes t).2 ≠ 0 then s else (nput s.1 (pubRes t).1 nz, s.2 ++ [(pubRes t).1])
set_option maxRecDepth 100000 in
set_option maxHeartbeats 4000000 in
theorem takeKey_any (w : World) (p b : Nat) (N : NM) (v : Value) (l : List Bs) (h : Mn w p b N v l) (U : List Bs) (hU : Dom N U) (hUl : U.length < 100000000000) (hl : l.length < 100000000000) (t : Bs) (ht : t.length ≤ 100000) :
   Calls Tryz.prog 62 #[.pointer (some ⟨p, 0, none⟩), St t, v] w fun e w' => ∃ v', e = .returned v' ∧ Mn w' p b (takeKeyF (N, l) t).1 v' (takeKeyF (N, l) t).2 ∧ Kp w w' b v v' := by
 have HC := hid (fun W => pubs_any t W)
 have HPL := hid (pub_len t ht)
 have HE : Hid (takeKeyF (N, l) t = if (N (pubRes t).1).isSome = true ∨ (pubRes t).2 ≠ 0 then (N, l) else (nput N (pubRes t).1 nz, l ++ [(pubRes t).1])) := hid rfl
 obtain ⟨ao, kc, hv⟩ := own_shape h.row
 subst hv
 have HM := hid h
 have HUD := hid hU
 have HUL := hid hUl
 have HLL := hid hl
 clear h ht hU hUl hl
 generalize takeKeyF (N, l) t = res at HE ⊢
 generalize pubRes t = r at HC HPL HE
 obtain ⟨q, er⟩ := r
 unfold made at HC
 simp only at HC HPL HE
 go_enter Tryz.func62, Tryz.ntmps62
 go_wp2_with fail
 refine (HC.out _).mono ?_
 rintro e w1 ⟨rfl, hb1⟩
 have HB1 := hid hb1
 have HM1 := hid (HM.out.md.below hb1)
 have HO1 := hid (own_below HM.out.row hb1)
 have hcell := HM1.out.rm.cell
 have hlk := HM1.out.rm.ok q HPL.out
 clear hb1 HC
 generalize hnt : nget N q = nt at hlk
 clear hnt
 have HB2 : Hid (Below w1.heap.size w1 (w1.alloc (.cells #[.bool nt.heard, .bool nt.held, .string ⟨nt.key.toArray⟩] 63))) := hid ((Below.refl _ _).alloc (Nat.le_refl _) _)
 have HM2 := hid (HM1.out.below HB2.out)
 have HO2 := hid (own_below HO1.out HB2.out)
 have HK2 := hid ((Kp.of_below b (.slice ao l.length kc) HB1.out).below HB2.out)
 cases hN : (N q).isSome
 · rw [hN] at hlk
   have HNN := hid hN
   clear hN
   by_cases he : er = 0
   · subst he
     have hcell2 := HM2.out.rm.cell
     obtain ⟨w3, hup, hom3, hg3⟩ := HM2.out.om.store U HUD.out (by have := HUL.out; omega) q HPL.out nz
     have HM3 : Hid (Md w3 p b (nput N q nz)) := hid ⟨(hg3.block p HM2.out.rm.lt (fun e => by cases e; exact HM2.out.ne rfl)).trans HM2.out.ptr, hom3⟩
     have HN2 := hid (own_ne HM2.out HO2.out)
     have HO3 : Hid (w3.ownsRow 0 22 1 (.slice ao l.length kc) l.length (l.map St)) := hid (own_kept HO2.out (fun i e => hg3.block i (own_lt HO2.out e) (fun e2 => by cases e2; exact HN2.out.2 e)))
     have HK3 := hid (HK2.out.trans (Kp.map (.slice ao l.length kc) hg3))
     obtain ⟨ao4, kc4, w4, hrun, hown4, hk4, hs4⟩ := append_kp w3 b (.slice ao l.length kc) l q HO3.out (by have := HLL.out; omega)
     have HR4 := hid hrun
     have HN3 := hid (own_ne HM3.out HO3.out)
     have HM4 : Hid (Md w4 p b (nput N q nz)) := hid (HM3.out.kp HN3.out.1 HN3.out.2 HM3.out.ne hk4 (hs4 b HM3.out.om.lt HN3.out.2))
     have hup' : (Instr.mapUpdate 59 (.map (some b)) (St q) (.agg #[.bool false, .bool false, .string ⟨#[]⟩])).run Tryz.prog (w1.alloc (.cells #[.bool nt.heard, .bool nt.held, .string ⟨nt.key.toArray⟩] 63)) = .ok () w3 := hup
     have HO4 := hid hown4
     have HK4 := hid (HK3.out.trans hk4)
     have HER : Hid (res = (nput N q nz, l ++ [q])) := by apply hid; rw [HE.out, if_neg (by rw [HNN.out]; simp)]
     clear hrun hup hom3 hg3 hown4 hk4 hs4
     go_wp2_with (first | (at_builtin; refine wpList_append_run rfl (.tmp 37) (.tmp 39) 39 rfl (.slice ao l.length kc) (.slice (some ⟨w3.heap.size, 0, none⟩) 1 1) (.slice ao4 (l.length + 1) kc4) w4 rfl rfl HR4.out ?_) | go_in)
 
     go_ret
     rw [HER.out]
     exact ⟨_, rfl, ⟨HM4.out, HO4.out⟩, HK4.out⟩
   · have he' : ¬ (er : Int) = 0 := by omega
     have HEN := hid he
     clear he
     go_wp2_with fail
     go_ret
     rw [HE.out, if_pos (Or.inr HEN.out)]
     exact ⟨_, rfl, ⟨HM2.out, HO2.out⟩, HK2.out⟩
 · rw [hN] at hlk
   go_wp2_with fail
   go_ret
   rw [HE.out, if_pos (Or.inl hN)]
   exact ⟨_, rfl, ⟨HM2.out, HO2.out⟩, HK2.out⟩
end Go.Proofs.YtkifchjpgdmcoaaGreatDoor

/- What take notes, as a function; its bounds. -/
namespace Go.Proofs.YtkifchjpgdmcoaaGreatDoor
def takeF : Nat → NM × List Bs → Bs → NM × List Bs
 | 0, s, _ => s
 | n + 1, s, t =>
   if (nget s.1 t).held = true then s
   else if t.head? = some 84 then (Tm.kidsOf 63 t).foldl (takeF n) (nput s.1 t ⟨(nget s.1 t).heard, true, (nget s.1 t).key⟩, s.2 ++ [t])
   else if t.head? = some 86 ∨ t.head? = some 75 then takeKeyF (nput s.1 t ⟨(nget s.1 t).heard, true, (nget s.1 t).key⟩, s.2 ++ [t]) t
   else if t.head? = some 66 then (nput s.1 t ⟨(nget s.1 t).heard, true, (Tm.kidsOf 63 t).headD []⟩, s.2 ++ [t])
   else (nput s.1 t ⟨(nget s.1 t).heard, true, (nget s.1 t).key⟩, s.2 ++ [t])
theorem takeKeyF_dom {N : NM} {l : List Bs} {U : List Bs} (hU : Uni U) (hD : Dom N U) {t : Bs} (ht : t ∈ U) (hh : t.head? = some 86 ∨ t.head? = some 75) : Dom (takeKeyF (N, l) t).1 U ∧ (takeKeyF (N, l) t).2.length ≤ l.length + 1 := by
 unfold takeKeyF
 split
 · exact ⟨hD, by simp⟩
 · rename_i h
   have h2 : (pubRes t).2 = 0 := Classical.byContradiction (fun e => h (Or.inr e))
   exact ⟨hD.put (hU.key t ht hh h2) nz, by simp⟩
theorem kidsN_sum (f : Bs → Option (Nat × Bs)) (hf : ∀ l d r, f l = some (d, r) → ∃ p, l = p ++ r ∧ p ≠ []) : ∀ (k : Nat) (l : Bs), ((Tm.kidsN f k l).map List.length).sum ≤ l.length
 | 0, _ => by simp [Tm.kidsN]
 | k + 1, l => by
   rw [Tm.kidsN]
   match hg : f l with
   | none => simp
   | some (d, r) =>
     obtain ⟨p, rfl, _⟩ := hf l d r hg
     have := kidsN_sum f hf k r
     simp only [List.map_cons, List.sum_cons, Tm.used_app, List.length_append]
     omega
theorem rd_front {n : Nat} : ∀ l d r, Tm.rd n l = some (d, r) → ∃ p, l = p ++ r ∧ p ≠ [] := by
 intro l d r h
 obtain ⟨p, e, _, hi⟩ := Tm.rd_good n _ _ _ h
 exact ⟨p, e, hi.2.1⟩
theorem kids_sum {t : Bs} (hh : t.head? = some 84) : ((Tm.kidsOf 63 t).map List.length).sum + 1 ≤ t.length := by
 match t, hh with
 | c :: l, hh =>
   simp at hh
   subst hh
   have e : Tm.kidsOf 63 (84 :: l) = Tm.tupleK (Tm.rd 63) l := rfl
   rw [e]
   unfold Tm.tupleK
   match hg : Tm.num 58 l with
   | none => simp
   | some (k, r) =>
     obtain ⟨p, hp, rfl, _⟩ := Tm.num_app hg
     have := kidsN_sum (Tm.rd 63) rd_front k r
     simp only [List.length_cons, List.length_append]
     omega
theorem fold_bound {U : List Bs} {n : Nat} (ih : ∀ (N : NM) (l : List Bs) (t : Bs), Dom N U → t ∈ U → Dom (takeF n (N, l) t).1 U ∧ (takeF n (N, l) t).2.length ≤ l.length + 2 * t.length) :
   ∀ (ks : List Bs) (N : NM) (l : List Bs), Dom N U → (∀ k ∈ ks, k ∈ U) → Dom (ks.foldl (takeF n) (N, l)).1 U ∧ (ks.foldl (takeF n) (N, l)).2.length ≤ l.length + 2 * (ks.map List.length).sum
 | [], N, l, hD, _ => ⟨hD, by simp⟩
 | k :: ks, N, l, hD, hk => by
   obtain ⟨h1, h2⟩ := ih N l k hD (hk k (by simp))
   obtain ⟨h3, h4⟩ := fold_bound ih ks (takeF n (N, l) k).1 (takeF n (N, l) k).2 h1 (fun x hx => hk x (by simp [hx]))
   simp only [List.foldl_cons, List.map_cons, List.sum_cons]
   exact ⟨h3, by rw [show takeF n (N, l) k = ((takeF n (N, l) k).1, (takeF n (N, l) k).2) from rfl]; omega⟩
theorem take_bound {U : List Bs} (hU : Uni U) : ∀ (n : Nat) (N : NM) (l : List Bs) (t : Bs), Dom N U → t ∈ U → Dom (takeF n (N, l) t).1 U ∧ (takeF n (N, l) t).2.length ≤ l.length + 2 * t.length
 | 0, N, l, t, hD, _ => ⟨hD, by simp [takeF]⟩
 | n + 1, N, l, t, hD, ht => by
   have hpos : 1 ≤ t.length := by
     cases t with | nil => exact absurd (by decide) (hU.right [] ht) | cons a b => simp
   rw [takeF]
   split
   · exact ⟨hD, by simp⟩
   · split
     · rename_i hh
       obtain ⟨h1, h2⟩ := fold_bound (take_bound hU n) (Tm.kidsOf 63 t) _ (l ++ [t]) (hD.put ht ⟨(nget N t).heard, true, (nget N t).key⟩) (hU.tup t ht hh)
       refine ⟨h1, Nat.le_trans h2 ?_⟩
       have := kids_sum hh
       simp
       omega
     · split
       · rename_i hh
         obtain ⟨h1, h2⟩ := takeKeyF_dom (l := l ++ [t]) hU (hD.put ht ⟨(nget N t).heard, true, (nget N t).key⟩) ht hh
         refine ⟨h1, Nat.le_trans h2 ?_⟩
         simp
         omega
       · split
         · exact ⟨hD.put ht _, by simp; omega⟩
         · exact ⟨hD.put ht _, by simp; omega⟩
end Go.Proofs.YtkifchjpgdmcoaaGreatDoor

/- What take does. -/
namespace Go.Proofs.YtkifchjpgdmcoaaGreatDoor
open Go.RowKit Go.Maps Go.WideElems
theorem heap_setCell_same' {w : World} {b : Nat} {cs : Array Value} {t : TypeId} (h : w.heap[b]? = some (.cells cs t (0, 0))) (o : Nat) (v : Value) :
   (w.setCell ⟨b, o, none⟩ v).heap[b]? = some (.cells (cs.setIfInBounds o v) t (0, 0)) := by
 simp [World.setCell, Array.getElem?_modify, h]
theorem below_setCell {w0 w : World} {g o : Nat} {v : Value} (h : Below w0.heap.size w0 w) (hg : w0.heap.size ≤ g) : Below w0.heap.size w0 (w.setCell ⟨g, o, none⟩ v) :=
 ⟨h.os, h.tape, h.output, by simpa [World.setCell] using h.size, fun k hk => by rw [Below.heap_setCell _ _ _ _ (by show k ≠ g; omega)]; exact h.block k hk⟩
structure T8 (w : World) (nb pb : Nat) (nt : Note) (c : UInt8) (tn : Int) (tx : ByteArray) (ao : Option Addr) (ks : List Bs) (kc : Nat) (W : World) : Prop where
 bel : Below w.heap.size w W
 note : W.heap[nb]? = some (.cells #[.bool nt.heard, .bool nt.held, .string ⟨nt.key.toArray⟩] 63 (0, 0))
 parts : W.heap[pb]? = some (.cells #[.int .u8 (c.toNat : Int), .int .i64 tn, .string tx, .slice ao ks.length kc] 82 (0, 0))
 row : W.ownsRow (w.heap.size + 1) 22 1 (.slice ao ks.length kc) ks.length (ks.map St)
 nbl : w.heap.size ≤ nb
 pbl : w.heap.size ≤ pb
theorem T8.drew {w : World} {nb pb : Nat} {nt : Note} {c : UInt8} {tn : Int} {tx : ByteArray} {ao : Option Addr} {ks : List Bs} {kc : Nat} {W : World} (h : T8 w nb pb nt c tn tx ao ks kc W) : T8 w nb pb nt c tn tx ao ks kc W.drew := ⟨of_drew h.bel, h.note, h.parts, h.row, h.nbl, h.pbl⟩
structure T9 (w : World) (p b pb : Nat) (N : NM) (l : List Bs) (v0 v : Value) (c : UInt8) (tn : Int) (tx : ByteArray) (ao : Option Addr) (ks : List Bs) (kc : Nat) (W : World) : Prop where
 mn : Mn W p b N v l
 kp : Kp w W b v0 v
 parts : W.heap[pb]? = some (.cells #[.int .u8 (c.toNat : Int), .int .i64 tn, .string tx, .slice ao ks.length kc] 82 (0, 0))
 row : W.ownsRow (w.heap.size + 1) 22 1 (.slice ao ks.length kc) ks.length (ks.map St)
 apart : ∀ g, (Value.slice ao ks.length kc).ownBlock = some g → v.ownBlock ≠ some g
theorem t8_t9 {w : World} {p b : Nat} {N : NM} {v : Value} {l : List Bs} (hM : Mn w p b N v l) {U : List Bs} (hD : Dom N U) (hUl : U.length < 100000000000) (hl : l.length < 10000000000) {t : Bs} (htl : t.length ≤ 100000)
   {nb pb : Nat} {nt : Note} {c : UInt8} {tn : Int} {tx : ByteArray} {ao : Option Addr} {ks : List Bs} {kc : Nat} {W : World} (h : T8 w nb pb nt c tn tx ao ks kc W) :
   ∃ w4 ao4 kc4 w5, (Instr.mapUpdate 59 (.map (some b)) (St t) nt.v).run Tryz.prog W = .ok () w4 ∧ (∀ ty, (Builtin.append_ #[39, 39] ty #[v, .slice (some ⟨w4.heap.size, 0, none⟩) 1 1]).run Tryz.prog (w4.alloc (.cells #[St t] 22)) = .ok (.slice ao4 (l.length + 1) kc4) w5) ∧
     T9 w p b pb (nput N t nt) (l ++ [t]) v (.slice ao4 (l.length + 1) kc4) c tn tx ao ks kc w5 ∧ W.grownBy w4 (some b) := by
 have hMd := hM.md.below h.bel
 have hRow := own_below hM.row h.bel
 obtain ⟨w4, hup, hom4, hg4⟩ := hMd.om.store U hD (by omega) t htl nt
 have hM4 : Md w4 p b (nput N t nt) := ⟨(hg4.block p hMd.rm.lt (fun e => by cases e; exact hMd.ne rfl)).trans hMd.ptr, hom4⟩
 have hne := own_ne hMd hRow
 have hO4 : w4.ownsRow 0 22 1 v l.length (l.map St) := own_kept hRow (fun i e => hg4.block i (own_lt hRow e) (fun e2 => by cases e2; exact hne.2 e))
 obtain ⟨ao4, kc4, w5, hrun, hown5, hk5, hs5⟩ := append_kp w4 b v l t hO4 (by omega)
 have hne4 := own_ne hM4 hO4
 have hM5 : Md w5 p b (nput N t nt) := hM4.kp hne4.1 hne4.2 hM4.ne hk5 (hs5 b hM4.om.lt hne4.2)
 have hv0 : ∀ g, v.ownBlock = some g → g < w.heap.size := fun g e => own_lt hM.row e
 have hbl : b < w.heap.size := hM.md.om.lt
 refine ⟨w4, ao4, kc4, w5, hup, hrun, ⟨⟨hM5, hown5⟩, ((Kp.of_below b v h.bel).trans (Kp.map v hg4)).trans hk5, ?_, ?_, ?_⟩, hg4⟩
 · have h1 : pb < W.heap.size := lt_of_block h.parts
   have h2 := h.pbl
   rw [hs5 pb (Nat.lt_of_lt_of_le h1 hg4.size) (fun e => by have := hv0 pb e; omega), hg4.block pb h1 (fun e => by cases e; omega)]
   exact h.parts
 · refine ⟨h.row.1, ?_⟩
   rcases h.row.2 with h2 | ⟨g, cap, cur, e1, e2, e3, e4⟩
   · exact Or.inl h2
   · refine Or.inr ⟨g, cap, cur, e1, e2, ?_, e4⟩
     have h1 : g < W.heap.size := lt_of_block e3
     rw [hs5 g (Nat.lt_of_lt_of_le h1 hg4.size) (fun e => by have := hv0 g e; omega), hg4.block g h1 (fun e => by cases e; omega)]
     exact e3
 · intro g e e5
   have h1 := own_ge h.row e
   rcases hk5.own g e5 with e6 | e6
   · have := hv0 g e6; omega
   · have := hg4.size; omega
def TkC (U : List Bs) (n : Nat) : Prop := ∀ (w : World) (p b : Nat) (N : NM) (v : Value) (l : List Bs) (t : Bs), Mn w p b N v l → Dom N U → t ∈ U → Tm.deep t ≤ n → l.length + 2 * t.length < 10000000000 →
 Calls Tryz.prog 32 #[.pointer (some ⟨p, 0, none⟩), St t, v] w fun e w' => ∃ v', e = .returned v' ∧ Mn w' p b (takeF n (N, l) t).1 v' (takeF n (N, l) t).2 ∧ Kp w w' b v v'
set_option maxRecDepth 100000 in
set_option maxHeartbeats 4000000 in
theorem take_held (n : Nat) (w : World) (p b : Nat) (N : NM) (v : Value) (l : List Bs) (t : Bs) (h : Mn w p b N v l) (ht : t.length ≤ 100000) (hh : (nget N t).held = true) :
   Calls Tryz.prog 32 #[.pointer (some ⟨p, 0, none⟩), St t, v] w fun e w' => ∃ v', e = .returned v' ∧ Mn w' p b (takeF n (N, l) t).1 v' (takeF n (N, l) t).2 ∧ Kp w w' b v v' := by
 have HE : Hid (takeF n (N, l) t = (N, l)) := by apply hid; cases n <;> simp [takeF, hh]
 obtain ⟨ao, kc, hv⟩ := own_shape h.row
 subst hv
 have HM := hid h
 have hcell := h.md.rm.cell
 have hlk := h.md.rm.one t ht
 clear h
 generalize nget N t = nt at hlk hh
 obtain ⟨nh, nd, nk⟩ := nt
 simp only at hh
 subst hh
 have HB2 : Hid (Below w.heap.size w (w.alloc (.cells #[.bool nh, .bool true, .string ⟨nk.toArray⟩] 63))) := hid ((Below.refl _ _).alloc (Nat.le_refl _) _)
 go_enter Tryz.func32, Tryz.ntmps32
 go_wp2_with fail
 go_ret
 rw [HE.out]
 exact ⟨_, rfl, ⟨HM.out.md.below HB2.out, own_below HM.out.row HB2.out⟩, Kp.of_below b _ HB2.out⟩
set_option maxRecDepth 100000 in
set_option maxHeartbeats 4000000 in
theorem take_step {U : List Bs} (hU : Uni U) {n : Nat} (hT : TkC U n) (w : World) (p b : Nat) (N : NM) (v : Value) (l : List Bs) (t : Bs) (h : Mn w p b N v l) (hD : Dom N U) (ht : t ∈ U) (hdn : Tm.deep t ≤ n + 1) (hlen : l.length + 2 * t.length < 10000000000) (hh : (nget N t).held = false) :
   Calls Tryz.prog 32 #[.pointer (some ⟨p, 0, none⟩), St t, v] w fun e w' => ∃ v', e = .returned v' ∧ Mn w' p b (takeF (n + 1) (N, l) t).1 v' (takeF (n + 1) (N, l) t).2 ∧ Kp w w' b v v' := by
 have hd := hU.right t ht
 have htl : t.length ≤ 100000 := by have := (Tm.deep_is hd).2; omega
 obtain ⟨c, l0, htc⟩ : ∃ c l0, t = c :: l0 := by cases t with | nil => exact absurd (by decide) hd | cons c l0 => exact ⟨c, l0, rfl⟩
 have hhd : t.head? = some c := by rw [htc]; rfl
 have HE : Hid (takeF (n + 1) (N, l) t = if c = 84 then (Tm.kidsOf 63 t).foldl (takeF n) (nput N t ⟨(nget N t).heard, true, (nget N t).key⟩, l ++ [t])
     else if c = 86 ∨ c = 75 then takeKeyF (nput N t ⟨(nget N t).heard, true, (nget N t).key⟩, l ++ [t]) t
     else if c = 66 then (nput N t ⟨(nget N t).heard, true, (Tm.kidsOf 63 t).headD []⟩, l ++ [t])
     else (nput N t ⟨(nget N t).heard, true, (nget N t).key⟩, l ++ [t])) := by
   apply hid; rw [takeF, if_neg (by rw [hh]; simp)]; simp only [hhd, Option.some.injEq]
 have HC := hid (fun W => open_yes' t c l0 W htc hd)
 have HB66 : Hid (c = 66 → ∃ x y, Tm.kidsOf 63 t = [x, y]) := by
   apply hid; intro e; subst e; rw [htc] at hd ⊢; exact Tm.kids_pair hd (by decide) (by decide) (by decide) (by decide) (by decide)
 have HKR := hid (fun k (hk : k ∈ Tm.kidsOf 63 t) => Tm.kids_right hd hk)
 have HKN := hid (Tm.kids_count hd)
 have HKS : Hid (c = 84 → ((Tm.kidsOf 63 t).map List.length).sum + 1 ≤ t.length) := by apply hid; intro e; exact kids_sum (by rw [hhd, e])
 have HKU : Hid (c = 84 → ∀ k ∈ Tm.kidsOf 63 t, k ∈ U) := by apply hid; intro e; exact hU.tup t ht (by rw [hhd, e])
 obtain ⟨ao, kc, hv⟩ := own_shape h.row
 subst hv
 have HM := hid h
 have HD := hid hD
 have HTU := hid ht
 have HDN := hid hdn
 have HLN := hid hlen
 have HTL := hid htl
 have HUN := hid hU
 have hcell := h.md.rm.cell
 have hlk := h.md.rm.one t htl
 clear h hd htl htc hhd hD ht hdn hlen hU
 generalize nget N t = nt at hlk hh HE
 obtain ⟨nh, nd, nk⟩ := nt
 simp only at hh HE
 subst hh
 generalize Tm.kidsOf 63 t = ks at HE HC HB66 HKR HKN HKS HKU
 generalize takeF (n + 1) (N, l) t = res at HE ⊢
 go_enter Tryz.func32, Tryz.ntmps32
 go_wp2_with fail
 refine (HC.out _).mono ?_
 rintro e w1 ⟨kids, rfl, hown, hb1⟩
 have HB1 := hid (two_below ((Below.refl _ w).alloc (Nat.le_refl _) (.cells #[.bool nh, .bool false, .string ⟨nk.toArray⟩] 63)) hb1)
 have HG1 : Hid (w1.heap[w.heap.size]? = some (.cells #[.bool nh, .bool false, .string ⟨nk.toArray⟩] 63 (0, 0))) := hid ((hb1.block _ (by simp)).trans (heap_alloc_new w _))
 have HOW := hid hown
 obtain ⟨ao1, kc1, rfl⟩ := own_shape hown
 clear hb1 hown hcell hlk HC
 generalize setN t 0 = tn
 generalize setX t ⟨#[]⟩ = tx
 have HB2 : Hid (Below w.heap.size w (w1.alloc (.cells #[.int .u8 (c.toNat : Int), .int .i64 tn, .string tx, .slice ao1 ks.length kc1] 82))) := hid (HB1.out.alloc HB1.out.size _)
 have HG2 : Hid ((w1.alloc (.cells #[.int .u8 (c.toNat : Int), .int .i64 tn, .string tx, .slice ao1 ks.length kc1] 82)).heap[w.heap.size]? = some (.cells #[.bool nh, .bool false, .string ⟨nk.toArray⟩] 63 (0, 0))) :=
   hid ((Below.heap_alloc w1 _ _ (lt_of_block HG1.out)).trans HG1.out)
 have HP2 : Hid ((w1.alloc (.cells #[.int .u8 (c.toNat : Int), .int .i64 tn, .string tx, .slice ao1 ks.length kc1] 82)).heap[w1.heap.size]? = some (.cells #[.int .u8 (c.toNat : Int), .int .i64 tn, .string tx, .slice ao1 ks.length kc1] 82 (0, 0))) := hid (heap_alloc_new w1 _)
 have HO2 := hid (HOW.out.alloc (.cells #[.int .u8 (c.toNat : Int), .int .i64 tn, .string tx, .slice ao1 ks.length kc1] 82))
 have HLT : Hid (w.heap.size < w1.heap.size) := hid (lt_of_block HG1.out)
 have hlt := HLT.out
 have n1 := cell_of_heap HG2.out 1
 have nf := fun o => frozen_of_heap HG2.out o
 have p0 := cell_of_heap HP2.out 0
 simp only [List.getElem?_toArray, List.getElem?_cons_zero, List.getElem?_cons_succ] at n1 p0
 have HT8 : Hid (T8 w w.heap.size w1.heap.size ⟨nh, true, nk⟩ c tn tx ao1 ks kc1 ((w1.setCell ⟨w.heap.size, 1, none⟩ (.bool true)).alloc (.cells #[.int .u8 (c.toNat : Int), .int .i64 tn, .string tx, .slice ao1 ks.length kc1] 82))) := by
   apply hid
   have hz : (w1.setCell ⟨w.heap.size, 1, none⟩ (.bool true)).heap.size = w1.heap.size := by simp [World.setCell]
   refine ⟨(below_setCell HB1.out (Nat.le_refl _)).alloc (by rw [hz]; exact HB1.out.size) _, ?_, ?_, ?_, Nat.le_refl _, HB1.out.size⟩
   · rw [Below.heap_alloc _ _ _ (by rw [hz]; exact HLT.out), heap_setCell_same' HG1.out]; rfl
   · have := heap_alloc_new (w1.setCell ⟨w.heap.size, 1, none⟩ (.bool true)) (.cells #[.int .u8 (c.toNat : Int), .int .i64 tn, .string tx, .slice ao1 ks.length kc1] 82)
     rw [hz] at this
     exact this
   · have := HOW.out
     rw [show (w.alloc (.cells #[.bool nh, .bool false, .string ⟨nk.toArray⟩] 63)).heap.size = w.heap.size + 1 by simp] at this
     exact (ownsRow_setCell_below this (by show w.heap.size < w.heap.size + 1; omega) _).alloc _
 by_cases h66 : c = 66
 · obtain ⟨x, y, hks⟩ := HB66.out h66
   have HER : Hid (res = (nput N t ⟨nh, true, x⟩, l ++ [t])) := by
     apply hid; rw [HE.out, if_neg (by rw [h66]; decide), if_neg (by rw [h66]; decide), if_pos h66, hks]; rfl
   have hct : ((c.toNat : Int) == 66) = true := by rw [h66]; rfl
   have h84 : ((c.toNat : Int) == 84) = false := by rw [h66]; rfl
   have h86 : ((c.toNat : Int) == 86) = false := by rw [h66]; rfl
   have h75 : ((c.toNat : Int) == 75) = false := by rw [h66]; rfl
   have hk2 : 0 < ks.length := by rw [hks]; simp
   have hx0 : ks[0] = x := by subst hks; rfl
   obtain ⟨g, kc', hv, hg1, hg2, hcs⟩ := row_cells HT8.out.row hk2
   cases hv
   have r0 := hcs 0 hk2
   rw [hx0] at r0
   have p3 := cell_of_heap HP2.out 3
   have t2 := cell_of_heap HT8.out.note 2
   have tf := fun o => frozen_of_heap HT8.out.note o
   simp only [List.getElem?_toArray, List.getElem?_cons_zero, List.getElem?_cons_succ] at p3 t2
   clear hcs HE HKR HKN HKS HKU HB66 h66 hks hx0
   have HT8b : Hid (T8 w w.heap.size w1.heap.size ⟨nh, true, x⟩ c tn tx (some ⟨g, 0, none⟩) ks kc1 (((w1.setCell ⟨w.heap.size, 1, none⟩ (.bool true)).setCell ⟨w.heap.size, 2, none⟩ (.string ⟨x.toArray⟩)).alloc (.cells #[.int .u8 (c.toNat : Int), .int .i64 tn, .string tx, .slice (some ⟨g, 0, none⟩) ks.length kc1] 82))) := by
     apply hid
     have hz : ((w1.setCell ⟨w.heap.size, 1, none⟩ (.bool true)).setCell ⟨w.heap.size, 2, none⟩ (.string ⟨x.toArray⟩)).heap.size = w1.heap.size := by simp [World.setCell]
     refine ⟨(below_setCell (below_setCell HB1.out (Nat.le_refl _)) (Nat.le_refl _)).alloc (by rw [hz]; exact HB1.out.size) _, ?_, ?_, ?_, Nat.le_refl _, HB1.out.size⟩
     · rw [Below.heap_alloc _ _ _ (by rw [hz]; exact HLT.out), heap_setCell_same' (heap_setCell_same' HG1.out _ _)]; rfl
     · have := heap_alloc_new ((w1.setCell ⟨w.heap.size, 1, none⟩ (.bool true)).setCell ⟨w.heap.size, 2, none⟩ (.string ⟨x.toArray⟩)) (.cells #[.int .u8 (c.toNat : Int), .int .i64 tn, .string tx, .slice (some ⟨g, 0, none⟩) ks.length kc1] 82)
       rw [hz] at this
       exact this
     · have := HOW.out
       rw [show (w.alloc (.cells #[.bool nh, .bool false, .string ⟨nk.toArray⟩] 63)).heap.size = w.heap.size + 1 by simp] at this
       exact (ownsRow_setCell_below (ownsRow_setCell_below this (by show w.heap.size < w.heap.size + 1; omega) _) (by show w.heap.size < w.heap.size + 1; omega) _).alloc _
   clear HB1 HG1 HOW HB2 HG2 HP2 HO2
   go_wp2_with fail
   clear HT8 n1 nf p0 HLT hlt r0 p3 t2 tf
   generalize ((w1.setCell ⟨w.heap.size, 1, none⟩ (.bool true)).setCell ⟨w.heap.size, 2, none⟩ (.string ⟨x.toArray⟩)).alloc (.cells #[.int .u8 (c.toNat : Int), .int .i64 tn, .string tx, .slice (some ⟨g, 0, none⟩) ks.length kc1] 82) = W3 at HT8b ⊢
   obtain ⟨w4, ao4, kc4, w5, hup, hrun, ht9, hg4⟩ := t8_t9 HM.out HD.out (by have := HUN.out.len; omega) (by have := HLN.out; omega) HTL.out HT8b.out.drew
   have HT9 := hid ht9
   have HRUN := hid hrun
   have hc0 := cell_of_heap HT8b.out.note 0
   have hc1 := cell_of_heap HT8b.out.note 1
   have hc2 := cell_of_heap HT8b.out.note 2
   have hcp := (HM.out.md.below HT8b.out.bel).rm.cell
   simp only [List.getElem?_toArray, List.getElem?_cons_zero, List.getElem?_cons_succ] at hc0 hc1 hc2
   have HS3 := hid (And.intro hcp (And.intro hc0 (And.intro hc1 hc2)))
   have HBN : Hid (b < w.heap.size) := hid HM.out.md.om.lt
   have HS4 : Hid (w4.cell? ⟨p, 0, none⟩ = some (.map (some b)) ∧ w4.cell? ⟨w.heap.size, 0, none⟩ = some (.bool nh) ∧ w4.cell? ⟨w.heap.size, 1, none⟩ = some (.bool true) ∧ w4.cell? ⟨w.heap.size, 2, none⟩ = some (.string ⟨x.toArray⟩)) :=
     hid ⟨hg4.cell (a := ⟨p, 0, none⟩) hcp (fun e => by cases e; exact HM.out.md.ne rfl), hg4.cell (a := ⟨w.heap.size, 0, none⟩) hc0 (fun e => (show w.heap.size ≠ b from (by have := HBN.out; omega)) (by simpa using e)), hg4.cell (a := ⟨w.heap.size, 1, none⟩) hc1 (fun e => (show w.heap.size ≠ b from (by have := HBN.out; omega)) (by simpa using e)), hg4.cell (a := ⟨w.heap.size, 2, none⟩) hc2 (fun e => (show w.heap.size ≠ b from (by have := HBN.out; omega)) (by simpa using e))⟩
   clear hrun ht9 hg4
   go_region_held3 (fun wx => wx.cell? ⟨p, 0, none⟩ = some (.map (some b)) ∧ wx.cell? ⟨w.heap.size, 0, none⟩ = some (.bool nh) ∧ wx.cell? ⟨w.heap.size, 1, none⟩ = some (.bool true) ∧ wx.cell? ⟨w.heap.size, 2, none⟩ = some (.string ⟨x.toArray⟩)) (first | exact HS3.out | exact HS4.out) (fail)
   have q0 := cell_of_heap HT9.out.parts 0
   simp only [List.getElem?_toArray, List.getElem?_cons_zero] at q0
   clear hup HS3 HS4 hcp hc0 hc1 hc2 HT8b
   go_wp2_with (first | (at_builtin; refine wpList_append_run rfl (.tmp 41) (.tmp 43) 39 rfl (.slice ao l.length kc) (.slice (some ⟨w4.heap.size, 0, none⟩) 1 1) (.slice ao4 (l.length + 1) kc4) w5 rfl rfl HRUN.out ?_) | fail)
   go_ret
   rw [HER.out]
   exact ⟨_, rfl, HT9.out.mn, HT9.out.kp⟩
 · have hc66 : ((c.toNat : Int) == 66) = false := by
     rw [beq_eq_false_iff_ne]; intro e; exact h66 (UInt8.toNat_inj.1 (by show c.toNat = 66; omega))
   clear HB1 HG1 HOW HB2 HG2 HP2 HO2
   go_wp2_with fail
   generalize (w1.setCell ⟨w.heap.size, 1, none⟩ (.bool true)).alloc (.cells #[.int .u8 (c.toNat : Int), .int .i64 tn, .string tx, .slice ao1 ks.length kc1] 82) = W3 at HT8 ⊢
   clear n1 nf p0 HLT hlt
   obtain ⟨w4, ao4, kc4, w5, hup, hrun, ht9, hg4⟩ := t8_t9 HM.out HD.out (by have := HUN.out.len; omega) (by have := HLN.out; omega) HTL.out HT8.out.drew
   have HT9 := hid ht9
   have HRUN := hid hrun
   have hc0 := cell_of_heap HT8.out.note 0
   have hc1 := cell_of_heap HT8.out.note 1
   have hc2 := cell_of_heap HT8.out.note 2
   have hcp := (HM.out.md.below HT8.out.bel).rm.cell
   simp only [List.getElem?_toArray, List.getElem?_cons_zero, List.getElem?_cons_succ] at hc0 hc1 hc2
   have HS3 := hid (And.intro hcp (And.intro hc0 (And.intro hc1 hc2)))
   have HBN : Hid (b < w.heap.size) := hid HM.out.md.om.lt
   have HS4 : Hid (w4.cell? ⟨p, 0, none⟩ = some (.map (some b)) ∧ w4.cell? ⟨w.heap.size, 0, none⟩ = some (.bool nh) ∧ w4.cell? ⟨w.heap.size, 1, none⟩ = some (.bool true) ∧ w4.cell? ⟨w.heap.size, 2, none⟩ = some (.string ⟨nk.toArray⟩)) :=
     hid ⟨hg4.cell (a := ⟨p, 0, none⟩) hcp (fun e => by cases e; exact HM.out.md.ne rfl), hg4.cell (a := ⟨w.heap.size, 0, none⟩) hc0 (fun e => (show w.heap.size ≠ b from (by have := HBN.out; omega)) (by simpa using e)), hg4.cell (a := ⟨w.heap.size, 1, none⟩) hc1 (fun e => (show w.heap.size ≠ b from (by have := HBN.out; omega)) (by simpa using e)), hg4.cell (a := ⟨w.heap.size, 2, none⟩) hc2 (fun e => (show w.heap.size ≠ b from (by have := HBN.out; omega)) (by simpa using e))⟩
   clear hrun ht9 hg4
   go_region_held3 (fun wx => wx.cell? ⟨p, 0, none⟩ = some (.map (some b)) ∧ wx.cell? ⟨w.heap.size, 0, none⟩ = some (.bool nh) ∧ wx.cell? ⟨w.heap.size, 1, none⟩ = some (.bool true) ∧ wx.cell? ⟨w.heap.size, 2, none⟩ = some (.string ⟨nk.toArray⟩)) (first | exact HS3.out | exact HS4.out) (fail)
   have q0 := cell_of_heap HT9.out.parts 0
   have q3 := cell_of_heap HT9.out.parts 3
   simp only [List.getElem?_toArray, List.getElem?_cons_zero, List.getElem?_cons_succ] at q0 q3
   clear hup HS3 HS4 hcp hc0 hc1 hc2 HT8
   by_cases h84 : c = 84
   · have HER : Hid (res = ks.foldl (takeF n) (nput N t ⟨nh, true, nk⟩, l ++ [t])) := by apply hid; rw [HE.out, if_pos h84]
     have HKU2 := hid (HKU.out h84)
     have HKS2 := hid (HKS.out h84)
     clear HE HKU HKS HB66
     subst h84
     go_wp2_with (first | (at_builtin; refine wpList_append_run rfl (.tmp 41) (.tmp 43) 39 rfl (.slice ao l.length kc) (.slice (some ⟨w4.heap.size, 0, none⟩) 1 1) (.slice ao4 (l.length + 1) kc4) w5 rfl rfl HRUN.out ?_) | fail)
     have HD1 := hid (HD.out.put HTU.out ⟨nh, true, nk⟩)
     have HFB : Hid (∀ i, i ≤ ks.length → Dom ((ks.take i).foldl (takeF n) (nput N t ⟨nh, true, nk⟩, l ++ [t])).1 U ∧ ((ks.take i).foldl (takeF n) (nput N t ⟨nh, true, nk⟩, l ++ [t])).2.length ≤ (l ++ [t]).length + 2 * ((ks.take i).map List.length).sum) :=
       hid (fun i _ => fold_bound (take_bound HUN.out n) (ks.take i) _ _ HD1.out (fun k hk => HKU2.out k (List.mem_of_mem_take hk)))
     obtain ⟨m, hm⟩ : ∃ m, m = ks.length := ⟨_, rfl⟩
     have HML := hid hm
     have hmb : m ≤ 32 := by rw [hm]; exact HKN.out
     rw [← hm]
     have HMN := hid HT9.out.mn
     have HKP := hid HT9.out.kp
     have HRW := hid HT9.out.row
     have HAP := hid HT9.out.apart
     rw [← hm] at HRW HAP
     clear hm q0 q3 HRUN HT9
     obtain ⟨F, hF⟩ : ∃ F : Nat → NM × List Bs, F = fun i => (ks.take i).foldl (takeF n) (nput N t ⟨nh, true, nk⟩, l ++ [t]) := ⟨_, rfl⟩
     have HF0 : Hid (F 0 = (nput N t ⟨nh, true, nk⟩, l ++ [t])) := by apply hid; rw [hF]; rfl
     have HFS : Hid (∀ i (hi : i < ks.length), F (i + 1) = takeF n (F i) ks[i]) := by
       apply hid; intro i hi; rw [hF]; simp only [List.take_succ_eq_append_getElem hi, List.foldl_append, List.foldl_cons, List.foldl_nil]
     have HFE : Hid (res = F ks.length) := by apply hid; rw [HER.out, hF]; simp
     have HFB2 : Hid (∀ i, i ≤ ks.length → Dom (F i).1 U ∧ (F i).2.length ≤ l.length + 1 + 2 * ((ks.take i).map List.length).sum) := by
       apply hid; intro i hi; have := HFB.out i hi; rw [hF]; simpa using this
     clear hF HFB HER
     go_loopg [2, 52] m (fun gg vn vi wr => ∃ (i : Nat) (ao' : Option Addr) (kc' : Nat), i ≤ m ∧ gg = m - i ∧ vi = .int .i64 (i : Int) ∧ vn = .slice ao' (F i).2.length kc' ∧ Mn wr p b (F i).1 (.slice ao' (F i).2.length kc') (F i).2 ∧ Kp w wr b (.slice ao l.length kc) (.slice ao' (F i).2.length kc') ∧
       wr.ownsRow (w.heap.size + 1) 22 1 (.slice ao1 m kc1) m (ks.map St) ∧ ∀ g, (Value.slice ao1 m kc1).ownBlock = some g → (Value.slice ao' (F i).2.length kc').ownBlock ≠ some g)
     case atStart =>
       refine ⟨0, ao4, kc4, by omega, by omega, rfl, ?_, ?_, ?_, HRW.out, ?_⟩
       · rw [HF0.out]; simp
       · rw [HF0.out]; simpa using HMN.out
       · rw [HF0.out]; simpa using HKP.out
       · rw [HF0.out]; simpa using HAP.out
     case round =>
       clear HMN HKP HRW HAP HF0
       obtain ⟨i, ao5, kc5, hi, rfl, rfl, rfl, hmn, hkp, hrw, hap⟩ := hrel
       have HMN := hid hmn
       have HKP := hid hkp
       have HRW := hid hrw
       have HAP := hid hap
       clear hmn hkp hrw hap
       by_cases hil : i < m
       · have hik : i < ks.length := by rw [← HML.out]; exact hil
         have hrw' := HRW.out
         rw [HML.out] at hrw'
         obtain ⟨g, kc', hv, hg1, hg2, hcs⟩ := row_cells hrw' (by omega)
         rw [← HML.out] at hv
         cases hv
         have hcell := hcs i hik
         have HFI := hid (HFS.out i hik)
         have HTI : Hid (Calls Tryz.prog 32 #[.pointer (some ⟨p, 0, none⟩), St ks[i], .slice ao5 (F i).2.length kc5] wr fun e w' => ∃ v', e = .returned v' ∧ Mn w' p b (F (i + 1)).1 v' (F (i + 1)).2 ∧ Kp wr w' b (.slice ao5 (F i).2.length kc5) v') := by
           apply hid
           have h1 := HFB2.out i (by omega)
           obtain ⟨_, k1, k2, _⟩ := HKR.out ks[i] (List.getElem_mem hik)
           have hsum : ((ks.take i).map List.length).sum + ks[i].length ≤ (ks.map List.length).sum := by
             have e : ks.take (i + 1) = ks.take i ++ [ks[i]] := List.take_succ_eq_append_getElem hik
             have e2 : ks = ks.take (i + 1) ++ ks.drop (i + 1) := (List.take_append_drop _ _).symm
             have e3 : (ks.map List.length).sum = ((ks.take (i + 1)).map List.length).sum + ((ks.drop (i + 1)).map List.length).sum := by
               conv => lhs; rw [e2, List.map_append, List.sum_append]
             rw [e, List.map_append, List.sum_append, List.map_cons, List.map_nil, List.sum_cons, List.sum_nil] at e3
             omega
           have h2 := HKS2.out
           have h3 := HLN.out
           have := hT wr p b (F i).1 _ (F i).2 ks[i] HMN.out h1.1 (HKU2.out _ (List.getElem_mem hik)) (by have := HDN.out; omega) (by omega)
           rw [show ((F i).1, (F i).2) = F i from rfl, ← HFI.out] at this
           exact this
         generalize ks[i] = ki at hcell HTI HFI
         clear hcs hrw'
         go_wp2_with fail
         refine HTI.out.mono ?_
         rintro e w6 ⟨v6, rfl, hmn6, hkp6⟩
         obtain ⟨ao6, kc6, hv6⟩ := own_shape hmn6.row
         subst hv6
         have HM6 := hid hmn6
         have HK6 := hid hkp6
         clear hmn6 hkp6
         go_wp2_with fail
         go_roundg (m - (i + 1))
         case measure => omega
         case rel =>
           refine ⟨i + 1, ao6, kc6, by omega, rfl, by go_num, rfl, HM6.out, HKP.out.trans HK6.out, ?_, ?_⟩
           · refine ⟨HRW.out.1, ?_⟩
             rcases HRW.out.2 with h2 | ⟨g', cap, cur, e1, e2, e3, e4⟩
             · exact Or.inl h2
             · refine Or.inr ⟨g', cap, cur, e1, e2, ?_, e4⟩
               rw [HK6.out.block g' (lt_of_block e3) (by have := HBN.out; omega) (HAP.out g' (by rw [e1]; rfl))]
               exact e3
           · intro g' e e6
             rcases HK6.out.own g' e6 with e7 | e7
             · exact HAP.out g' e e7
             · have := (own_ge HRW.out e).2; omega
       · obtain rfl : i = m := by omega
         go_wp2_with fail
         go_ret
         rw [HFE.out, ← HML.out]
         exact ⟨_, rfl, HMN.out, HKP.out⟩
   · have hc84 : ((c.toNat : Int) == 84) = false := by
       rw [beq_eq_false_iff_ne]; intro e; exact h84 (UInt8.toNat_inj.1 (by show c.toNat = 84; omega))
     by_cases hkk : c = 86 ∨ c = 75
     · have HER : Hid (res = takeKeyF (nput N t ⟨nh, true, nk⟩, l ++ [t]) t) := by apply hid; rw [HE.out, if_neg h84, if_pos hkk]
       have HTK := hid (takeKey_any w5 p b _ _ _ HT9.out.mn U (HD.out.put HTU.out _) (by have := HUN.out.len; omega) (by have := HLN.out; simp; omega) t HTL.out)
       rcases hkk with hk | hk
       all_goals
         subst hk
         go_wp2_with (first | (at_builtin; refine wpList_append_run rfl (.tmp 41) (.tmp 43) 39 rfl (.slice ao l.length kc) (.slice (some ⟨w4.heap.size, 0, none⟩) 1 1) (.slice ao4 (l.length + 1) kc4) w5 rfl rfl HRUN.out ?_) | fail)
         refine HTK.out.mono ?_
         rintro e w6 ⟨v6, rfl, hmn6, hkp6⟩
         obtain ⟨ao6, kc6, hv6⟩ := own_shape hmn6.row
         subst hv6
         have HM6 := hid hmn6
         have HK6 := hid hkp6
         clear hmn6 hkp6
         go_wp2_with fail
         go_ret
         rw [HER.out]
         exact ⟨_, rfl, HM6.out, HT9.out.kp.trans HK6.out⟩
     · have HER : Hid (res = (nput N t ⟨nh, true, nk⟩, l ++ [t])) := by apply hid; rw [HE.out, if_neg h84, if_neg hkk, if_neg h66]
       have hc86 : ((c.toNat : Int) == 86) = false := by
         rw [beq_eq_false_iff_ne]; intro e; exact hkk (Or.inl (UInt8.toNat_inj.1 (by show c.toNat = 86; omega)))
       have hc75 : ((c.toNat : Int) == 75) = false := by
         rw [beq_eq_false_iff_ne]; intro e; exact hkk (Or.inr (UInt8.toNat_inj.1 (by show c.toNat = 75; omega)))
       go_wp2_with (first | (at_builtin; refine wpList_append_run rfl (.tmp 41) (.tmp 43) 39 rfl (.slice ao l.length kc) (.slice (some ⟨w4.heap.size, 0, none⟩) 1 1) (.slice ao4 (l.length + 1) kc4) w5 rfl rfl HRUN.out ?_) | fail)
       go_ret
       rw [HER.out]
       exact ⟨_, rfl, HT9.out.mn, HT9.out.kp⟩
theorem take_all {U : List Bs} (hU : Uni U) : ∀ n, TkC U n
 | 0 => fun w p b N v l t h hD ht hd hl => absurd (Nat.le_zero.1 hd) (hU.right t ht)
 | n + 1 => fun w p b N v l t h hD ht hd hl => by
   cases hh : (nget N t).held
   · exact take_step hU (take_all hU n) w p b N v l t h hD ht hd hl hh
   · exact take_held (n + 1) w p b N v l t h (by have := (Tm.deep_is (hU.right t ht)).2; omega) hh
end Go.Proofs.YtkifchjpgdmcoaaGreatDoor
