/- What the reader's public and pass do; the public key of a right term. -/
import Derived.Test.YtkifchjpgdmcoaaGreatDoorBuAll
namespace Go.Proofs.YtkifchjpgdmcoaaGreatDoor
open Go.RowKit
theorem step_append_text {P : Program} {ops : Array Oper} {o : Oper} {a : Act} {w : World} {K : Act → World → Prop} {Q : Exit → Act → World → Prop} {E : Prop}
   (hg : o.guard = none) (s x : Operand) (t u : TypeId) (hop : o.op = Op.call { callee := Callee.builtin Builtin.append, args := #[s, x], argTypes := #[t, u] })
   (e : TypeId) (i : TypeInfo) (h1 : P.underlying t = some (.slice e)) (hu : P.underlying u = some .string) (h2 : P.info? e = some i) (h3 : i.zero = some (.int .u8 0)) (h4 : i.size = 1) (h5 : i.bytes = 1)
   (base : Nat) (v : Value) (n : Nat) (olds : List Value) (hs : a.eval s = v) (hown : w.ownsRow base e 1 v n olds)
   (str : ByteArray) (hx : a.eval x = .string str)
   (b1 : n + str.size ≤ maxLen) (b2 : n + str.size ≤ 140737488355328) (hbase : base ≤ w.heap.size)
   (hK : ∀ v' w', w'.ownsRow base e 1 v' (n + str.size) (olds ++ Lib.strCells str) → w.grownBy w' v.ownBlock → K (a.put o.dst v') w') :
   if Region.wanted o (yielded ops a.tmps) = true then Oper.wp P o a w K Q else E := by
 have hw : Region.wanted o (yielded ops a.tmps) = true := by simp [Region.wanted, hg]
 rw [if_pos hw]
 obtain ⟨v', w', hrun, r1, r2, _⟩ := Lib.run_append_own_string (P := P) w base t u o.type e i h1 hu h2 h3 h4 h5 v n olds hown str b1 b2 hbase
 unfold Oper.wp
 simp [execOp, hop, resolve, invoke, builtin, hs, hx, hrun, Result.andThen]
 exact hK v' w' r1 r2
structure PS (wz : World) (b : Nat) (s : ByteArray) (a : Nat) (ov : Value) (l : Bs) (w : World) : Prop where
 rd : RS w w.heap.size b s 0 false a 0 ⟨#[]⟩ [] w
 own : w.ownsRow (b + 1) 5 1 ov l.length (bcs l)
 bel : Below b wz w
theorem RS.rebase {w0 : World} {B b : Nat} {s : ByteArray} {lv : Nat} {kp : Bool} {a : Nat} {n : Int} {tx : ByteArray} {ks : List Bs} {w : World} (h : RS w0 B b s lv kp a n tx ks w) : RS w w.heap.size b s lv kp a n tx ks w :=
 ⟨h.le, Frx.refl _ _ _, Nat.lt_of_lt_of_le h.hb h.fr.size, Nat.le_refl _, h.sz, h.kl, h.lvb, h.blk⟩
theorem ownsRow_frx {b : Nat} {w w1 : World} {e : TypeId} {size : Nat} {v : Value} {n : Nat} {xs : List Value} (h : w.ownsRow (b + 1) e size v n xs) (hf : Frx w.heap.size b w w1) : w1.ownsRow (b + 1) e size v n xs := by
 obtain ⟨h1, h2⟩ := h
 refine ⟨h1, ?_⟩
 rcases h2 with h2 | ⟨g, cap, cur, e1, e2, e3, e4⟩
 · exact Or.inl h2
 · refine Or.inr ⟨g, cap, cur, e1, e2, ?_, e4⟩
   have hg : g < w.heap.size := by
     apply Classical.byContradiction
     intro hn
     rw [Array.getElem?_eq_none (by omega)] at e3
     cases e3
   rw [hf.block g hg (by omega)]
   exact e3
theorem RS.grow5 {w : World} {b : Nat} {s : ByteArray} {lv : Nat} {kp : Bool} {a : Nat} {n : Int} {tx : ByteArray} {ks : List Bs} {w1 : World} {ov : Value} {m : Nat} {xs : List Value} (h : RS w w.heap.size b s lv kp a n tx ks w)
   (ho : w.ownsRow (b + 1) 5 1 ov m xs) (hg : w.grownBy w1 ov.ownBlock) : RS w1 w1.heap.size b s lv kp a n tx ks w1 := by
 obtain ⟨kids, h1, h2, h3⟩ := h.blk
 have hb : w1.heap[b]? = w.heap[b]? := hg.block b h.hb (fun e => by have := (ho.lt b e.symm).1; omega)
 refine ⟨h.le, Frx.refl _ _ _, Nat.lt_of_lt_of_le h.hb hg.size, Nat.le_refl _, h.sz, h.kl, h.lvb, kids, by rw [hb]; exact h1, h2, ?_⟩
 rcases h3 with h3 | ⟨g, cap, cur, e1, e2, e3, e4⟩
 · exact Or.inl h3
 · refine Or.inr ⟨g, cap, cur, e1, e2, ?_, e4⟩
   have hgs : g < w.heap.size := by
     apply Classical.byContradiction
     intro hn
     rw [Array.getElem?_eq_none (by omega)] at e3
     cases e3
   rw [hg.block g hgs ?_]
   · exact e3
   · intro e
     rcases ho.2 with ⟨q1, _⟩ | ⟨g', cap', cur', q1, q2, q3, q4⟩
     · rw [q1] at e; cases e
     · rw [q1] at e
       have : g = g' := by simpa [Value.ownBlock] using e
       subst this
       rw [e3] at q3
       simp at q3
theorem RS.alloc {w : World} {b : Nat} {s : ByteArray} {lv : Nat} {kp : Bool} {a : Nat} {n : Int} {tx : ByteArray} {ks : List Bs} (h : RS w w.heap.size b s lv kp a n tx ks w) (o : Obj) : RS (w.alloc o) (w.alloc o).heap.size b s lv kp a n tx ks (w.alloc o) := by
 obtain ⟨kids, h1, h2⟩ := h.blk
 exact ⟨h.le, Frx.refl _ _ _, by have := h.hb; simp; omega, Nat.le_refl _, h.sz, h.kl, h.lvb, kids, by rw [Below.heap_alloc _ _ _ h.hb]; exact h1, h2.alloc o⟩
theorem PS.append {wz : World} {b : Nat} {s : ByteArray} {a : Nat} {ov ov' : Value} {l l' : Bs} {w w1 : World} (h : PS wz b s a ov l w) (ho : w1.ownsRow (b + 1) 5 1 ov' l'.length (bcs l')) (hg : w.grownBy w1 ov.ownBlock) : PS wz b s a ov' l' w1 :=
 ⟨h.rd.grow5 h.own hg, ho, h.bel.grown hg (Nat.le_of_lt (Nat.lt_of_lt_of_le h.rd.hb (Nat.le_refl _))) (fun k hk => by have := (h.own.lt k hk).1; omega)⟩
theorem PS.alloc {wz : World} {b : Nat} {s : ByteArray} {a : Nat} {ov : Value} {l : Bs} {w : World} (h : PS wz b s a ov l w) (o : Obj) : PS wz b s a ov l (w.alloc o) :=
 ⟨h.rd.alloc o, h.own.alloc o, h.bel.alloc (Nat.le_of_lt h.rd.hb) o⟩
theorem PS.drewN {wz : World} {b : Nat} {s : ByteArray} {a : Nat} {ov : Value} {l : Bs} {w : World} (h : PS wz b s a ov l w) (n : Nat) : PS wz b s a ov l (w.drewN n) :=
 ⟨(h.rd.drewN n).rebase, h.own, below_drewN h.bel n⟩
theorem PS.drew {wz : World} {b : Nat} {s : ByteArray} {a : Nat} {ov : Value} {l : Bs} {w : World} (h : PS wz b s a ov l w) : PS wz b s a ov l w.drew :=
 ⟨h.rd.drew.rebase, h.own, h.bel.drew⟩
theorem PS.setAt {wz : World} {b : Nat} {s : ByteArray} {a a' : Nat} {ov : Value} {l : Bs} {w : World} (h : PS wz b s a ov l w) (h1 : a ≤ a') (h2 : a' ≤ s.size) (v : Value) (hv : v = .int .i64 a') : PS wz b s a' ov l (w.setCell ⟨b, 1, none⟩ v) :=
 ⟨(h.rd.setAt h1 h2 v hv).rebase, ownsRow_setCell_at h.own _ _, h.bel.setCell (Nat.le_refl _) _⟩
theorem PS.read {wz : World} {b : Nat} {s : ByteArray} {a a' : Nat} {ov : Value} {l : Bs} {w w1 : World} (h : PS wz b s a ov l w) (hr : RS w w.heap.size b s 0 false a' 0 ⟨#[]⟩ [] w1) : PS wz b s a' ov l w1 :=
 ⟨hr.rebase, ownsRow_frx h.own hr.fr, h.bel.trans ⟨hr.fr.os, hr.fr.tape, hr.fr.output, hr.fr.size, fun k hk => hr.fr.block k (by have := h.rd.hb; omega) (by omega)⟩⟩
theorem rest_split {s : ByteArray} {a : Nat} {p x : Bs} (ha : a ≤ s.size) (h : rest s a = p ++ x) : s.size - x.length = a + p.length ∧ a + p.length ≤ s.size ∧ rest s (a + p.length) = x ∧ p = (rest s a).take p.length := by
 obtain ⟨h1, h2, h3⟩ := rest_of ha h
 refine ⟨h2, by omega, by rw [← h2]; exact h1, by rw [h]; simp⟩
set_option maxHeartbeats 1000000 in
theorem pass_any {wz : World} {b : Nat} {s : ByteArray} {a : Nat} {ov : Value} {l : Bs} {w : World} {p x : Bs} {d : Nat} (h : PS wz b s a ov l w) (hp : rest s a = p ++ x) (hi : Tm.Is d p) (hd : d ≤ 64) (hl : l.length + p.length ≤ 100000) :
   Calls Tryz.prog 102 #[rp b, ov] w fun en w' => ∃ ov', en = .returned ov' ∧ PS wz b s (a + p.length) ov' (l ++ p) w' := by
 have hle := h.rd.le
 have hsz := h.rd.sz
 obtain ⟨q1, q2, q3, q4⟩ := rest_split hle hp
 have hlen := Tm.len_pos hi
 obtain ⟨c0, c1, c2, c3, hf⟩ := h.rd.cells
 have HRD : Hid (Tm.rd 64 (rest s a) = some (d, x)) := by apply hid; rw [hp]; exact hi.2.2 64 x hd
 have HH := hid h
 have HX : Hid (s.extract a (a + p.length) = ⟨p.toArray⟩) := by
   apply hid; rw [extract_eq, Nat.add_sub_cancel_left, ← q4]
 have Q1 := hid q1
 clear h hp q1 q3 q4
 go_enter Tryz.func102, Tryz.ntmps102
 go_wp2_with fail
 refine (termC_all 64 (by omega) HH.out.rd (by omega) (fun e => by cases e)).mono ?_
 rintro e w1 hE
 obtain ⟨rfl, hb⟩ := hE.some HRD.out
 have hb2 : RS w w.heap.size b s 0 false (a + p.length) 0 ⟨#[]⟩ [] w1 := by have := hb; simp only [Q1.out] at this; exact this
 have hps := HH.out.read hb2
 obtain ⟨g0, g1, g2, g3, gf⟩ := hps.rd.cells
 have HP := hid hps
 clear hE hb hb2 hps
 generalize hj : a + p.length = j at *
 have HJ := hid hj
 have haj : a ≤ j := by omega
 clear hj
 obtain ⟨i0, hi0, hz0, hz1, hz2⟩ := info_parts Tryz.info5
 have Hb1 : Hid (l.length + (s.extract a j).size ≤ maxLen) := by apply hid; rw [HX.out, st_size]; unfold maxLen; omega
 have Hb2 : Hid (l.length + (s.extract a j).size ≤ 140737488355328) := by apply hid; rw [HX.out, st_size]; omega
 have Hb3 : Hid (b + 1 ≤ w1.heap.size) := by apply hid; have := HP.out.rd.hb; omega
 go_wp2_with fail
 go_region_law (refine step_append_text rfl (.tmp 12) (.tmp 22) 90 9 rfl 5 i0 Tryz.underlying90 Tryz.underlying9 hi0 hz0 hz1 hz2 (b + 1) ov l.length (bcs l) rfl HP.out.drew.own (s.extract a j) rfl Hb1.out Hb2.out Hb3.out ?_; intro v' w' hown hgrow; rw [HX.out, strCells_bcs, bcs_app, st_size] at hown; have HO := hid hown; have HG := hid hgrow; clear hown hgrow)
 all_goals
   go_wp2_with fail
   go_ret
   refine ⟨v', rfl, ?_⟩
   rw [HJ.out]
   refine HP.out.drew.append ?_ HG.out
   simpa using HO.out
def PubC (n : Nat) : Prop :=
 ∀ {wz : World} {b : Nat} {s : ByteArray} {a : Nat} {ov : Value} {l : Bs} {w : World} {p x : Bs} {d : Nat}, d ≤ n → PS wz b s a ov l w → rest s a = p ++ x → Tm.Is d p → d ≤ 64 → l.length + 2 * p.length ≤ 50000 →
   Calls Tryz.prog 79 #[rp b, ov] w fun en w' => ∃ ov', en = .returned ov' ∧ PS wz b s (a + p.length) ov' (l ++ Tm.pk p) w'
theorem PS.byte {wz : World} {b : Nat} {s : ByteArray} {a : Nat} {ov v3 : Value} {l : Bs} {W w3 : World} {o : Obj} {c : UInt8} (h : PS wz b s a ov l (W.alloc o)) (ho : w3.ownsRow (b + 1) 5 1 v3 (l.length + 1) (bcs l ++ [.int .u8 (c.toNat : Int)])) (hg : (W.alloc o).grownBy w3 ov.ownBlock) : PS wz b s a v3 (l ++ [c]) w3 := by
 refine h.append ?_ hg
 have e : bcs l ++ [.int .u8 (c.toNat : Int)] = bcs (l ++ [c]) := by simp [Lib.byteCells]
 rw [e] at ho
 simpa using ho
set_option maxHeartbeats 2000000 in
theorem public_else {wz : World} {b : Nat} {s : ByteArray} {a : Nat} {ov : Value} {l : Bs} {w : World} {p x : Bs} {d : Nat} (h : PS wz b s a ov l w) (hp : rest s a = p ++ x) (hi : Tm.Is d p) (hd : d ≤ 64) (hl : l.length + 2 * p.length ≤ 50000) (h1 : p.head? ≠ some 86) (h2 : p.head? ≠ some 75) :
   Calls Tryz.prog 79 #[rp b, ov] w fun en w' => ∃ ov', en = .returned ov' ∧ PS wz b s (a + p.length) ov' (l ++ Tm.pk p) w' := by
 have hle := h.rd.le
 have hsz := h.rd.sz
 have hlen := Tm.len_pos hi
 obtain ⟨q1, q2, q3, q4⟩ := rest_split hle hp
 have has : a < s.size := by omega
 have hhd : p.head? = some s[a] := by
   have : (rest s a).head? = some s[a] := by rw [rest_cons has]; rfl
   rw [hp, Tm.head_app hi.2.1] at this
   exact this
 have e1 : ((s[a].toNat : Int) == 86) = false := by simp; intro h; exact h1 (by rw [hhd]; simp; exact UInt8.toNat_inj.1 (by simp; omega))
 have e2 : ((s[a].toNat : Int) == 75) = false := by simp; intro h; exact h2 (by rw [hhd]; simp; exact UInt8.toNat_inj.1 (by simp; omega))
 have HPK : Hid (Tm.pk p = 80 :: p) := Tm.pk_else hi hd h1 h2
 obtain ⟨c0, c1, c2, c3, hf⟩ := h.rd.cells
 have HH := hid h
 have HP := hid hp
 clear h hp q1 q3 q4 hhd h1 h2
 obtain ⟨i0, hi0, hz0, hz1, hz2⟩ := info_parts Tryz.info5
 have ho1 : ∀ u ∈ [Value.int .u8 80], u.oneCell' = true := by intro u hu; simp at hu; subst hu; rfl
 have Hm1 : Hid (l.length + 1 ≤ maxLen) := by apply hid; unfold maxLen; omega
 have Hm2 : Hid ((l.length + 1) * 1 ≤ 140737488355328) := by apply hid; omega
 go_enter Tryz.func79, Tryz.ntmps79
 go_wp2_with fail
 go_quiet (fail)
 have HW : Hid (∃ W, W = w.drewN nq) := ⟨_, rfl⟩
 obtain ⟨W, hW⟩ := HW.out
 have hpw : PS wz b s a ov l W := by rw [hW]; exact HH.out.drewN _
 rw [← hW]
 have HPA : Hid (PS wz b s a ov l (W.alloc (.cells #[.int .u8 80] 5))) := hpw.alloc _
 have Hm3 : Hid (b + 1 ≤ (W.alloc (.cells #[.int .u8 80] 5)).heap.size) := by apply hid; have := HPA.out.rd.hb; omega
 clear hW HW hpw
 go_wp2_with (at_builtin; refine wpList_append_own _ rfl (.tmp 47) (.tmp 48) 90 rfl (b + 1) 5 i0 (.int .u8 0) 1 1 Tryz.underlying90 hi0 hz0 hz1 hz2 rfl (by decide) ov l.length (bcs l) rfl HPA.out.own ⟨W.heap.size, 0, none⟩ 1 1 [.int .u8 80] rfl rfl (cell_one_new _ _ _) ho1 Hm1.out Hm2.out Hm3.out ?_; intro v3 w3 hown3 hg3 _; have HO3 := hid hown3; have HG3 := hid hg3; clear hown3 hg3)
 refine (pass_any (HPA.out.byte (c := 80) HO3.out HG3.out) HP.out hi hd (by simp; omega)).mono ?_
 rintro e w4 ⟨ov', rfl, hps⟩
 have HPS := hid hps
 clear hps
 go_wp2_with fail
 go_ret
 refine ⟨ov', rfl, ?_⟩
 rw [HPK.out]
 simpa using HPS.out
theorem new_cell (WW : World) (k : Nat) (hk : k = WW.heap.size) (v : Value) (t : TypeId) : ∀ j u, [v][j]? = some u → (WW.alloc (.cells #[v] t)).cell? ((⟨k, 0, none⟩ : Addr).add j) = some u := by
 subst hk; exact cell_one_new _ _ _
set_option maxHeartbeats 2000000 in
theorem public_join {n : Nat} (ih : PubC n) {wz : World} {b : Nat} {s : ByteArray} {a : Nat} {ov : Value} {l : Bs} {w : World} {p1 p2 x : Bs} {d1 d2 : Nat} (h : PS wz b s a ov l w) (hp : rest s a = 86 :: (p1 ++ p2) ++ x) (i1 : Tm.Is d1 p1) (i2 : Tm.Is d2 p2) (hd1 : d1 ≤ n) (hd2 : d2 ≤ n) (h64 : max d1 d2 < 64) (hl : l.length + 2 * (1 + p1.length + p2.length) ≤ 50000) :
   Calls Tryz.prog 79 #[rp b, ov] w fun en w' => ∃ ov', en = .returned ov' ∧ PS wz b s (a + (1 + p1.length + p2.length)) ov' (l ++ Tm.pk (86 :: (p1 ++ p2))) w' := by
 have hle := h.rd.le
 have hsz := h.rd.sz
 have hka := h.rd.kl
 obtain ⟨q1, q2, q3, q4⟩ := rest_split hle hp
 simp only [List.length_cons, List.length_append] at q2
 have has : a < s.size := by omega
 have hrc := rest_cons has
 rw [hp] at hrc
 simp only [List.cons_append, List.cons.injEq] at hrc
 have hhd : s[a] = 86 := hrc.1.symm
 have e1 : ((s[a].toNat : Int) == 86) = true := by simp [hhd]
 have HPK : Hid (Tm.pk (86 :: (p1 ++ p2)) = 87 :: (Tm.pk p1 ++ Tm.pk p2)) := Tm.pk_join i1 i2 (by omega) (by omega)
 have lpk := (Tm.pk_of i1 (by omega)).2.2.1
 have lpk2 := (Tm.pk_of i2 (by omega)).2.2.1
 have hr1 : rest s (a + 1) = p1 ++ (p2 ++ x) := by rw [← hrc.2]; simp
 have hr2 : rest s (a + 1 + p1.length) = p2 ++ x := (rest_split (by omega) hr1).2.2.1
 obtain ⟨c0, c1, c2, c3, hf⟩ := h.rd.cells
 have HH := hid h
 have HP1 := hid hr1
 have HP2 := hid hr2
 clear h hp q1 q3 q4 hhd hrc hr1 hr2
 obtain ⟨i0, hi0, hz0, hz1, hz2⟩ := info_parts Tryz.info5
 have ho1 : ∀ u ∈ [Value.int .u8 87], u.oneCell' = true := by intro u hu; simp at hu; subst hu; rfl
 have Hm1 : Hid (l.length + 1 ≤ maxLen) := by apply hid; unfold maxLen; omega
 have Hm2 : Hid ((l.length + 1) * 1 ≤ 140737488355328) := by apply hid; omega
 go_enter Tryz.func79, Tryz.ntmps79
 go_wp2_with fail
 go_quiet (fail)
 obtain ⟨W, hW⟩ : ∃ W, W = (w.drewN nq).setCell ⟨b, 1, none⟩ (.int .i64 ((a : Int) + 1)) := ⟨_, rfl⟩
 have hpw : PS wz b s (a + 1) ov l W := by rw [hW]; exact (HH.out.drewN _).setAt (by omega) (by omega) _ (by simp)
 have HPA : Hid (PS wz b s (a + 1) ov l (W.alloc (.cells #[.int .u8 87] 5))) := hpw.alloc _
 have Hm3 : Hid (b + 1 ≤ (W.alloc (.cells #[.int .u8 87] 5)).heap.size) := by apply hid; have := HPA.out.rd.hb; omega
 have HWE := hid hW.symm
 have hWs : W.heap.size = w.heap.size := by rw [hW]; simp [World.setCell, World.drewN]
 rw [hW] at HPA Hm3
 clear hpw
 have hWs2 : ((w.drewN nq).setCell ⟨b, 1, none⟩ (.int .i64 ((a : Int) + 1))).heap.size = w.heap.size := by rw [← hW]; exact hWs
 have hWs3 := hid hWs2
 clear hWs hW HWE hWs2
 clear W
 go_wp2_with (at_builtin; refine wpList_append_own _ rfl (.tmp 25) (.tmp 26) 90 rfl (b + 1) 5 i0 (.int .u8 0) 1 1 Tryz.underlying90 hi0 hz0 hz1 hz2 rfl (by decide) ov l.length (bcs l) rfl HPA.out.own ⟨w.heap.size, 0, none⟩ 1 1 [.int .u8 87] rfl rfl (new_cell _ _ hWs3.out.symm _ _) ho1 Hm1.out Hm2.out Hm3.out ?_; intro v3 w3 hown3 hg3 _; have HO3 := hid hown3; have HG3 := hid hg3; clear hown3 hg3)
 refine (ih hd1 (HPA.out.byte (c := 87) HO3.out HG3.out) HP1.out i1 (by omega) (by simp; omega)).mono ?_
 rintro e w4 ⟨ov1, rfl, hps⟩
 have HPS1 := hid hps
 clear hps
 go_wp2_with fail
 refine (ih (by omega) HPS1.out HP2.out i2 (by omega) (by simp; omega)).mono ?_
 rintro e w5 ⟨ov2, rfl, hps⟩
 have HPS := hid hps
 clear hps
 go_wp2_with fail
 go_ret
 refine ⟨ov2, rfl, ?_⟩
 rw [HPK.out, show a + (1 + p1.length + p2.length) = a + 1 + p1.length + p2.length by omega]
 simpa using HPS.out
set_option maxHeartbeats 2000000 in
theorem public_bind {n : Nat} (ih : PubC n) {wz : World} {b : Nat} {s : ByteArray} {a : Nat} {ov : Value} {l : Bs} {w : World} {p1 p2 x : Bs} {d1 d2 : Nat} (h : PS wz b s a ov l w) (hp : rest s a = 75 :: (p1 ++ p2) ++ x) (i1 : Tm.Is d1 p1) (i2 : Tm.Is d2 p2) (hd1 : d1 ≤ n) (_hd2 : d2 ≤ n) (h64 : max d1 d2 < 64) (hl : l.length + 2 * (1 + p1.length + p2.length) ≤ 50000) :
   Calls Tryz.prog 79 #[rp b, ov] w fun en w' => ∃ ov', en = .returned ov' ∧ PS wz b s (a + (1 + p1.length + p2.length)) ov' (l ++ Tm.pk (75 :: (p1 ++ p2))) w' := by
 have hle := h.rd.le
 have hsz := h.rd.sz
 have hka := h.rd.kl
 obtain ⟨q1, q2, q3, q4⟩ := rest_split hle hp
 simp only [List.length_cons, List.length_append] at q2
 have has : a < s.size := by omega
 have hrc := rest_cons has
 rw [hp] at hrc
 simp only [List.cons_append, List.cons.injEq] at hrc
 have hhd : s[a] = 75 := hrc.1.symm
 have e1 : ((s[a].toNat : Int) == 86) = false := by simp [hhd]
 have e2 : ((s[a].toNat : Int) == 75) = true := by simp [hhd]
 have HPK : Hid (Tm.pk (75 :: (p1 ++ p2)) = 76 :: (Tm.pk p1 ++ p2)) := Tm.pk_bind i1 i2 (by omega) (by omega)
 have lpk := (Tm.pk_of i1 (by omega)).2.2.1
 have lpk2 := (Tm.pk_of i2 (by omega)).2.2.1
 have hr1 : rest s (a + 1) = p1 ++ (p2 ++ x) := by rw [← hrc.2]; simp
 have hr2 : rest s (a + 1 + p1.length) = p2 ++ x := (rest_split (by omega) hr1).2.2.1
 obtain ⟨c0, c1, c2, c3, hf⟩ := h.rd.cells
 have HH := hid h
 have HP1 := hid hr1
 have HP2 := hid hr2
 clear h hp q1 q3 q4 hhd hrc hr1 hr2
 obtain ⟨i0, hi0, hz0, hz1, hz2⟩ := info_parts Tryz.info5
 have ho1 : ∀ u ∈ [Value.int .u8 76], u.oneCell' = true := by intro u hu; simp at hu; subst hu; rfl
 have Hm1 : Hid (l.length + 1 ≤ maxLen) := by apply hid; unfold maxLen; omega
 have Hm2 : Hid ((l.length + 1) * 1 ≤ 140737488355328) := by apply hid; omega
 go_enter Tryz.func79, Tryz.ntmps79
 go_wp2_with fail
 go_quiet (fail)
 obtain ⟨W, hW⟩ : ∃ W, W = (w.drewN nq).setCell ⟨b, 1, none⟩ (.int .i64 ((a : Int) + 1)) := ⟨_, rfl⟩
 have hpw : PS wz b s (a + 1) ov l W := by rw [hW]; exact (HH.out.drewN _).setAt (by omega) (by omega) _ (by simp)
 have HPA : Hid (PS wz b s (a + 1) ov l (W.alloc (.cells #[.int .u8 76] 5))) := hpw.alloc _
 have Hm3 : Hid (b + 1 ≤ (W.alloc (.cells #[.int .u8 76] 5)).heap.size) := by apply hid; have := HPA.out.rd.hb; omega
 have HWE := hid hW.symm
 have hWs : W.heap.size = w.heap.size := by rw [hW]; simp [World.setCell, World.drewN]
 rw [hW] at HPA Hm3
 clear hpw
 have hWs2 : ((w.drewN nq).setCell ⟨b, 1, none⟩ (.int .i64 ((a : Int) + 1))).heap.size = w.heap.size := by rw [← hW]; exact hWs
 have hWs3 := hid hWs2
 clear hWs hW HWE hWs2
 clear W
 go_wp2_with (at_builtin; refine wpList_append_own _ rfl (.tmp 41) (.tmp 42) 90 rfl (b + 1) 5 i0 (.int .u8 0) 1 1 Tryz.underlying90 hi0 hz0 hz1 hz2 rfl (by decide) ov l.length (bcs l) rfl HPA.out.own ⟨w.heap.size, 0, none⟩ 1 1 [.int .u8 76] rfl rfl (new_cell _ _ hWs3.out.symm _ _) ho1 Hm1.out Hm2.out Hm3.out ?_; intro v3 w3 hown3 hg3 _; have HO3 := hid hown3; have HG3 := hid hg3; clear hown3 hg3)
 refine (ih hd1 (HPA.out.byte (c := 76) HO3.out HG3.out) HP1.out i1 (by omega) (by simp; omega)).mono ?_
 rintro e w4 ⟨ov1, rfl, hps⟩
 have HPS1 := hid hps
 clear hps
 go_wp2_with fail
 refine (pass_any HPS1.out HP2.out i2 (by omega) (by simp; omega)).mono ?_
 rintro e w5 ⟨ov2, rfl, hps⟩
 have HPS := hid hps
 clear hps
 go_wp2_with fail
 go_ret
 refine ⟨ov2, rfl, ?_⟩
 rw [HPK.out, show a + (1 + p1.length + p2.length) = a + 1 + p1.length + p2.length by omega]
 simpa using HPS.out
theorem public_all (n : Nat) : PubC n := by
 induction n with
 | zero =>
   intro wz b s a ov l w p x d hd h hp hi
   have := hi.1
   omega
 | succ n ih =>
   intro wz b s a ov l w p x d hd h hp hi h64 hl
   match p, hi, hp, hl with
   | [], hi, _, _ => exact absurd rfl hi.2.1
   | c :: q, hi, hp, hl =>
     by_cases c1 : c = 86
     · subst c1
       obtain ⟨a1, a2, p1, p2, i1, i2, rfl, rfl⟩ := Tm.is_inv_two hi (by decide)
       have := public_join ih h hp i1 i2 (by omega) (by omega) (by omega) (by simpa [Nat.add_comm, Nat.add_left_comm, Nat.add_assoc] using hl)
       simpa [Nat.add_comm, Nat.add_left_comm, Nat.add_assoc] using this
     · by_cases c2 : c = 75
       · subst c2
         obtain ⟨a1, a2, p1, p2, i1, i2, rfl, rfl⟩ := Tm.is_inv_two hi (by decide)
         have := public_bind ih h hp i1 i2 (by omega) (by omega) (by omega) (by simpa [Nat.add_comm, Nat.add_left_comm, Nat.add_assoc] using hl)
         simpa [Nat.add_comm, Nat.add_left_comm, Nat.add_assoc] using this
       · exact public_else h hp hi h64 hl (by simp [c1]) (by simp [c2])
end Go.Proofs.YtkifchjpgdmcoaaGreatDoor
