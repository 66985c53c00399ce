import Derived.Test.YtkifchjpgdmcoaaGreatDoorKyA
import Derived.Test.YtkifchjpgdmcoaaGreatDoorOpen
import Derived.OrdersHeld
/- Keys: a public key in new memory. -/
namespace Go.Proofs.YtkifchjpgdmcoaaGreatDoor
open Go.RowKit
theorem parts_agg_below {w w1 : World} (hb : Below w.heap.size w w1) (o : Obj) : Below w.heap.size w (w1.alloc o) := hb.alloc hb.size o
set_option maxHeartbeats 2000000 in
theorem pk_any (k : Bs) (w : World) : Calls Tryz.prog 53 #[St k] w fun en w' => en = made (pkRes k) ∧ Below w.heap.size w w' := by
 by_cases hd : Tm.deep k = 0
 · have HR : Hid (pkRes k = ([], 10)) := hid (by unfold pkRes; rw [if_neg (fun h => h.1 hd)])
   have HO := hid (open_no k w hd)
   clear hd
   go_enter Tryz.func53, Tryz.ntmps53
   go_wp2_with fail
   refine HO.out.mono ?_
   rintro e w1 ⟨rfl, hb1⟩
   have HB1 := hid (parts_agg_below hb1 (.cells #[.int .u8 0, .int .i64 0, .string ⟨#[]⟩, .slice none 0 0] 82))
   clear hb1 HO
   go_wp2_with fail
   go_ret2
   exact ⟨by rw [HR.out]; rfl, HB1.out⟩
 · have HL := hid (deep_len hd)
   match k, hd with
   | [], hd => exact absurd rfl hd
   | c :: l, hd =>
     have HO := hid (open_yes c l w hd)
     have HF := hid (fun W => fterm_any (c :: l) W HL.out)
     have hpk : Tm.isPk (c :: l).head? = true ↔ ((c.toNat : Int) = 80 ∨ (c.toNat : Int) = 87 ∨ (c.toNat : Int) = 76) := by
       have h1 : ∀ d : UInt8, (c = d ↔ (c.toNat : Int) = (d.toNat : Int)) := fun d => by
         rw [← UInt8.toNat_inj]; omega
       have e1 := h1 80
       have e2 := h1 87
       have e3 := h1 76
       have i1 : ((80 : UInt8).toNat : Int) = 80 := rfl
       have i2 : ((87 : UInt8).toNat : Int) = 87 := rfl
       have i3 : ((76 : UInt8).toNat : Int) = 76 := rfl
       rw [i1] at e1
       rw [i2] at e2
       rw [i3] at e3
       unfold Tm.isPk
       simp [e1, e2, e3, or_assoc]
     have hr : pkRes (c :: l) = if Tm.isPk (c :: l).head? = true then (c :: l, 0) else ([], 10) := by
       unfold pkRes
       by_cases h : Tm.isPk (c :: l).head? = true
       · rw [if_pos ⟨hd, h⟩, if_pos h]
       · rw [if_neg (fun x => h x.2), if_neg h]
     rw [hr]
     clear hr hd HL
     generalize Tm.kidsOf 63 (c :: l) = ks at HO
     generalize setN (c :: l) 0 = N at HO
     generalize setX (c :: l) ⟨#[]⟩ = X at HO
     generalize Tm.isPk (c :: l).head? = q at hpk
     generalize (c.toNat : Int) = cn at HO hpk
     generalize hcl : c :: l = t at HO HF
     clear hcl
     by_cases h80 : cn = 80
     · subst h80
       have hq : q = true := hpk.2 (Or.inl rfl)
       subst hq
       clear hpk
       go_enter Tryz.func53, Tryz.ntmps53
       go_wp2_with fail
       refine HO.out.mono ?_
       rintro e w1 ⟨kids, rfl, ho, hb1⟩
       obtain ⟨ao, kn, kc, rfl⟩ := own_slice ho
       have HB1 := hid (parts_agg_below hb1 (.cells #[.int .u8 80, .int .i64 N, .string X, .slice ao kn kc] 82))
       clear hb1 HO ho
       go_wp2_with fail
       refine (HF.out _).mono ?_
       rintro e w2 ⟨rfl, hb2⟩
       have HB2 := hid (HB1.out.trans (hb2.mono HB1.out.size))
       clear hb2
       go_wp2_with fail
       go_ret2
       exact ⟨rfl, HB2.out⟩
     · have q80 : (cn == 80) = false := by simpa using h80
       by_cases h87 : cn = 87
       · subst h87
         have hq : q = true := hpk.2 (Or.inr (Or.inl rfl))
         subst hq
         clear hpk
         go_enter Tryz.func53, Tryz.ntmps53
         go_wp2_with fail
         refine HO.out.mono ?_
         rintro e w1 ⟨kids, rfl, ho, hb1⟩
         obtain ⟨ao, kn, kc, rfl⟩ := own_slice ho
         have HB1 := hid (parts_agg_below hb1 (.cells #[.int .u8 87, .int .i64 N, .string X, .slice ao kn kc] 82))
         clear hb1 HO ho
         go_wp2_with fail
         refine (HF.out _).mono ?_
         rintro e w2 ⟨rfl, hb2⟩
         have HB2 := hid (HB1.out.trans (hb2.mono HB1.out.size))
         clear hb2
         go_wp2_with fail
         go_ret2
         exact ⟨rfl, HB2.out⟩
       · have q87 : (cn == 87) = false := by simpa using h87
         by_cases h76 : cn = 76
         · subst h76
           have hq : q = true := hpk.2 (Or.inr (Or.inr rfl))
           subst hq
           clear hpk
           go_enter Tryz.func53, Tryz.ntmps53
           go_wp2_with fail
           refine HO.out.mono ?_
           rintro e w1 ⟨kids, rfl, ho, hb1⟩
           obtain ⟨ao, kn, kc, rfl⟩ := own_slice ho
           have HB1 := hid (parts_agg_below hb1 (.cells #[.int .u8 76, .int .i64 N, .string X, .slice ao kn kc] 82))
           clear hb1 HO ho
           go_wp2_with fail
           refine (HF.out _).mono ?_
           rintro e w2 ⟨rfl, hb2⟩
           have HB2 := hid (HB1.out.trans (hb2.mono HB1.out.size))
           clear hb2
           go_wp2_with fail
           go_ret2
           exact ⟨rfl, HB2.out⟩
         · have q76 : (cn == 76) = false := by simpa using h76
           have hq : q = false := by
             cases q with
             | false => rfl
             | true => rcases hpk.1 rfl with h | h | h <;> contradiction
           subst hq
           clear hpk
           go_enter Tryz.func53, Tryz.ntmps53
           go_wp2_with fail
           refine HO.out.mono ?_
           rintro e w1 ⟨kids, rfl, ho, hb1⟩
           obtain ⟨ao, kn, kc, rfl⟩ := own_slice ho
           have HB1 := hid (parts_agg_below hb1 (.cells #[.int .u8 cn, .int .i64 N, .string X, .slice ao kn kc] 82))
           clear hb1 HO ho
           go_wp2_with fail
           go_ret2
           exact ⟨rfl, HB1.out⟩
end Go.Proofs.YtkifchjpgdmcoaaGreatDoor

/- A region that draws its order, makes terms by a call that keeps the first error, and stores what it made at the last. -/
namespace Go.Proofs.YtkifchjpgdmcoaaGreatDoor
open Go.RowKit
theorem op_ok {P : Program} {ops : Array Oper} {Q : Exit → Act → World → Prop} {i : Nat} {o : Oper} {a : Act} {w w' : World} {v : Value} {K : Act → World → Prop} (ho : ops[i]? = some o) (hg : o.guard = none) (hr : (execOp a.eval o).run P w = .ok (.value v) w') (hK : K (a.put o.dst v) w') : wpOp P ops Q i K a w := by
 unfold wpOp
 simp only [ho]
 rw [if_pos (by simp [Region.wanted, hg])]
 refine .inl ?_
 unfold Oper.wp
 rw [hr]
 exact hK
theorem op_skip {P : Program} {ops : Array Oper} {Q : Exit → Act → World → Prop} {i : Nat} {o : Oper} {a : Act} {w w' : World} {K : Act → World → Prop} (ho : ops[i]? = some o) (hg : o.guard = none) (hr : (execOp a.eval o).run P w = .ok .skip w') (hK : K (a.put o.dst undef) w') : wpOp P ops Q i K a w := by
 unfold wpOp
 simp only [ho]
 rw [if_pos (by simp [Region.wanted, hg])]
 refine .inl ?_
 unfold Oper.wp
 rw [hr]
 exact hK
theorem op_call {P : Program} {ops : Array Oper} {Q : Exit → Act → World → Prop} {i : Nat} {o : Oper} {a : Act} {w : World} {f : FuncId} {args : Array Value} {K : Act → World → Prop} {R : Value → World → Prop} (ho : ops[i]? = some o) (hg : o.guard = none) (hr : (execOp a.eval o).run P w = .ok (.enter f args) w) (hc : Calls P f args w fun e w' => ∃ v, e = .returned v ∧ R v w') (hK : ∀ v w', R v w' → K (a.put o.dst v) w') : wpOp P ops Q i K a w := by
 unfold wpOp
 simp only [ho]
 rw [if_pos (by simp [Region.wanted, hg])]
 refine .inl ?_
 unfold Oper.wp
 rw [hr]
 refine Calls.mono hc ?_
 rintro e w' ⟨v, rfl, h⟩
 exact hK v w' h
section
variable {P : Program} {ops : Array Oper} {Q : Exit → Act → World → Prop} {md : Region.Mode}
def unl (l : Array Bool) : Nat := l.toList.count false
theorem unl_set {l : Array Bool} {i : Nat} (h : l.getD i true = false) : unl l = unl (l.setIfInBounds i true) + 1 := by
 have hi : i < l.size := by
   rcases Nat.lt_or_ge i l.size with h' | h'
   · exact h'
   · simp [Array.getElem?_eq_none h'] at h
 have hv : l[i] = false := by simpa [hi] using h
 unfold unl
 rw [Array.toList_setIfInBounds, List.count_set (by simpa using hi)]
 have hv' : l.toList[i]'(by simpa using hi) = false := by simpa using hv
 have hc : 0 < l.toList.count false := List.count_pos_iff.2 (hv' ▸ List.getElem_mem _)
 rw [hv']
 show _ = _ - (if (false == false) = true then 1 else 0) + (if (true == false) = true then 1 else 0) + 1
 rw [if_pos (show (false == false) = true by decide), if_neg (show ¬(true == false) = true by decide)]
 omega
theorem unl_none {l : Array Bool} (h : unl l = 0) (i : Nat) : l.getD i true = true := by
 rcases Nat.lt_or_ge i l.size with h' | h'
 · have : false ∉ l.toList := List.count_eq_zero.1 h
   have h2 : l[i] ∈ l.toList := by simp
   cases hv : l[i] with
   | true => simp [h', hv]
   | false => rw [hv] at h2; exact absurd h2 this
 · simp [Array.getElem?_eq_none h']
theorem first_ready (hb : ∀ (i : Nat) (o : Oper), ops[i]? = some o → ∀ e ∈ o.after, e.on < i) {l : Array Bool} (hl : l.size = ops.size) : ∀ n i : Nat, i ≤ n → l.getD i true = false → Region.ready md ops l ≠ [] := by
 intro n
 induction n with
 | zero =>
   intro i hi hf hr
   have hi0 : i < ops.size := by
     rcases Nat.lt_or_ge i l.size with h' | h'
     · omega
     · simp [Array.getElem?_eq_none h'] at hf
   have : i ∈ Region.ready md ops l := mem_ready.2 ⟨hf, ops[i], by simp [hi0], fun e he _ => by have := hb i _ (by simp [hi0]) e he; omega⟩
   rw [hr] at this
   cases this
 | succ n ih =>
   intro i hi hf hr
   have hi0 : i < ops.size := by
     rcases Nat.lt_or_ge i l.size with h' | h'
     · omega
     · simp [Array.getElem?_eq_none h'] at hf
   have : i ∈ Region.ready md ops l := mem_ready.2 ⟨hf, ops[i], by simp [hi0], fun e he _ => by
     have h1 := hb i _ (by simp [hi0]) e he
     cases h2 : l.getD e.on true with
     | true =>
       have h3 : e.on < l.size := by omega
       simpa [h3] using h2
     | false => exact absurd hr (ih e.on (by omega) h2)⟩
   rw [hr] at this
   cases this
theorem any_inv (I : Array Bool → Act → World → Prop) (hb : ∀ (i : Nat) (o : Oper), ops[i]? = some o → ∀ e ∈ o.after, e.on < i)
   (hs : ∀ (l : Array Bool) (a : Act) (w : World) (i : Nat) (o : Oper), I l a w → ops[i]? = some o → l.getD i true = false → (∀ e ∈ o.after, Region.binds md e = true → l.getD e.on false = true) → wpOp P ops Q i (fun a' w' => I (l.setIfInBounds i true) a' w') a w)
   (hd : ∀ (l : Array Bool) (a : Act) (w : World), I l a w → (∀ i : Nat, l.getD i true = true) → Q .normal a w) :
   ∀ (fuel : Nat) (l : Array Bool) (a : Act) (w : World), l.size = ops.size → unl l ≤ fuel → I l a w → wpAny P md ops Q fuel l a w := by
 intro fuel
 induction fuel with
 | zero =>
   intro l a w _ hu hI
   have h0 := unl_none (l := l) (by omega)
   refine ⟨?_, hd l a w hI h0⟩
   cases hr : Region.ready md ops l with
   | nil => rfl
   | cons i r =>
     have : i ∈ Region.ready md ops l := by rw [hr]; exact List.mem_cons_self
     have h1 := (mem_ready.1 this).1
     rw [h0 i] at h1
     cases h1
 | succ fuel ih =>
   intro l a w hl hu hI
   refine ⟨fun hr => hd l a w hI fun i => ?_, fun i hi => ?_⟩
   · cases h2 : l.getD i true with
     | true => rfl
     | false => exact absurd hr (first_ready hb hl i i (Nat.le_refl _) h2)
   · obtain ⟨hf, o, ho, ha⟩ := mem_ready.1 hi
     refine wpOp_mono (fun a' w' h' => ih _ a' w' (by simp [hl]) ?_ h') (hs l a w i o hI ho hf ha)
     have := unl_set hf
     omega
theorem region_inv {id : Nat} {a : Act} {w : World} (I : Array Bool → Act → World → Prop) (hm : P.follows .mixedOrders = true) (hb : ∀ (i : Nat) (o : Oper), ops[i]? = some o → ∀ e ∈ o.after, e.on < i)
   (h0 : I (Array.replicate ops.size false) a w.drew)
   (hs : ∀ (l : Array Bool) (a : Act) (w : World) (i : Nat) (o : Oper), I l a w → ops[i]? = some o → l.getD i true = false → (∀ e ∈ o.after, Region.binds .any e = true → l.getD e.on false = true) → wpOp P ops Q i (fun a' w' => I (l.setIfInBounds i true) a' w') a w)
   (hd : ∀ (l : Array Bool) (a : Act) (w : World), I l a w → (∀ i : Nat, l.getD i true = true) → Q .normal a w) : (Code.region id ops true).wp P Q a w :=
 wp_region_any hm (any_inv I hb hs hd _ _ _ _ (by simp) (by simp [unl]) h0)
end
structure Off (D : List Nat) (a0 a : Act) : Prop where
 defers : a.defers = a0.defers
 size : a.tmps.size = a0.tmps.size
 same : ∀ d : Nat, d ∉ D → a.tmps[d]? = a0.tmps[d]?
theorem Off.refl (D : List Nat) (a : Act) : Off D a a := ⟨rfl, rfl, fun _ _ => rfl⟩
theorem Off.put {D : List Nat} {a0 a : Act} (h : Off D a0 a) {d : Nat} (hd : d ∈ D) (v : Value) : Off D a0 (a.put (some d) v) :=
 ⟨h.defers, by simpa [Act.put] using h.size, fun k hk => by
   have : d ≠ k := fun e => hk (e ▸ hd)
   show (a.tmps.setIfInBounds d v)[k]? = _
   rw [Array.getElem?_setIfInBounds_ne this]
   exact h.same k hk⟩
def puts (a : Act) (l : List (Nat × Value)) : Act := l.foldl (fun b p => b.put (some p.1) p.2) a
theorem get_put_same {a : Act} {d : Nat} {v : Value} (h : d < a.tmps.size) : (a.put (some d) v).tmps.getD d undef = v := by simp [Act.put, h]
theorem get_put_ne {a : Act} {d k : Nat} {v : Value} (h : d ≠ k) : (a.put (some d) v).tmps.getD k undef = a.tmps.getD k undef := by
 show (a.tmps.setIfInBounds d v).getD k undef = _
 simp [Array.getElem?_setIfInBounds_ne h]
theorem getD_set_other {l : Array Bool} {i j : Nat} (h : i ≠ j) (b : Bool) : (l.setIfInBounds i true).getD j b = l.getD j b := by
 simp [Array.getElem?_setIfInBounds_ne h]
def gt (a : Act) (d : Nat) : Value := a.tmps.getD d undef
theorem gt_eq {a : Act} {d : Nat} {v : Value} (h : gt a d = v) : a.tmps[d]?.getD undef = v := by simpa [gt] using h
theorem Off.slot {D : List Nat} {a0 a : Act} (h : Off D a0 a) {k : Nat} (hk : k ∉ D) : gt a k = gt a0 k := by
 have := h.same k hk
 unfold gt
 simp [this]
abbrev dn (l : Array Bool) (i : Nat) : Prop := l.getD i false = true
theorem dn_set {l : Array Bool} {i j : Nat} (h : i ≠ j) (hd : dn (l.setIfInBounds i true) j) : dn l j := by rw [dn, getD_set_other h] at hd; exact hd
theorem dn_up {l : Array Bool} {i j : Nat} (h : dn l j) : dn (l.setIfInBounds i true) j := by
 by_cases e : i = j
 · subst e
   rcases Nat.lt_or_ge i l.size with h' | h'
   · simp [dn, h']
   · rw [dn] at h
     simp [Array.getElem?_eq_none h'] at h
 · rw [dn, getD_set_other e]; exact h
theorem undone {l : Array Bool} {i : Nat} (h : l.getD i true = false) : ¬ dn l i := fun hd => by
 have e : l.getD i true = l.getD i false ∨ l.size ≤ i := by
   rcases Nat.lt_or_ge i l.size with h' | h'
   · left; simp [h']
   · exact .inr h'
 rcases e with e | e
 · rw [e] at h
   rw [dn, h] at hd
   cases hd
 · simp [Array.getElem?_eq_none e] at h
theorem dn_here {l : Array Bool} {i : Nat} (h : i < l.size) : dn (l.setIfInBounds i true) i := by simp [dn, h]
def errsF (er : Nat → Nat) (l : Array Bool) : List Nat → Nat → Nat
 | [], e => e
 | j :: cl, e => errsF er l cl (if l.getD j false = true then firstN e (er j) else e)
def errsAll (er : Nat → Nat) : List Nat → Nat → Nat
 | [], e => e
 | j :: cl, e => errsAll er cl (firstN e (er j))
theorem errs_other (er : Nat → Nat) {l : Array Bool} {i : Nat} : ∀ (cl : List Nat) (e : Nat), i ∉ cl → errsF er (l.setIfInBounds i true) cl e = errsF er l cl e := by
 intro cl
 induction cl with
 | nil => intro e _; rfl
 | cons j cl ih =>
   intro e h
   simp only [List.mem_cons, not_or] at h
   rw [errsF, errsF, getD_set_other h.1, ih _ h.2]
theorem errs_none (er : Nat → Nat) {l : Array Bool} : ∀ (cl : List Nat) (e : Nat), (∀ j ∈ cl, ¬ dn l j) → errsF er l cl e = e := by
 intro cl
 induction cl with
 | nil => intro e _; rfl
 | cons j cl ih =>
   intro e h
   rw [errsF, if_neg (h j (by simp)), ih _ (fun k hk => h k (by simp [hk]))]
theorem errs_take (er : Nat → Nat) {l : Array Bool} {i : Nat} (hi : i < l.size) (hu : ¬ dn l i) : ∀ (cl : List Nat) (e : Nat), cl.Nodup → cl.Pairwise (fun j k => dn l k → dn l j) → i ∈ cl → errsF er (l.setIfInBounds i true) cl e = firstN (errsF er l cl e) (er i) := by
 intro cl
 induction cl with
 | nil => intro e _ _ h; cases h
 | cons j cl ih =>
   intro e hn hp hm
   rw [List.nodup_cons] at hn
   rw [List.pairwise_cons] at hp
   by_cases hj : i = j
   · subst hj
     have hz : ∀ k ∈ cl, ¬ dn l k := fun k hk hd => hu (hp.1 k hk hd)
     rw [errsF, errsF, if_pos (dn_here hi), if_neg hu, errs_other er cl _ hn.1, errs_none er cl _ hz, errs_none er cl _ hz]
   · have hm' : i ∈ cl := by
       rcases List.mem_cons.1 hm with h | h
       · exact absurd h hj
       · exact h
     rw [errsF, errsF, getD_set_other hj]
     exact ih _ hn.2 hp.2 hm'
theorem errs_done (er : Nat → Nat) {l : Array Bool} : ∀ (cl : List Nat) (e : Nat), (∀ j ∈ cl, dn l j) → errsF er l cl e = errsAll er cl e := by
 intro cl
 induction cl with
 | nil => intro e _; rfl
 | cons j cl ih =>
   intro e h
   rw [errsF, errsAll, if_pos (h j (by simp)), ih _ (fun k hk => h k (by simp [hk]))]
theorem Ke.frx {w0 w w' : World} {bx eb e g : Nat} (h : Ke w0 bx eb e w) (hg : w0.heap.size ≤ g) (h1 : g ≠ eb) (h2 : g ≠ bx) (hf : Frx w.heap.size g w w') : Ke w0 bx eb e w' :=
 ⟨⟨hf.os.trans h.bel.os, hf.tape.trans h.bel.tape, hf.output.trans h.bel.output, Nat.le_trans h.bel.size hf.size, fun k hk => (hf.block k (Nat.lt_of_lt_of_le hk h.bel.size) (by omega)).trans (h.bel.block k hk)⟩, h.gx, h.ge, h.ne,
   (hf.block _ (heap_lt h.box) (Ne.symm h2)).trans h.box, (hf.block _ (heap_lt h.var) (Ne.symm h1)).trans h.var⟩
structure Rmk (ops : Array Oper) (D : List Nat) (dst : Nat → Nat) (val : Nat → Value) (al z : Nat) (cl : List Nat) (er : Nat → Nat) (zer fin : Array Value) (ty : TypeId) (a0 : Act) (w0 : World) (bx eb : Nat) (l : Array Bool) (a : Act) (w : World) : Prop where
 size : l.size = ops.size
 off : Off D a0 a
 ke : Ke w0 bx eb (errsF er l cl 0) w
 has : ∀ j, j < z → j ≠ al → dn l j → gt a (dst j) = val j
 new : dn l al → ∃ g, gt a (dst al) = .pointer (some ⟨g, 0, none⟩) ∧ w0.heap.size ≤ g ∧ g ≠ eb ∧ g ≠ bx ∧ w.heap[g]? = some (.cells (if l.getD z false = true then fin else zer) ty (0, 0))
 clo : ∀ (i : Nat) (o : Oper), ops[i]? = some o → dn l i → ∀ e ∈ o.after, Region.binds .any e = true → dn l e.on
set_option maxHeartbeats 1000000 in
theorem region_made {P : Program} {ops : Array Oper} {Q : Exit → Act → World → Prop} {id : Nat} {a0 : Act} {w0 w1 : World} {bx eb : Nat} (D : List Nat) (dst : Nat → Nat) (val : Nat → Value) (al z : Nat) (cl : List Nat) (er : Nat → Nat) (zer fin : Array Value) (ty : TypeId)
   (hm : P.follows .mixedOrders = true) (hsz : ops.size = z + 1) (halz : al < z)
   (hb : ∀ (i : Nat) (o : Oper), ops[i]? = some o → ∀ e ∈ o.after, e.on < i)
   (hD : ∀ i, i < z → dst i ∈ D ∧ dst i < a0.tmps.size)
   (hinj : ∀ i j, i < z → j < z → i ≠ j → dst i ≠ dst j)
   (hcl : ∀ i ∈ cl, i < z ∧ i ≠ al) (hnd : cl.Nodup)
   (hch : ∀ l : Array Bool, (∀ (i : Nat) (o : Oper), ops[i]? = some o → dn l i → ∀ e ∈ o.after, Region.binds .any e = true → dn l e.on) → cl.Pairwise (fun j k => dn l k → dn l j))
   (hzal : ∀ o, ops[z]? = some o → ∃ e ∈ o.after, Region.binds .any e = true ∧ e.on = al)
   (h0 : Ke w0 bx eb 0 w1)
   (hp : ∀ (i : Nat) (o : Oper) (a : Act) (w : World) (e0 : Nat), ops[i]? = some o → i < z → i ≠ al → i ∉ cl → Off D a0 a → Ke w0 bx eb e0 w → (∀ e ∈ o.after, Region.binds .any e = true → e.on ≠ al → gt a (dst e.on) = val e.on) → wpOp P ops Q i (fun a' w' => a' = a.put (some (dst i)) (val i) ∧ Below w.heap.size w w') a w)
   (hc : ∀ (i : Nat) (o : Oper) (a : Act) (w : World) (e0 : Nat), ops[i]? = some o → i ∈ cl → Off D a0 a → Ke w0 bx eb e0 w → (∀ e ∈ o.after, Region.binds .any e = true → e.on ≠ al → gt a (dst e.on) = val e.on) → wpOp P ops Q i (fun a' w' => a' = a.put (some (dst i)) (val i) ∧ Ke w0 bx eb (firstN e0 (er i)) w' ∧ Frx w.heap.size eb w w') a w)
   (ha : ∀ (a : Act) (w : World), wpOp P ops Q al (fun a' w' => a' = a.put (some (dst al)) (.pointer (some ⟨w.heap.size, 0, none⟩)) ∧ w' = w.alloc (.cells zer ty)) a w)
   (hz : ∀ (o : Oper) (a : Act) (w : World) (g : Nat), ops[z]? = some o → Off D a0 a → gt a (dst al) = .pointer (some ⟨g, 0, none⟩) → w.heap[g]? = some (.cells zer ty (0, 0)) → (∀ e ∈ o.after, Region.binds .any e = true → e.on ≠ al → gt a (dst e.on) = val e.on) → wpOp P ops Q z (fun a' w' => a' = a ∧ w'.heap[g]? = some (.cells fin ty (0, 0)) ∧ Frx w.heap.size g w w') a w)
   (hd : ∀ (a : Act) (w : World) (g : Nat), Off D a0 a → (∀ i, i < z → i ≠ al → gt a (dst i) = val i) → gt a (dst al) = .pointer (some ⟨g, 0, none⟩) → w0.heap.size ≤ g → g ≠ eb → g ≠ bx → Ke w0 bx eb (errsAll er cl 0) w → w.heap[g]? = some (.cells fin ty (0, 0)) → Q .normal a w) : (Code.region id ops true).wp P Q a0 w1 := by
 have hz0 : z ∉ cl := fun h => by have := (hcl z h).1; omega
 have hal0 : al ∉ cl := fun h => (hcl al h).2 rfl
 refine region_inv (Rmk ops D dst val al z cl er zer fin ty a0 w0 bx eb) hm hb ?_ ?_ ?_
 · have hno : ∀ j : Nat, ¬ dn (Array.replicate ops.size false) j := fun j hj => by
     rcases Nat.lt_or_ge j ops.size with h | h
     · simp [dn, h] at hj
     · simp [dn, h] at hj
   refine ⟨by simp, Off.refl _ _, ?_, fun j _ _ hj => absurd hj (hno j), fun hj => absurd hj (hno _), fun i o _ hi => absurd hi (hno i)⟩
   rw [errs_none er cl 0 (fun j _ => hno j)]
   exact h0.below ⟨rfl, rfl, rfl, Nat.le_refl _, fun _ _ => rfl⟩
 · intro l a w i o hI ho hf hw
   have hi : i < ops.size := (Array.getElem?_eq_some_iff.1 ho).1
   have hil : i < l.size := by rw [hI.size]; exact hi
   have hu := undone hf
   have hclo : ∀ (k : Nat) (p : Oper), ops[k]? = some p → dn (l.setIfInBounds i true) k → ∀ e ∈ p.after, Region.binds .any e = true → dn (l.setIfInBounds i true) e.on := by
     intro k p hk hdk e he hbd
     by_cases hki : i = k
     · subst hki
       rw [ho] at hk
       cases hk
       exact dn_up (hw e he hbd)
     · exact dn_up (hI.clo k p hk (dn_set hki hdk) e he hbd)
   by_cases hiz : i = z
   · subst hiz
     have hdep : ∀ e ∈ o.after, Region.binds .any e = true → e.on ≠ al → gt a (dst e.on) = val e.on := fun e he hbd hne => hI.has e.on (hb i o ho e he) hne (hw e he hbd)
     obtain ⟨ea, hea, hba, heq⟩ := hzal o ho
     obtain ⟨g, g1, g2, g3, g4, g5⟩ := hI.new (by rw [← heq]; exact hw ea hea hba)
     rw [if_neg hu] at g5
     refine wpOp_mono ?_ (hz o a w g ho hI.off g1 g5 hdep)
     rintro a' w' ⟨rfl, q1, q2⟩
     refine ⟨by simpa using hI.size, hI.off, ?_, fun j h1 h2 h3 => hI.has j h1 h2 (dn_set (by omega) h3), fun _ => ⟨g, g1, g2, g3, g4, by rw [if_pos (dn_here hil)]; exact q1⟩, hclo⟩
     rw [errs_other er cl 0 hz0]
     exact hI.ke.frx g2 g3 g4 q2
   · have hiz' : i < z := by omega
     have hdep : ∀ e ∈ o.after, Region.binds .any e = true → e.on ≠ al → gt a (dst e.on) = val e.on := fun e he hbd hne => hI.has e.on (Nat.lt_trans (hb i o ho e he) hiz') hne (hw e he hbd)
     have hput : ∀ v : Value, gt (a.put (some (dst i)) v) (dst i) = v := fun v => get_put_same (by rw [hI.off.size]; exact (hD i hiz').2)
     have hkeep : ∀ (v : Value) (j : Nat), j < z → i ≠ j → gt (a.put (some (dst i)) v) (dst j) = gt a (dst j) := fun v j hj hij => get_put_ne (hinj i j hiz' hj hij)
     have hzf : (l.setIfInBounds i true).getD z false = l.getD z false := getD_set_other hiz false
     by_cases hia : i = al
     · subst hia
       refine wpOp_mono ?_ (ha a w)
       rintro a' w' ⟨rfl, rfl⟩
       have hbel : Below w.heap.size w (w.alloc (.cells zer ty)) := bel_alloc w _
       have hle := hI.ke.bel.size
       have hzn : ¬ dn l z := fun hdz => by
         obtain ⟨oz, hoz⟩ : ∃ oz, ops[z]? = some oz := ⟨ops[z], by simp [hsz]⟩
         obtain ⟨ea, hea, hba, heq⟩ := hzal oz hoz
         have := hI.clo z oz hoz hdz ea hea hba
         rw [heq] at this
         exact hu this
       refine ⟨by simpa using hI.size, hI.off.put (hD i hiz').1 _, ?_, fun j h1 h2 h3 => ?_, fun _ => ⟨w.heap.size, hput _, hle, ?_, ?_, ?_⟩, hclo⟩
       · rw [errs_other er cl 0 hal0]; exact hI.ke.below hbel
       · rw [hkeep _ j h1 (Ne.symm h2)]; exact hI.has j h1 h2 (dn_set (Ne.symm h2) h3)
       · have := heap_lt hI.ke.var; omega
       · have := heap_lt hI.ke.box; omega
       · rw [hzf, if_neg hzn]; exact heap_alloc_new w _
     · have hhas : ∀ w' : World, ∀ j, j < z → j ≠ al → dn (l.setIfInBounds i true) j → gt (a.put (some (dst i)) (val i)) (dst j) = val j := fun _ j h1 h2 h3 => by
         by_cases e : i = j
         · subst e; exact hput _
         · rw [hkeep _ j h1 e]; exact hI.has j h1 h2 (dn_set e h3)
       by_cases hic : i ∈ cl
       · refine wpOp_mono ?_ (hc i o a w _ ho hic hI.off hI.ke hdep)
         rintro a' w' ⟨rfl, q1, q2⟩
         refine ⟨by simpa using hI.size, hI.off.put (hD i hiz').1 _, ?_, hhas w', fun h3 => ?_, hclo⟩
         · rw [errs_take er hil hu cl 0 hnd (hch l hI.clo) hic]; exact q1
         · obtain ⟨g, g1, g2, g3, g4, g5⟩ := hI.new (dn_set hia h3)
           exact ⟨g, by rw [hkeep _ al halz hia]; exact g1, g2, g3, g4, by rw [hzf]; exact (q2.block g (heap_lt g5) g3).trans g5⟩
       · refine wpOp_mono ?_ (hp i o a w _ ho hiz' hia hic hI.off hI.ke hdep)
         rintro a' w' ⟨rfl, q2⟩
         refine ⟨by simpa using hI.size, hI.off.put (hD i hiz').1 _, ?_, hhas w', fun h3 => ?_, hclo⟩
         · rw [errs_other er cl 0 hic]; exact hI.ke.below q2
         · obtain ⟨g, g1, g2, g3, g4, g5⟩ := hI.new (dn_set hia h3)
           exact ⟨g, by rw [hkeep _ al halz hia]; exact g1, g2, g3, g4, by rw [hzf]; exact (q2.block g (heap_lt g5)).trans g5⟩
 · intro l a w hI hl
   have hall : ∀ i, i < ops.size → dn l i := fun i hi => by
     have h := hl i
     have hs : i < l.size := by rw [hI.size]; exact hi
     simpa [dn, hs] using h
   obtain ⟨g, g1, g2, g3, g4, g5⟩ := hI.new (hall al (by omega))
   rw [if_pos (hall z (by omega))] at g5
   have hk := hI.ke
   rw [errs_done er cl 0 (fun j hj => hall j (by have := (hcl j hj).1; omega))] at hk
   exact hd a w g hI.off (fun i h1 h2 => hI.has i h1 h2 (hall i (by omega))) g1 g2 g3 g4 hk g5
end Go.Proofs.YtkifchjpgdmcoaaGreatDoor
