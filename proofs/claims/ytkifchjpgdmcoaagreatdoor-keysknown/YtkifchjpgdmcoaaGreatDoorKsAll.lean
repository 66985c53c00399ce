import Derived.Test.YtkifchjpgdmcoaaGreatDoorDedAll
import Derived.Test.YtkifchjpgdmcoaaGreatDoorKyW
/- Keys: what is not told is not made: secrets that stand nowhere in the open. -/
namespace Go.Proofs.YtkifchjpgdmcoaaGreatDoor
inductive Ex (X : Bs → Prop) : Bs → Prop
 | here {t : Bs} : X t → Ex X t
 | kid {t k : Bs} : (t.head? = some 84 ∨ t.head? = some 66 ∨ t.head? = some 75 ∨ t.head? = some 86) → k ∈ Tm.kidsOf 63 t → Ex X k → Ex X t
def Shut' (X : Bs → Prop) : Prop := ∀ t, X t → t.head? = some 110 ∨ (t.head? = some 68 ∧ ∃ k ∈ Tm.kidsOf 63 t, X k)
theorem ex_pk {X : Bs → Prop} (hX : Shut' X) {t : Bs} (h : Tm.isPk t.head? = true) : ¬ Ex X t := by
 intro he
 have hc : t.head? = some 80 ∨ t.head? = some 87 ∨ t.head? = some 76 := by
   unfold Tm.isPk at h
   simp at h
   rcases h with (h | h) | h
   · exact .inl h
   · exact .inr (.inl h)
   · exact .inr (.inr h)
 cases he with
 | here hx => rcases hX t hx with h1 | ⟨h1, _⟩ <;> rw [h1] at hc <;> simp at hc
 | kid h1 _ _ => rcases h1 with h1 | h1 | h1 | h1 <;> rw [h1] at hc <;> simp at hc
theorem ex_68 {X : Bs → Prop} {t : Bs} (h : t.head? = some 68) (he : Ex X t) : X t := by
 cases he with
 | here hx => exact hx
 | kid h1 _ _ => rcases h1 with h1 | h1 | h1 | h1 <;> rw [h] at h1 <;> simp at h1
theorem can_shut {H X : Bs → Prop} (hX : Shut' X) (hH : ∀ t, H t → ¬ Ex X t) {t : Bs} (h : Can H t) : ¬ Ex X t := by
 induction h with
 | heard a => exact hH _ a
 | whole _ _ _ _ ih =>
   intro he
   cases he with
   | here hx =>
     rcases hX _ hx with h1 | ⟨_, k, hk, hk2⟩
     · contradiction
     · exact ih k hk (.here hk2)
   | kid _ hk he => exact ih _ hk he
 | agree1 _ h2 _ _ _ _ _ _ =>
   intro he
   cases he with
   | here hx => rcases hX _ hx with h1 | ⟨h1, _⟩ <;> rw [h2] at h1 <;> simp at h1
   | kid h1 _ _ => rcases h1 with h1 | h1 | h1 | h1 <;> rw [h2] at h1 <;> simp at h1
 | agree2 _ h2 _ _ _ _ _ _ =>
   intro he
   cases he with
   | here hx => rcases hX _ hx with h1 | ⟨h1, _⟩ <;> rw [h2] at h1 <;> simp at h1
   | kid h1 _ _ => rcases h1 with h1 | h1 | h1 | h1 <;> rw [h2] at h1 <;> simp at h1
 | pub _ h0 _ => exact ex_pk hX (pub_head h0)
 | part _ h1 hk ih => exact fun he => ih (.kid (.inl h1) hk he)
 | opened _ h1 hk _ ih _ => exact fun he => ih (.kid (.inr (.inl h1)) (by rw [hk]; simp) he)
inductive Ch (x : Bs) : Bs → Prop
 | here : Ch x x
 | up {t k : Bs} : t.head? = some 68 → k ∈ Tm.kidsOf 63 t → Ch x k → Ch x t
theorem ch_shut {x : Bs} (h : x.head? = some 110) : Shut' (Ch x) := by
 intro t ht
 cases ht with
 | here => exact .inl h
 | up h1 hk hc => exact .inr ⟨h1, _, hk, hc⟩
end Go.Proofs.YtkifchjpgdmcoaaGreatDoor

/- Keys: what who has heard one side's secrets can and cannot make. -/
namespace Go.Proofs.YtkifchjpgdmcoaaGreatDoor
theorem lab_heads : (labk wChan 1).head? = some 84 ∧ (labk wChan 2).head? = some 84 ∧ (∀ j : Fin 6, (labk (lb j.1) 0).head? = some 84) ∧ labk (lb 5) 0 ≠ labk (lb 4) 0 := by decide +kernel
structure Sd2 (r : Bs) (k : Nat) : Prop where
 is : Tm.Is 1 r
 len : r.length ≤ 22
 hd : r.head? = some 110
 k2 : k = 1 ∨ k = 2
section
variable {r : Bs} {k : Nat}
theorem Sd2.bsD (h : Sd2 r k) : Dt 3 53 (bs r k) ∧ Tm.kidsOf 63 (bs r k) = [r, labk wChan k] := (bs_is h.is h.len h.k2).2
theorem Sd2.csD (h : Sd2 r k) {j : Nat} (hj : j < 6) : Dt 4 84 (cs (bs r k) j) ∧ Tm.kidsOf 63 (cs (bs r k) j) = [bs r k, labk (lb j) 0] := (cs_is h.bsD.1 hj).2
theorem Sd2.lab (h : Sd2 r k) : (labk wChan k).head? = some 84 := by
 rcases h.k2 with e | e <;> subst e
 · exact lab_heads.1
 · exact lab_heads.2.1
theorem Sd2.deep3 (h : Sd2 r k) : Tm.deep (bs r k) = 3 := by
 have hd : Tm.deep r = 1 := Tm.is_deep h.is (by omega) (by have := h.len; omega)
 have hlk : Tm.deep (labk wChan k) = 2 ∧ (labk wChan k).length ≤ 30 := by
   rcases h.k2 with e | e <;> subst e
   · exact lab_all8.1
   · exact lab_all8.2.1
 have := (child_is (by omega : Tm.deep r ≠ 0) (by omega) (by have := h.len; omega) hlk.1 hlk.2).2.1
 show Tm.deep (68 :: _) = 3
 omega
theorem Sd2.deep4 (h : Sd2 r k) {j : Nat} (hj : j < 6) : Tm.deep (cs (bs r k) j) = 4 := by
 have hlk : Tm.deep (labk (lb j) 0) = 2 ∧ (labk (lb j) 0).length ≤ 30 := lab_all8.2.2 ⟨j, hj⟩
 have h3 := h.deep3
 have hl := h.bsD.1.len
 have := (child_is (by omega : Tm.deep (bs r k) ≠ 0) (by omega) (by omega) hlk.1 hlk.2).2.1
 show Tm.deep (68 :: _) = 4
 omega
theorem Sd2.ch (h : Sd2 r k) {j : Nat} (hj : j < 6) : Ch r (cs (bs r k) j) :=
 .up (h.csD hj).1.hd (by rw [(h.csD hj).2]; simp) (.up h.bsD.1.hd (by rw [h.bsD.2]; simp) .here)
theorem not_ch {x t : Bs} {c : UInt8} (hx : x.head? = some 110) (ht : t.head? = some c) (h1 : c ≠ 110) (h2 : c ≠ 68) : ¬ Ch x t := by
 intro h
 cases h with
 | here => rw [hx] at ht; cases ht; exact h1 rfl
 | up hh _ _ => rw [hh] at ht; cases ht; exact h2 rfl
theorem Sd2.not (h : Sd2 r k) {x : Bs} (hx : x.head? = some 110) (hne : r ≠ x) {j : Nat} (hj : j < 6) : ¬ Ch x (cs (bs r k) j) := by
 have hb : ¬ Ch x (bs r k) := by
   intro hc
   generalize hg : bs r k = b at hc
   cases hc with
   | here => have := h.bsD.1.hd; rw [hg, hx] at this; cases this
   | up _ hk hc =>
     rw [← hg, h.bsD.2] at hk
     simp at hk
     rcases hk with e | e
     · rw [e] at hc
       generalize hr : r = y at hc
       cases hc with
       | here => exact hne hr
       | up hh _ _ => rw [← hr, h.hd] at hh; cases hh
     · rw [e] at hc
       exact not_ch hx h.lab (by decide) (by decide) hc
 intro hc
 generalize hg : cs (bs r k) j = b at hc
 cases hc with
 | here => have := (h.csD hj).1.hd; rw [hg, hx] at this; cases this
 | up _ hk hc =>
   rw [← hg, (h.csD hj).2] at hk
   simp at hk
   rcases hk with e | e
   · rw [e] at hc; exact hb hc
   · rw [e] at hc
     exact not_ch hx (lab_heads.2.2.1 ⟨j, hj⟩) (by decide) (by decide) hc
end
theorem fr_ch {x : Bs} : ∀ (k i : Nat) (y : Bs) (D B : Nat), k ≤ 20 → Dt D B y → D + k ≤ 64 → B + 6 * k ≤ 16384 → Ch x y → Ch x (Sd.fr stp k i y).1 ∧ ((Sd.fr stp k i y).1 = y ∨ Tm.deep y < Tm.deep (Sd.fr stp k i y).1)
 | 0, _, _, _, _, _, _, _, _, hc => ⟨hc, .inl rfl⟩
 | k + 1, i, y, D, B, hk, h, hd, hl, hc => by
   unfold Sd.fr
   cases i.testBit k with
   | false => exact fr_ch k i y D B (by omega) h (by omega) (by omega) hc
   | true =>
     have q1 := h.le
     have q2 := h.len
     obtain ⟨h1, h2, h3⟩ := stp_ok (b := k) (by omega) h.deep (by omega) (by omega)
     simp only [if_true, h1]
     obtain ⟨e, ha, hb, hm, hz⟩ := bRes_two_ok (show (bRes 68 [] [y, lab k]).2 = 0 from h1)
     have he : (stp y k).1 = 68 :: (y ++ lab k) := by show (bRes 68 [] [y, lab k]).1 = _; rw [e]
     have hkid := (made_two (op := 68) rfl ha hb hm hz).2
     have hx : Dt (D + 1) (B + 6) (stp y k).1 := ⟨by omega, by omega, by omega, by rw [he]; rfl⟩
     have hc2 : Ch x (stp y k).1 := .up hx.hd (by rw [he, hkid]; simp) hc
     obtain ⟨g1, g2⟩ := fr_ch k i _ (D + 1) (B + 6) (by omega) hx (by omega) (by omega) hc2
     refine ⟨g1, .inr ?_⟩
     rcases g2 with g2 | g2
     · rw [g2]; omega
     · omega
structure Sec2 (r : Bs) (k : Nat) (t : Bs) : Prop where
 dt : Dt 24 204 t
 ch : Ch r t
 far : t = cs (bs r k) 5 ∨ 4 < Tm.deep t
theorem sec2_of {r : Bs} {k : Nat} (h : Sd2 r k) {n : Int} (h0 : 0 ≤ n) (h1 : n ≤ 1048575) : ∃ t, secRes (cs (bs r k) 5) (1048575 - n) = (t, 0) ∧ Sec2 r k t := by
 have hc := h.csD (by decide : 5 < 6)
 have hf := fr_dt 20 (1048575 - n).toNat (cs (bs r k) 5) 4 84 (by omega) hc.1 (by omega) (by omega)
 have hg := fr_ch (x := r) 20 (1048575 - n).toNat (cs (bs r k) 5) 4 84 (by omega) hc.1 (by omega) (by omega) (h.ch (by decide))
 refine ⟨(Sd.fr stp 20 (1048575 - n).toNat (cs (bs r k) 5)).1, ?_, hf.2, hg.1, ?_⟩
 · unfold secRes
   rw [if_neg (by omega), if_neg hc.1.deep]
   exact Prod.ext rfl hf.1
 · rcases hg.2 with e | e
   · exact .inl e
   · have := h.deep4 (by decide : 5 < 6)
     exact .inr (by omega)
section
variable {ra rb t : Bs}
def pubL (S O : S6) (t : Bs) : List Bs := [80 :: S.f, 80 :: S.r, 80 :: S.p, 80 :: S.l, 80 :: S.h, 80 :: O.f, 80 :: O.r, 80 :: O.p, 80 :: O.l, 80 :: O.h, 80 :: t, (setS S O t).f, (setS S O t).r, (setS S O t).p, (setS S O t).l]
def secL (S : S6) : List Bs := [S.f, S.r, S.p, S.l, S.h, S.s]
theorem pub_pk {S O : S6} {t x : Bs} (h : x ∈ pubL S O t) : Tm.isPk x.head? = true := by
 simp only [pubL, setS, List.mem_cons, List.not_mem_nil, or_false] at h
 rcases h with h | h | h | h | h | h | h | h | h | h | h | h | h | h | h <;> subst h <;> rfl
theorem sec_mem {r : Bs} {k : Nat} {x : Bs} (h : x ∈ secL (chanS (bs r k))) : ∃ j, j < 6 ∧ x = cs (bs r k) j := by
 simp only [secL, chanS, List.mem_cons, List.not_mem_nil, or_false] at h
 rcases h with h | h | h | h | h | h
 · exact ⟨0, by decide, h⟩
 · exact ⟨1, by decide, h⟩
 · exact ⟨2, by decide, h⟩
 · exact ⟨3, by decide, h⟩
 · exact ⟨4, by decide, h⟩
 · exact ⟨5, by decide, h⟩
def revT (rb t : Bs) : Bs := 86 :: (cs (bs rb 2) 1 ++ t)
def bndT (b t : Bs) : Bs := 75 :: (cs b 4 ++ (80 :: t))
theorem rev_kids (hb : Sd2 rb 2) (ht : Dt 24 204 t) : Tm.kidsOf 63 (revT rb t) = [cs (bs rb 2) 1, t] ∧ Tm.deep (revT rb t) ≠ 0 ∧ (revT rb t).length ≤ 400 := by
 have h := (hb.csD (by decide : 1 < 6)).1
 have q1 := h.le; have q2 := h.len; have q3 := ht.le; have q4 := ht.len
 have m := made_two (op := 86) rfl h.deep ht.deep (by omega) (by omega)
 exact ⟨m.2, by show Tm.deep (86 :: _) ≠ 0; omega, by show (86 :: _ : Bs).length ≤ 400; simp; omega⟩
theorem bnd_kids {r : Bs} {k : Nat} (hb : Sd2 r k) (ht : Dt 24 204 t) : Tm.kidsOf 63 (bndT (bs r k) t) = [cs (bs r k) 4, 80 :: t] ∧ Tm.deep (bndT (bs r k) t) ≠ 0 ∧ (bndT (bs r k) t).length ≤ 400 := by
 have h := (hb.csD (by decide : 4 < 6)).1
 have p2 := (pub_is ht (by decide) (by decide)).2
 have q1 := h.le; have q2 := h.len; have q3 := ht.le; have q4 := ht.len
 have m := made_two (op := 75) rfl h.deep (by omega : Tm.deep (80 :: t) ≠ 0) (by omega) (by simp; omega)
 exact ⟨m.2, by show Tm.deep (75 :: _) ≠ 0; omega, by show (75 :: _ : Bs).length ≤ 400; simp; omega⟩
theorem rev_ex {X : Bs → Prop} (hb : Sd2 rb 2) (ht : Dt 24 204 t) (h : X (cs (bs rb 2) 1) ∨ X t) : Ex X (revT rb t) := by
 rcases h with h | h
 · exact .kid (.inr (.inr (.inr rfl))) (by rw [(rev_kids hb ht).1]; simp) (.here h)
 · exact .kid (.inr (.inr (.inr rfl))) (by rw [(rev_kids hb ht).1]; simp) (.here h)
theorem bnd_ex {X : Bs → Prop} {r : Bs} {k : Nat} (hb : Sd2 r k) (ht : Dt 24 204 t) (h : X (cs (bs r k) 4)) : Ex X (bndT (bs r k) t) :=
 .kid (.inr (.inr (.inl rfl))) (by rw [(bnd_kids hb ht).1]; simp) (.here h)
theorem no_pub {S O : S6} {x y : Bs} {L : List Bs} (hx : x.head? = some 110) (hL : ∀ z ∈ L, z ∈ pubL S O t) (he : Ex (Ch x) y) : ¬ Can (fun z => z ∈ L) y :=
 fun hc => can_shut (ch_shut hx) (fun z hz => ex_pk (ch_shut hx) (pub_pk (hL z hz))) hc he
theorem no_side {S O : S6} {r x y : Bs} {k : Nat} {L : List Bs} (hs : Sd2 r k) (hx : x.head? = some 110) (hne : r ≠ x) (hL : ∀ z ∈ L, z ∈ pubL S O t ∨ z ∈ secL (chanS (bs r k))) (he : Ex (Ch x) y) : ¬ Can (fun z => z ∈ L) y :=
 fun hc => can_shut (ch_shut hx) (fun z hz => by
   rcases hL z hz with h | h
   · exact ex_pk (ch_shut hx) (pub_pk h)
   · obtain ⟨j, hj, rfl⟩ := sec_mem h
     exact fun h2 => hs.not hx hne hj (ex_68 (hs.csD hj).1.hd h2)) hc he
theorem no_mine {S O : S6} {L : List Bs} (ha : Sd2 ra 1) (hb : Sd2 rb 2) (hne : ra ≠ rb) (ht : Sec2 ra 1 t) (hL : ∀ z ∈ L, z = t ∨ z ∈ pubL S O t ∨ z ∈ secL (chanS (bs rb 2))) : ¬ Can (fun z => z ∈ L) (bndT (bs ra 1) t) := by
 let X : Bs → Prop := fun y => y = ra ∨ y = bs ra 1 ∨ y = cs (bs ra 1) 4
 have hX : Shut' X := by
   intro y hy
   rcases hy with h | h | h
   · rw [h]; exact .inl ha.hd
   · rw [h]; exact .inr ⟨ha.bsD.1.hd, ra, by rw [ha.bsD.2]; simp, .inl rfl⟩
   · rw [h]; exact .inr ⟨(ha.csD (by decide)).1.hd, bs ra 1, by rw [(ha.csD (by decide : 4 < 6)).2]; simp, .inr (.inl rfl)⟩
 have far : ∀ y, y.head? = some 68 → y ≠ bs ra 1 → y ≠ cs (bs ra 1) 4 → ¬ Ex X y := fun y h1 h2 h3 he => by
   rcases ex_68 h1 he with h | h | h
   · rw [h, ha.hd] at h1; cases h1
   · exact h2 h
   · exact h3 h
 have d3 := ha.deep3
 have d4 := ha.deep4 (by decide : 4 < 6)
 intro hc
 refine can_shut hX (fun z hz => ?_) hc (bnd_ex ha ht.dt (.inr (.inr rfl)))
 rcases hL z hz with h | h | h
 · subst h
   refine far z ht.dt.hd (fun e => ?_) (fun e => ?_)
   · have d5 := ha.deep4 (by decide : 5 < 6)
     rcases ht.far with f | f
     · rw [e] at f; rw [f] at d3; omega
     · rw [e] at f; omega
   · rcases ht.far with f | f
     · rw [e] at f
       have k4 := (ha.csD (by decide : 4 < 6)).2
       rw [f, (ha.csD (by decide : 5 < 6)).2] at k4
       simp at k4
       exact lab_heads.2.2.2 k4
     · rw [e] at f; omega
 · exact ex_pk hX (pub_pk h)
 · obtain ⟨j, hj, rfl⟩ := sec_mem h
   refine far _ (hb.csD hj).1.hd (fun e => ?_) (fun e => ?_)
   · have := hb.deep4 hj
     rw [e] at this
     omega
   · have k4 := (ha.csD (by decide : 4 < 6)).2
     rw [← e, (hb.csD hj).2] at k4
     simp at k4
     have k3 := ha.bsD.2
     rw [← k4.1, hb.bsD.2] at k3
     simp at k3
     exact hne k3.1.symm
theorem can_two {H : Bs → Prop} {y p q : Bs} (hd : Tm.deep y ≠ 0) (h1 : y.head? ≠ some 110) (h2 : y.head? ≠ some 88) (hk : Tm.kidsOf 63 y = [p, q]) (hp : H p) (hq : H q) : Can H y :=
 .whole hd h1 h2 (fun k hk' => by
   rw [hk] at hk'
   simp at hk'
   rcases hk' with e | e <;> rw [e]
   · exact .heard hp
   · exact .heard hq)
end
end Go.Proofs.YtkifchjpgdmcoaaGreatDoor
