import Derived.Test.YtkifchjpgdmcoaaGreatDoorDedAll
import Derived.Test.YtkifchjpgdmcoaaGreatDoorKyW
import Derived.Test.YtkifchjpgdmcoaaGreatDoorKsQ
/- Keys: what is not told is not made: secrets that stand nowhere in the open. -/
namespace Go.Proofs.YtkifchjpgdmcoaaGreatDoor
inductive Ex (X : Bs → Prop) : Bs → Prop
 | here {t : Bs} : X t → Ex X t
 | kid {t k : Bs} : (t.head? = some 84 ∨ t.head? = some 66 ∨ t.head? = some 75 ∨ t.head? = some 86) → k ∈ Tm.kidsOf 63 t → Ex X k → Ex X t
def Shut' (X : Bs → Prop) : Prop := ∀ t, X t → t.head? = some 110 ∨ (t.head? = some 68 ∧ ∃ k ∈ Tm.kidsOf 63 t, X k)
theorem ex_pk {X : Bs → Prop} (hX : Shut' X) {t : Bs} (h : Tm.isPk t.head? = true) : ¬ Ex X t := by
 intro he
 have hc : t.head? = some 80 ∨ t.head? = some 87 ∨ t.head? = some 76 := by
   unfold Tm.isPk at h
   simp at h
   rcases h with (h | h) | h
   · exact .inl h
   · exact .inr (.inl h)
   · exact .inr (.inr h)
 cases he with
 | here hx => rcases hX t hx with h1 | ⟨h1, _⟩ <;> rw [h1] at hc <;> simp at hc
 | kid h1 _ _ => rcases h1 with h1 | h1 | h1 | h1 <;> rw [h1] at hc <;> simp at hc
theorem ex_68 {X : Bs → Prop} {t : Bs} (h : t.head? = some 68) (he : Ex X t) : X t := by
 cases he with
 | here hx => exact hx
 | kid h1 _ _ => rcases h1 with h1 | h1 | h1 | h1 <;> rw [h] at h1 <;> simp at h1
theorem can_shut {H X : Bs → Prop} (hX : Shut' X) (hH : ∀ t, H t → ¬ Ex X t) {t : Bs} (h : Can H t) : ¬ Ex X t := by
 induction h with
 | heard a => exact hH _ a
 | whole _ _ _ _ ih =>
   intro he
   cases he with
   | here hx =>
     rcases hX _ hx with h1 | ⟨_, k, hk, hk2⟩
     · contradiction
     · exact ih k hk (.here hk2)
   | kid _ hk he => exact ih _ hk he
 | agree1 _ h2 _ _ _ _ _ _ =>
   intro he
   cases he with
   | here hx => rcases hX _ hx with h1 | ⟨h1, _⟩ <;> rw [h2] at h1 <;> simp at h1
   | kid h1 _ _ => rcases h1 with h1 | h1 | h1 | h1 <;> rw [h2] at h1 <;> simp at h1
 | agree2 _ h2 _ _ _ _ _ _ =>
   intro he
   cases he with
   | here hx => rcases hX _ hx with h1 | ⟨h1, _⟩ <;> rw [h2] at h1 <;> simp at h1
   | kid h1 _ _ => rcases h1 with h1 | h1 | h1 | h1 <;> rw [h2] at h1 <;> simp at h1
 | pub _ h0 _ => exact ex_pk hX (pub_head h0)
 | part _ h1 hk ih => exact fun he => ih (.kid (.inl h1) hk he)
 | opened _ h1 hk _ ih _ => exact fun he => ih (.kid (.inr (.inl h1)) (by rw [hk]; simp) he)
inductive Ch (x : Bs) : Bs → Prop
 | here : Ch x x
 | up {t k : Bs} : t.head? = some 68 → k ∈ Tm.kidsOf 63 t → Ch x k → Ch x t
theorem ch_shut {x : Bs} (h : x.head? = some 110) : Shut' (Ch x) := by
 intro t ht
 cases ht with
 | here => exact .inl h
 | up h1 hk hc => exact .inr ⟨h1, _, hk, hc⟩
end Go.Proofs.YtkifchjpgdmcoaaGreatDoor

/- Keys: what who has heard one side's secrets can and cannot make. -/
namespace Go.Proofs.YtkifchjpgdmcoaaGreatDoor
theorem lab_heads : (labk wChan 1).head? = some 84 ∧ (labk wChan 2).head? = some 84 ∧ (∀ j : Fin 6, (labk (lb j.1) 0).head? = some 84) ∧ labk (lb 5) 0 ≠ labk (lb 4) 0 := by decide +kernel
structure Sd2 (r : Bs) (k : Nat) : Prop where
 is : Tm.Is 1 r
 len : r.length ≤ 22
 hd : r.head? = some 110
 k2 : k = 1 ∨ k = 2
section
variable {r : Bs} {k : Nat}
theorem Sd2.bsD (h : Sd2 r k) : Dt 3 53 (bs r k) ∧ Tm.kidsOf 63 (bs r k) = [r, labk wChan k] := (bs_is h.is h.len h.k2).2
theorem Sd2.csD (h : Sd2 r k) {j : Nat} (hj : j < 6) : Dt 4 84 (cs (bs r k) j) ∧ Tm.kidsOf 63 (cs (bs r k) j) = [bs r k, labk (lb j) 0] := (cs_is h.bsD.1 hj).2
theorem Sd2.lab (h : Sd2 r k) : (labk wChan k).head? = some 84 := by
 rcases h.k2 with e | e <;> subst e
 · exact lab_heads.1
 · exact lab_heads.2.1
theorem Sd2.deep3 (h : Sd2 r k) : Tm.deep (bs r k) = 3 := by
 have hd : Tm.deep r = 1 := Tm.is_deep h.is (by omega) (by have := h.len; omega)
 have hlk : Tm.deep (labk wChan k) = 2 ∧ (labk wChan k).length ≤ 30 := by
   rcases h.k2 with e | e <;> subst e
   · exact lab_all8.1
   · exact lab_all8.2.1
 have := (child_is (by omega : Tm.deep r ≠ 0) (by omega) (by have := h.len; omega) hlk.1 hlk.2).2.1
 show Tm.deep (68 :: _) = 3
 omega
theorem Sd2.deep4 (h : Sd2 r k) {j : Nat} (hj : j < 6) : Tm.deep (cs (bs r k) j) = 4 := by
 have hlk : Tm.deep (labk (lb j) 0) = 2 ∧ (labk (lb j) 0).length ≤ 30 := lab_all8.2.2 ⟨j, hj⟩
 have h3 := h.deep3
 have hl := h.bsD.1.len
 have := (child_is (by omega : Tm.deep (bs r k) ≠ 0) (by omega) (by omega) hlk.1 hlk.2).2.1
 show Tm.deep (68 :: _) = 4
 omega
theorem Sd2.ch (h : Sd2 r k) {j : Nat} (hj : j < 6) : Ch r (cs (bs r k) j) :=
 .up (h.csD hj).1.hd (by rw [(h.csD hj).2]; simp) (.up h.bsD.1.hd (by rw [h.bsD.2]; simp) .here)
theorem not_ch {x t : Bs} {c : UInt8} (hx : x.head? = some 110) (ht : t.head? = some c) (h1 : c ≠ 110) (h2 : c ≠ 68) : ¬ Ch x t := by
 intro h
 cases h with
 | here => rw [hx] at ht; cases ht; exact h1 rfl
 | up hh _ _ => rw [hh] at ht; cases ht; exact h2 rfl
theorem Sd2.not (h : Sd2 r k) {x : Bs} (hx : x.head? = some 110) (hne : r ≠ x) {j : Nat} (hj : j < 6) : ¬ Ch x (cs (bs r k) j) := by
 have hb : ¬ Ch x (bs r k) := by
   intro hc
   generalize hg : bs r k = b at hc
   cases hc with
   | here => have := h.bsD.1.hd; rw [hg, hx] at this; cases this
   | up _ hk hc =>
     rw [← hg, h.bsD.2] at hk
     simp at hk
     rcases hk with e | e
     · rw [e] at hc
       generalize hr : r = y at hc
       cases hc with
       | here => exact hne hr
       | up hh _ _ => rw [← hr, h.hd] at hh; cases hh
     · rw [e] at hc
       exact not_ch hx h.lab (by decide) (by decide) hc
 intro hc
 generalize hg : cs (bs r k) j = b at hc
 cases hc with
 | here => have := (h.csD hj).1.hd; rw [hg, hx] at this; cases this
 | up _ hk hc =>
   rw [← hg, (h.csD hj).2] at hk
   simp at hk
   rcases hk with e | e
   · rw [e] at hc; exact hb hc
   · rw [e] at hc
     exact not_ch hx (lab_heads.2.2.1 ⟨j, hj⟩) (by decide) (by decide) hc
end
theorem fr_ch {x : Bs} : ∀ (k i : Nat) (y : Bs) (D B : Nat), k ≤ 20 → Dt D B y → D + k ≤ 64 → B + 6 * k ≤ 16384 → Ch x y → Ch x (Sd.fr stp k i y).1 ∧ ((Sd.fr stp k i y).1 = y ∨ Tm.deep y < Tm.deep (Sd.fr stp k i y).1)
 | 0, _, _, _, _, _, _, _, _, hc => ⟨hc, .inl rfl⟩
 | k + 1, i, y, D, B, hk, h, hd, hl, hc => by
   unfold Sd.fr
   cases i.testBit k with
   | false => exact fr_ch k i y D B (by omega) h (by omega) (by omega) hc
   | true =>
     have q1 := h.le
     have q2 := h.len
     obtain ⟨h1, h2, h3⟩ := stp_ok (b := k) (by omega) h.deep (by omega) (by omega)
     simp only [if_true, h1]
     obtain ⟨e, ha, hb, hm, hz⟩ := bRes_two_ok (show (bRes 68 [] [y, lab k]).2 = 0 from h1)
     have he : (stp y k).1 = 68 :: (y ++ lab k) := by show (bRes 68 [] [y, lab k]).1 = _; rw [e]
     have hkid := (made_two (op := 68) rfl ha hb hm hz).2
     have hx : Dt (D + 1) (B + 6) (stp y k).1 := ⟨by omega, by omega, by omega, by rw [he]; rfl⟩
     have hc2 : Ch x (stp y k).1 := .up hx.hd (by rw [he, hkid]; simp) hc
     obtain ⟨g1, g2⟩ := fr_ch k i _ (D + 1) (B + 6) (by omega) hx (by omega) (by omega) hc2
     refine ⟨g1, .inr ?_⟩
     rcases g2 with g2 | g2
     · rw [g2]; omega
     · omega
structure Sec2 (r : Bs) (k : Nat) (t : Bs) : Prop where
 dt : Dt 24 204 t
 ch : Ch r t
 far : t = cs (bs r k) 5 ∨ 4 < Tm.deep t
theorem sec2_of {r : Bs} {k : Nat} (h : Sd2 r k) {n : Int} (h0 : 0 ≤ n) (h1 : n ≤ 1048575) : ∃ t, secRes (cs (bs r k) 5) (1048575 - n) = (t, 0) ∧ Sec2 r k t := by
 have hc := h.csD (by decide : 5 < 6)
 have hf := fr_dt 20 (1048575 - n).toNat (cs (bs r k) 5) 4 84 (by omega) hc.1 (by omega) (by omega)
 have hg := fr_ch (x := r) 20 (1048575 - n).toNat (cs (bs r k) 5) 4 84 (by omega) hc.1 (by omega) (by omega) (h.ch (by decide))
 refine ⟨(Sd.fr stp 20 (1048575 - n).toNat (cs (bs r k) 5)).1, ?_, hf.2, hg.1, ?_⟩
 · unfold secRes
   rw [if_neg (by omega), if_neg hc.1.deep]
   exact Prod.ext rfl hf.1
 · rcases hg.2 with e | e
   · exact .inl e
   · have := h.deep4 (by decide : 5 < 6)
     exact .inr (by omega)
section
variable {ra rb t : Bs}
def pubL (S O : S6) (t : Bs) : List Bs := [80 :: S.f, 80 :: S.r, 80 :: S.p, 80 :: S.l, 80 :: S.h, 80 :: O.f, 80 :: O.r, 80 :: O.p, 80 :: O.l, 80 :: O.h, 80 :: t, (setS S O t).f, (setS S O t).r, (setS S O t).p, (setS S O t).l]
def secL (S : S6) : List Bs := [S.f, S.r, S.p, S.l, S.h, S.s]
theorem pub_pk {S O : S6} {t x : Bs} (h : x ∈ pubL S O t) : Tm.isPk x.head? = true := by
 simp only [pubL, setS, List.mem_cons, List.not_mem_nil, or_false] at h
 rcases h with h | h | h | h | h | h | h | h | h | h | h | h | h | h | h <;> subst h <;> rfl
theorem sec_mem {r : Bs} {k : Nat} {x : Bs} (h : x ∈ secL (chanS (bs r k))) : ∃ j, j < 6 ∧ x = cs (bs r k) j := by
 simp only [secL, chanS, List.mem_cons, List.not_mem_nil, or_false] at h
 rcases h with h | h | h | h | h | h
 · exact ⟨0, by decide, h⟩
 · exact ⟨1, by decide, h⟩
 · exact ⟨2, by decide, h⟩
 · exact ⟨3, by decide, h⟩
 · exact ⟨4, by decide, h⟩
 · exact ⟨5, by decide, h⟩
def revT (rb t : Bs) : Bs := 86 :: (cs (bs rb 2) 1 ++ t)
def bndT (b t : Bs) : Bs := 75 :: (cs b 4 ++ (80 :: t))
theorem rev_kids (hb : Sd2 rb 2) (ht : Dt 24 204 t) : Tm.kidsOf 63 (revT rb t) = [cs (bs rb 2) 1, t] ∧ Tm.deep (revT rb t) ≠ 0 ∧ (revT rb t).length ≤ 400 := by
 have h := (hb.csD (by decide : 1 < 6)).1
 have q1 := h.le; have q2 := h.len; have q3 := ht.le; have q4 := ht.len
 have m := made_two (op := 86) rfl h.deep ht.deep (by omega) (by omega)
 exact ⟨m.2, by show Tm.deep (86 :: _) ≠ 0; omega, by show (86 :: _ : Bs).length ≤ 400; simp; omega⟩
theorem bnd_kids {r : Bs} {k : Nat} (hb : Sd2 r k) (ht : Dt 24 204 t) : Tm.kidsOf 63 (bndT (bs r k) t) = [cs (bs r k) 4, 80 :: t] ∧ Tm.deep (bndT (bs r k) t) ≠ 0 ∧ (bndT (bs r k) t).length ≤ 400 := by
 have h := (hb.csD (by decide : 4 < 6)).1
 have p2 := (pub_is ht (by decide) (by decide)).2
 have q1 := h.le; have q2 := h.len; have q3 := ht.le; have q4 := ht.len
 have m := made_two (op := 75) rfl h.deep (by omega : Tm.deep (80 :: t) ≠ 0) (by omega) (by simp; omega)
 exact ⟨m.2, by show Tm.deep (75 :: _) ≠ 0; omega, by show (75 :: _ : Bs).length ≤ 400; simp; omega⟩
theorem rev_ex {X : Bs → Prop} (hb : Sd2 rb 2) (ht : Dt 24 204 t) (h : X (cs (bs rb 2) 1) ∨ X t) : Ex X (revT rb t) := by
 rcases h with h | h
 · exact .kid (.inr (.inr (.inr rfl))) (by rw [(rev_kids hb ht).1]; simp) (.here h)
 · exact .kid (.inr (.inr (.inr rfl))) (by rw [(rev_kids hb ht).1]; simp) (.here h)
theorem bnd_ex {X : Bs → Prop} {r : Bs} {k : Nat} (hb : Sd2 r k) (ht : Dt 24 204 t) (h : X (cs (bs r k) 4)) : Ex X (bndT (bs r k) t) :=
 .kid (.inr (.inr (.inl rfl))) (by rw [(bnd_kids hb ht).1]; simp) (.here h)
theorem no_pub {S O : S6} {x y : Bs} {L : List Bs} (hx : x.head? = some 110) (hL : ∀ z ∈ L, z ∈ pubL S O t) (he : Ex (Ch x) y) : ¬ Can (fun z => z ∈ L) y :=
 fun hc => can_shut (ch_shut hx) (fun z hz => ex_pk (ch_shut hx) (pub_pk (hL z hz))) hc he
theorem no_side {S O : S6} {r x y : Bs} {k : Nat} {L : List Bs} (hs : Sd2 r k) (hx : x.head? = some 110) (hne : r ≠ x) (hL : ∀ z ∈ L, z ∈ pubL S O t ∨ z ∈ secL (chanS (bs r k))) (he : Ex (Ch x) y) : ¬ Can (fun z => z ∈ L) y :=
 fun hc => can_shut (ch_shut hx) (fun z hz => by
   rcases hL z hz with h | h
   · exact ex_pk (ch_shut hx) (pub_pk h)
   · obtain ⟨j, hj, rfl⟩ := sec_mem h
     exact fun h2 => hs.not hx hne hj (ex_68 (hs.csD hj).1.hd h2)) hc he
theorem no_mine {S O : S6} {L : List Bs} (ha : Sd2 ra 1) (hb : Sd2 rb 2) (hne : ra ≠ rb) (ht : Sec2 ra 1 t) (hL : ∀ z ∈ L, z = t ∨ z ∈ pubL S O t ∨ z ∈ secL (chanS (bs rb 2))) : ¬ Can (fun z => z ∈ L) (bndT (bs ra 1) t) := by
 let X : Bs → Prop := fun y => y = ra ∨ y = bs ra 1 ∨ y = cs (bs ra 1) 4
 have hX : Shut' X := by
   intro y hy
   rcases hy with h | h | h
   · rw [h]; exact .inl ha.hd
   · rw [h]; exact .inr ⟨ha.bsD.1.hd, ra, by rw [ha.bsD.2]; simp, .inl rfl⟩
   · rw [h]; exact .inr ⟨(ha.csD (by decide)).1.hd, bs ra 1, by rw [(ha.csD (by decide : 4 < 6)).2]; simp, .inr (.inl rfl)⟩
 have far : ∀ y, y.head? = some 68 → y ≠ bs ra 1 → y ≠ cs (bs ra 1) 4 → ¬ Ex X y := fun y h1 h2 h3 he => by
   rcases ex_68 h1 he with h | h | h
   · rw [h, ha.hd] at h1; cases h1
   · exact h2 h
   · exact h3 h
 have d3 := ha.deep3
 have d4 := ha.deep4 (by decide : 4 < 6)
 intro hc
 refine can_shut hX (fun z hz => ?_) hc (bnd_ex ha ht.dt (.inr (.inr rfl)))
 rcases hL z hz with h | h | h
 · subst h
   refine far z ht.dt.hd (fun e => ?_) (fun e => ?_)
   · have d5 := ha.deep4 (by decide : 5 < 6)
     rcases ht.far with f | f
     · rw [e] at f; rw [f] at d3; omega
     · rw [e] at f; omega
   · rcases ht.far with f | f
     · rw [e] at f
       have k4 := (ha.csD (by decide : 4 < 6)).2
       rw [f, (ha.csD (by decide : 5 < 6)).2] at k4
       simp at k4
       exact lab_heads.2.2.2 k4
     · rw [e] at f; omega
 · exact ex_pk hX (pub_pk h)
 · obtain ⟨j, hj, rfl⟩ := sec_mem h
   refine far _ (hb.csD hj).1.hd (fun e => ?_) (fun e => ?_)
   · have := hb.deep4 hj
     rw [e] at this
     omega
   · have k4 := (ha.csD (by decide : 4 < 6)).2
     rw [← e, (hb.csD hj).2] at k4
     simp at k4
     have k3 := ha.bsD.2
     rw [← k4.1, hb.bsD.2] at k3
     simp at k3
     exact hne k3.1.symm
theorem can_two {H : Bs → Prop} {y p q : Bs} (hd : Tm.deep y ≠ 0) (h1 : y.head? ≠ some 110) (h2 : y.head? ≠ some 88) (hk : Tm.kidsOf 63 y = [p, q]) (hp : H p) (hq : H q) : Can H y :=
 .whole hd h1 h2 (fun k hk' => by
   rw [hk] at hk'
   simp at hk'
   rcases hk' with e | e <;> rw [e]
   · exact .heard hp
   · exact .heard hq)
end
end Go.Proofs.YtkifchjpgdmcoaaGreatDoor

/- KeysSecret: whatever two names and commitment. -/
namespace Go.Proofs.YtkifchjpgdmcoaaGreatDoor
open Go.RowKit
theorem and_mask20 (n : Int) : 0 ≤ bits .and .i64 n 1048575 ∧ bits .and .i64 n 1048575 ≤ 1048575 := by
 have h2 : (BitVec.ofInt 64 (1048575 : Int)).toNat = 1048575 := by decide
 change 0 ≤ IntKind.i64.wrap ((BitVec.ofInt 64 n &&& BitVec.ofInt 64 (1048575 : Int)).toNat : Int) ∧ IntKind.i64.wrap ((BitVec.ofInt 64 n &&& BitVec.ofInt 64 (1048575 : Int)).toNat : Int) ≤ 1048575
 rw [BitVec.toNat_and, h2, IntKind.wrap_i64]
 have : (BitVec.ofInt 64 n).toNat &&& 1048575 ≤ 1048575 := Nat.and_le_right
 omega
theorem sum_few {n : Nat} : ∀ (l : List Bs), (∀ x ∈ l, x.length ≤ n) → (l.map List.length).sum ≤ n * l.length
 | [], _ => by simp
 | x :: l, h => by
   have h1 := h x List.mem_cons_self
   have h2 := sum_few l (fun y hy => h y (List.mem_cons_of_mem _ hy))
   simp only [List.map_cons, List.sum_cons, List.length_cons, Nat.mul_succ]
   omega
def Rs (x : Bs) : Prop := Tm.deep x ≠ 0 ∧ x.length ≤ 400
theorem Dt.rs {D B : Nat} {x : Bs} (h : Dt D B x) (hB : B ≤ 400) : Rs x := ⟨h.deep, Nat.le_trans h.len hB⟩
theorem Dt.prs {D B : Nat} {x : Bs} (h : Dt D B x) (hD : D ≤ 40) (hB : B ≤ 399) : Rs (80 :: x) := by
 have h2 := (pub_is h hD (by omega)).2
 have := h.len
 exact ⟨by omega, by simp; omega⟩
theorem joint_rs {a t : Bs} (ha : Dt 4 84 a) (ht : Dt 24 204 t) : Rs (87 :: ((80 :: a) ++ (80 :: t))) := by
 have p1 := (pub_is ha (by decide) (by decide)).2
 have p2 := (pub_is ht (by decide) (by decide)).2
 have q1 := ha.le; have q2 := ha.len; have q3 := ht.le; have q4 := ht.len
 have i2 := Tm.is_joint (Tm.deep_is (by omega : Tm.deep (80 :: a) ≠ 0)).1 (Tm.deep_is (by omega : Tm.deep (80 :: t) ≠ 0)).1 rfl rfl
 have h := Tm.is_deep i2 (by omega) (by simp; omega)
 exact ⟨by rw [h]; omega, by simp; omega⟩
theorem bound_rs {a t : Bs} (ha : Dt 4 84 a) (ht : Dt 24 204 t) : Rs (76 :: ((80 :: a) ++ (80 :: t))) := by
 have p1 := (pub_is ha (by decide) (by decide)).2
 have p2 := (pub_is ht (by decide) (by decide)).2
 have q1 := ha.le; have q2 := ha.len; have q3 := ht.le; have q4 := ht.len
 have i2 := Tm.is_bound (Tm.deep_is (by omega : Tm.deep (80 :: a) ≠ 0)).1 (Tm.deep_is (by omega : Tm.deep (80 :: t) ≠ 0)).1 rfl
 have h := Tm.is_deep i2 (by omega) (by simp; omega)
 exact ⟨by rw [h]; omega, by simp; omega⟩
section
variable {ra rb t : Bs}
def allL (S O : S6) (t : Bs) : List Bs := pubL S O t ++ (secL S ++ (secL O ++ [t]))
theorem all_rs (ha : Sd2 ra 1) (hb : Sd2 rb 2) (ht : Dt 24 204 t) : ∀ x ∈ allL (chanS (bs ra 1)) (chanS (bs rb 2)) t, Rs x := by
 have D := fun (j : Nat) (hj : j < 6) => (ha.csD hj).1
 have E := fun (j : Nat) (hj : j < 6) => (hb.csD hj).1
 intro x hx
 rcases List.mem_append.1 hx with h | h
 · simp only [pubL, setS, chanS, List.mem_cons, List.not_mem_nil, or_false] at h
   rcases h with h | h | h | h | h | h | h | h | h | h | h | h | h | h | h <;> subst h
   · exact (D 0 (by decide)).prs (by decide) (by decide)
   · exact (D 1 (by decide)).prs (by decide) (by decide)
   · exact (D 2 (by decide)).prs (by decide) (by decide)
   · exact (D 3 (by decide)).prs (by decide) (by decide)
   · exact (D 4 (by decide)).prs (by decide) (by decide)
   · exact (E 0 (by decide)).prs (by decide) (by decide)
   · exact (E 1 (by decide)).prs (by decide) (by decide)
   · exact (E 2 (by decide)).prs (by decide) (by decide)
   · exact (E 3 (by decide)).prs (by decide) (by decide)
   · exact (E 4 (by decide)).prs (by decide) (by decide)
   · exact ht.prs (by decide) (by decide)
   · exact joint_rs (E 1 (by decide)) ht
   · exact bound_rs (D 3 (by decide)) ht
   · exact bound_rs (D 4 (by decide)) ht
   · exact bound_rs (E 4 (by decide)) ht
 · rcases List.mem_append.1 h with h | h
   · obtain ⟨j, hj, rfl⟩ := sec_mem h
     exact (D j hj).rs (by decide)
   · rcases List.mem_append.1 h with h | h
     · obtain ⟨j, hj, rfl⟩ := sec_mem h
       exact (E j hj).rs (by decide)
     · rw [List.mem_singleton.1 h]
       exact ht.rs (by decide)
theorem all_uni (ha : Sd2 ra 1) (hb : Sd2 rb 2) (ht : Dt 24 204 t) : ∃ U, Uni U ∧ ∀ x ∈ allL (chanS (bs ra 1)) (chanS (bs rb 2)) t, x ∈ U := by
 have h := all_rs ha hb ht
 have hs := sum_few _ (fun x hx => (h x hx).2)
 have hn : (allL (chanS (bs ra 1)) (chanS (bs rb 2)) t).length = 28 := rfl
 rw [hn] at hs
 have hu := uni_of (fun x hx => (h x hx).1) (by omega)
 exact ⟨_, hu.1, hu.2⟩
theorem name_ne {a b : Int} (ha : 0 ≤ a) (hb : 0 ≤ b) (ha' : a ≤ 9223372036854775807) (hb' : b ≤ 9223372036854775807) (h : a ≠ b) : (110 :: (Lib.decDigits a.toNat ++ [59]) : Bs) ≠ 110 :: (Lib.decDigits b.toNat ++ [59]) := by
 intro e
 have e2 : Lib.decDigits a.toNat ++ 59 :: [] = Lib.decDigits b.toNat ++ 59 :: [] := by simpa using e
 have h1 := num_name a.toNat (by omega) []
 rw [e2, num_name b.toNat (by omega) []] at h1
 have : b.toNat = a.toNat := by simpa using h1
 omega
end
theorem bnd_yes {r t : Bs} {k : Nat} {H : Bs → Prop} (h : Sd2 r k) (ht : Dt 24 204 t) (h1 : H (cs (bs r k) 4)) (h2 : H (80 :: t)) : Can H (bndT (bs r k) t) :=
 can_two (bnd_kids h ht).2.1 (by simp [bndT]) (by simp [bndT]) (bnd_kids h ht).1 h1 h2
theorem rev_yes {r t : Bs} {H : Bs → Prop} (h : Sd2 r 2) (ht : Dt 24 204 t) (h1 : H (cs (bs r 2) 1)) (h2 : H t) : Can H (revT r t) :=
 can_two (rev_kids h ht).2.1 (by simp [revT]) (by simp [revT]) (rev_kids h ht).1 h1 h2
theorem secretLaw_any (a b n : Int) (ha : a ≤ 9223372036854775807) (hb : b ≤ 9223372036854775807) (w : World) (hp : Pw w) (hl : Lb w) (hG : G0 w) : Calls Tryz.prog 3 #[.int .i64 a, .int .i64 b, .int .i64 n] w fun e w' => e = .returned (.bool true) ∧ Below w.heap.size w w' := by
 by_cases hneg : a < 0 ∨ b < 0 ∨ a = b
 · exact secret_neg a b n hneg w
 · have hna : ¬ a < 0 := fun h => hneg (Or.inl h)
   have hnb : ¬ b < 0 := fun h => hneg (Or.inr (Or.inl h))
   have hab : ¬ a = b := fun h => hneg (Or.inr (Or.inr h))
   obtain ⟨ra, e1, d1, i1, g1, f1⟩ := name_res (by omega) ha
   obtain ⟨rb, e2, d2, i2, g2, f2⟩ := name_res (by omega) hb
   have hne : ra ≠ rb := by rw [f1, f2]; exact name_ne (by omega) (by omega) ha hb hab
   have hA : Sd2 ra 1 := ⟨i1, g1, d1, .inl rfl⟩
   have hB : Sd2 rb 2 := ⟨i2, g2, d2, .inr rfl⟩
   have hm := and_mask20 n
   generalize hmm : bits .and .i64 n 1048575 = m at hm
   have hS := chan_is i1 g1 (Or.inl rfl : (1 : Nat) = 1 ∨ 1 = 2)
   have hO := chan_is i2 g2 (Or.inr rfl : (2 : Nat) = 1 ∨ 2 = 2)
   have dS := hA.bsD.1
   have dO := hB.bsD.1
   have D := fun (j : Nat) (hj : j < 6) => (hA.csD hj).1
   have E := fun (j : Nat) (hj : j < 6) => (hB.csD hj).1
   obtain ⟨t, hsec, ht⟩ := sec2_of hA hm.1 hm.2
   have dt := ht.dt
   have hpt := pnt_is hsec dt
   have hset := set_is dS dO dt
   obtain ⟨U, hU, hin⟩ := all_uni hA hB dt
   have l4 := (D 3 (by decide)).len
   have l5 := (E 2 (by decide)).len
   have lr := (rev_kids hB dt).2.2
   have lm := (bnd_kids hA dt).2.2
   have lt := (bnd_kids hB dt).2.2
   have mem1 : ∀ (z : Bs), z ∈ (secL (chanS (bs ra 1))).reverse ++ (pubL (chanS (bs ra 1)) (chanS (bs rb 2)) t).reverse → z ∈ pubL (chanS (bs ra 1)) (chanS (bs rb 2)) t ∨ z ∈ secL (chanS (bs ra 1)) := fun z hz => by
     rcases List.mem_append.1 hz with h | h
     · exact .inr (List.mem_reverse.1 h)
     · exact .inl (List.mem_reverse.1 h)
   have mem2 : ∀ (z : Bs), z ∈ (secL (chanS (bs rb 2))).reverse ++ (pubL (chanS (bs ra 1)) (chanS (bs rb 2)) t).reverse → z ∈ pubL (chanS (bs ra 1)) (chanS (bs rb 2)) t ∨ z ∈ secL (chanS (bs rb 2)) := fun z hz => by
     rcases List.mem_append.1 hz with h | h
     · exact .inr (List.mem_reverse.1 h)
     · exact .inl (List.mem_reverse.1 h)
   have mem3 : ∀ (z : Bs), z ∈ t :: ((secL (chanS (bs rb 2))).reverse ++ (pubL (chanS (bs ra 1)) (chanS (bs rb 2)) t).reverse) → z = t ∨ z ∈ pubL (chanS (bs ra 1)) (chanS (bs rb 2)) t ∨ z ∈ secL (chanS (bs rb 2)) := fun z hz => by
     rcases List.mem_cons.1 hz with h | h
     · exact .inl h
     · exact .inr (mem2 z h)
   have mem0 : ∀ (z : Bs), z ∈ (pubL (chanS (bs ra 1)) (chanS (bs rb 2)) t).reverse → z ∈ pubL (chanS (bs ra 1)) (chanS (bs rb 2)) t := fun z hz => List.mem_reverse.1 hz
   have hpm : ∀ {l : List Bs} {z : Bs}, z ∈ pubL (chanS (bs ra 1)) (chanS (bs rb 2)) t → z ∈ l ++ (pubL (chanS (bs ra 1)) (chanS (bs rb 2)) t).reverse := fun hz => List.mem_append_right _ (List.mem_reverse.2 hz)
   have hpt80 : (80 :: t) ∈ pubL (chanS (bs ra 1)) (chanS (bs rb 2)) t := by simp [pubL]
   have ex1 : Ex (Ch rb) (revT rb t) := rev_ex hB dt (.inl (hB.ch (by decide)))
   have ex2 : Ex (Ch ra) (bndT (bs ra 1) t) := bnd_ex hA dt (hA.ch (by decide))
   have ex3 : Ex (Ch rb) (bndT (bs rb 2) t) := bnd_ex hB dt (hB.ch (by decide))
   exact secret_core (rev := revT rb t) (mine := bndT (bs ra 1) t) (theirs := bndT (bs rb 2) t) hna hnb hab hmm hm.1 hm.2 w
     (fun W hbl => sides_any ha hb (by omega) (by omega) e1 e2 hS hO (pubs_is dS) (pubs_is dO) hsec hpt hset W (hp.below hbl) (hl.below hbl))
     hpt (pubs_is dS) (pubs_is dO) (join_is (E 1 (by decide)) dt).1 (bind_is (D 4 (by decide)) dt).1 (bind_is (E 4 (by decide)) dt).1 hp hl hG hU
     (fun x hx => hin x (by
       simp only [allL, pubL, secL, setS, chanS, List.mem_append, List.mem_cons, List.not_mem_nil, or_false] at hx ⊢
       simpa only [or_assoc, chanS] using hx)) (by omega) (by omega) (by omega) (by show (cs (bs rb 2) 2).length ≤ 100000; omega) (by show (cs (bs ra 1) 3).length ≤ 100000; omega)
     (no_pub hB.hd mem0 ex1) (no_pub hA.hd mem0 ex2) (no_pub hB.hd mem0 ex3)
     (no_side hA hB.hd hne mem1 ex1) (no_side hA hB.hd hne mem1 ex3)
     (bnd_yes hA dt (List.mem_append_left _ (List.mem_reverse.2 (by simp))) (hpm hpt80))
     (no_side hB hA.hd hne.symm mem2 (rev_ex hB dt (.inr ht.ch))) (no_side hB hA.hd hne.symm mem2 ex2)
     (bnd_yes hB dt (List.mem_append_left _ (List.mem_reverse.2 (by simp))) (hpm hpt80))
     (no_side hA hB.hd hne mem1 (.here (hB.ch (by decide)))) (no_side hB hA.hd hne.symm mem2 (.here (hA.ch (by decide))))
     (rev_yes hB dt (List.mem_cons_of_mem _ (List.mem_append_left _ (List.mem_reverse.2 (by simp)))) List.mem_cons_self)
     (no_mine hA hB hne ht mem3)
end Go.Proofs.YtkifchjpgdmcoaaGreatDoor
