/- Keys: what two names' secrets and keys are. -/
import Derived.Test.YtkifchjpgdmcoaaGreatDoorKyG
import Derived.Test.YtkifchjpgdmcoaaGreatDoorKyH
import Derived.Test.YtkifchjpgdmcoaaGreatDoorNaAll
namespace Go.Proofs.YtkifchjpgdmcoaaGreatDoor
open Go.RowKit
structure Dt (D B : Nat) (t : Bs) : Prop where
 deep : Tm.deep t ≠ 0
 le : Tm.deep t ≤ D
 len : t.length ≤ B
 hd : t.head? = some 68
theorem Dt.mono {D B D' B' : Nat} {t : Bs} (h : Dt D B t) (h1 : D ≤ D') (h2 : B ≤ B') : Dt D' B' t := ⟨h.deep, by have := h.le; omega, by have := h.len; omega, h.hd⟩
theorem two_is (op : UInt8) {a b : Bs} (ha : Tm.deep a ≠ 0) (hb : Tm.deep b ≠ 0) (h1 : max (Tm.deep a) (Tm.deep b) + 1 ≤ 64) (h2 : 1 + a.length + b.length ≤ 16384) : bRes op [] [a, b] = (op :: (a ++ b), 0) := by
 rw [bRes_two, if_neg (by simp [ha, hb]), if_neg (by omega)]
theorem lab_all8 : (Tm.deep (labk wChan 1) = 2 ∧ (labk wChan 1).length ≤ 30) ∧ (Tm.deep (labk wChan 2) = 2 ∧ (labk wChan 2).length ≤ 30) ∧ ∀ j : Fin 6, Tm.deep (labk (lb j.1) 0) = 2 ∧ (labk (lb j.1) 0).length ≤ 30 := by decide +kernel
theorem child_is {x l : Bs} (hx : Tm.deep x ≠ 0) (hd : Tm.deep x ≤ 40) (hl : x.length ≤ 1000) (h2 : Tm.deep l = 2) (h3 : l.length ≤ 30) :
   bRes 68 [] [x, l] = (68 :: (x ++ l), 0) ∧ Tm.deep (68 :: (x ++ l)) = max (Tm.deep x) 2 + 1 ∧ Tm.kidsOf 63 (68 :: (x ++ l)) = [x, l] := by
 have e := two_is 68 hx (by omega : Tm.deep l ≠ 0) (by omega) (by omega)
 obtain ⟨h4, h5⟩ := made_two (op := 68) rfl hx (by omega : Tm.deep l ≠ 0) (by omega) (by omega)
 rw [h2] at h4
 exact ⟨e, h4, h5⟩
def bs (r : Bs) (k : Nat) : Bs := 68 :: (r ++ labk wChan k)
def cs (b : Bs) (j : Nat) : Bs := 68 :: (b ++ labk (lb j) 0)
def chanS (b : Bs) : S6 := ⟨cs b 0, cs b 1, cs b 2, cs b 3, cs b 4, cs b 5⟩
theorem bs_is {r : Bs} (hr : Tm.Is 1 r) (hl : r.length ≤ 22) {k : Nat} (hk : k = 1 ∨ k = 2) : numRes r wChan (k : Int) = (bs r k, 0) ∧ Dt 3 53 (bs r k) ∧ Tm.kidsOf 63 (bs r k) = [r, labk wChan k] := by
 have hd : Tm.deep r = 1 := Tm.is_deep hr (by omega) (by omega)
 have hlk : Tm.deep (labk wChan k) = 2 ∧ (labk wChan k).length ≤ 30 := by
   rcases hk with h | h <;> subst h
   · exact lab_all8.1
   · exact lab_all8.2.1
 obtain ⟨h1, h2, h3⟩ := child_is (by omega : Tm.deep r ≠ 0) (by omega) (by omega) hlk.1 hlk.2
 refine ⟨?_, ⟨by show Tm.deep (68 :: _) ≠ 0; omega, by show Tm.deep (68 :: _) ≤ 3; omega, by show (68 :: _ : Bs).length ≤ 53; simp; omega, rfl⟩, h3⟩
 unfold numRes
 rw [if_neg (by omega), Int.toNat_natCast]
 exact h1
theorem cs_is {b : Bs} (hb : Dt 3 53 b) {j : Nat} (hj : j < 6) : ckid b j = (cs b j, 0) ∧ Dt 4 84 (cs b j) ∧ Tm.kidsOf 63 (cs b j) = [b, labk (lb j) 0] := by
 have hlk : Tm.deep (labk (lb j) 0) = 2 ∧ (labk (lb j) 0).length ≤ 30 := lab_all8.2.2 ⟨j, hj⟩
 have q1 := hb.le
 have q2 := hb.len
 obtain ⟨h1, h2, h3⟩ := child_is hb.deep (by omega) (by omega) hlk.1 hlk.2
 exact ⟨h1, ⟨by show Tm.deep (68 :: _) ≠ 0; omega, by show Tm.deep (68 :: _) ≤ 4; omega, by show (68 :: _ : Bs).length ≤ 84; simp; omega, rfl⟩, h3⟩
theorem chan_is {r : Bs} (hr : Tm.Is 1 r) (hl : r.length ≤ 22) {k : Nat} (hk : k = 1 ∨ k = 2) : chanRes r (k : Int) = (chanS (bs r k), 0) := by
 obtain ⟨h1, h2, _⟩ := bs_is hr hl hk
 rw [chan_ok h1 (fun j hj => by rw [(cs_is h2 hj).1])]
 rw [(cs_is h2 (by decide : 0 < 6)).1, (cs_is h2 (by decide : 1 < 6)).1, (cs_is h2 (by decide : 2 < 6)).1, (cs_is h2 (by decide : 3 < 6)).1, (cs_is h2 (by decide : 4 < 6)).1, (cs_is h2 (by decide : 5 < 6)).1]
 rfl
theorem pub_is {D B : Nat} {t : Bs} (h : Dt D B t) (hD : D ≤ 40) (hB : B ≤ 1000) : pubRes t = (80 :: t, 0) ∧ Tm.deep (80 :: t) = Tm.deep t + 1 := by
 have q1 := h.le
 have q2 := h.len
 have hi := (Tm.deep_is h.deep).1
 have e := Tm.pk_else hi (by omega) (by rw [h.hd]; decide) (by rw [h.hd]; decide)
 have h2 : Tm.deep (80 :: t) = Tm.deep t + 1 := Tm.is_deep (Tm.is_pub hi (by rw [h.hd]; decide) (by rw [h.hd]; decide)) (by omega) (by simp; omega)
 refine ⟨?_, h2⟩
 unfold pubRes
 rw [if_neg h.deep, e, if_neg (by omega)]
def pubS (s : S6) : K5 := ⟨80 :: s.f, 80 :: s.r, 80 :: s.p, 80 :: s.l, 80 :: s.h⟩
theorem pubs_is {b : Bs} (hb : Dt 3 53 b) : pubs5 (chanS b) = (pubS (chanS b), 0) := by
 have h : ∀ j, j < 5 → pubRes ((chanS b).at j) = (80 :: (chanS b).at j, 0) := fun j hj => by
   match j, hj with
   | 0, _ => exact (pub_is (cs_is hb (by decide : 0 < 6)).2.1 (by decide) (by decide)).1
   | 1, _ => exact (pub_is (cs_is hb (by decide : 1 < 6)).2.1 (by decide) (by decide)).1
   | 2, _ => exact (pub_is (cs_is hb (by decide : 2 < 6)).2.1 (by decide) (by decide)).1
   | 3, _ => exact (pub_is (cs_is hb (by decide : 3 < 6)).2.1 (by decide) (by decide)).1
   | 4, _ => exact (pub_is (cs_is hb (by decide : 4 < 6)).2.1 (by decide) (by decide)).1
 rw [pubs5_ok (fun j hj => by rw [h j hj])]
 have h0 : pubRes (chanS b).f = _ := h 0 (by decide)
 have h1 : pubRes (chanS b).r = _ := h 1 (by decide)
 have h2 : pubRes (chanS b).p = _ := h 2 (by decide)
 have h3 : pubRes (chanS b).l = _ := h 3 (by decide)
 have h4 : pubRes (chanS b).h = _ := h 4 (by decide)
 rw [h0, h1, h2, h3, h4]
 rfl
theorem fr_dt : ∀ (k i : Nat) (x : Bs) (D B : Nat), k ≤ 20 → Dt D B x → D + k ≤ 64 → B + 6 * k ≤ 16384 → (Sd.fr stp k i x).2 = 0 ∧ Dt (D + k) (B + 6 * k) (Sd.fr stp k i x).1
 | 0, _, _, _, _, _, h, _, _ => ⟨rfl, h⟩
 | k + 1, i, x, D, B, hk, h, hd, hl => by
   unfold Sd.fr
   cases i.testBit k with
   | false =>
     have := fr_dt k i x D B (by omega) h (by omega) (by omega)
     exact ⟨this.1, this.2.mono (by omega) (by omega)⟩
   | true =>
     have q1 := h.le
     have q2 := h.len
     obtain ⟨h1, h2, h3⟩ := stp_ok (b := k) (by omega) h.deep (by omega) (by omega)
     simp only [if_true, h1]
     have hx : Dt (D + 1) (B + 6) (stp x k).1 := ⟨by omega, by omega, by omega, by
       obtain ⟨e, _⟩ := bRes_two_ok (show (bRes 68 [] [x, lab k]).2 = 0 from h1)
       show (bRes 68 [] [x, lab k]).1.head? = _
       rw [e]
       rfl⟩
     have := fr_dt k i _ (D + 1) (B + 6) (by omega) hx (by omega) (by omega)
     exact ⟨this.1, this.2.mono (by omega) (by omega)⟩
theorem sec_dt {s : Bs} (h : Dt 4 84 s) {n : Int} (h0 : 0 ≤ n) (h1 : n ≤ 1048575) : ∃ t, secRes s (1048575 - n) = (t, 0) ∧ Dt 24 204 t := by
 have hf := fr_dt 20 (1048575 - n).toNat s 4 84 (by omega) h (by omega) (by omega)
 refine ⟨(Sd.fr stp 20 (1048575 - n).toNat s).1, ?_, hf.2⟩
 unfold secRes
 rw [if_neg (by omega), if_neg h.deep]
 exact Prod.ext rfl hf.1
theorem pnt_is {s t : Bs} {n : Int} (h : secRes s (1048575 - n) = (t, 0)) (ht : Dt 24 204 t) : pntRes s n = (80 :: t, 0) := by
 unfold pntRes
 rw [h, if_pos rfl]
 exact (pub_is ht (by decide) (by decide)).1
def setS (s o : S6) (t : Bs) : K5 := ⟨87 :: ((80 :: o.r) ++ (80 :: t)), 76 :: ((80 :: s.l) ++ (80 :: t)), 76 :: ((80 :: s.h) ++ (80 :: t)), 76 :: ((80 :: o.h) ++ (80 :: t)), 80 :: o.p⟩
theorem joint_is {a t : Bs} (ha : Dt 4 84 a) (ht : Dt 24 204 t) : jointRes (80 :: a) (80 :: t) = (87 :: ((80 :: a) ++ (80 :: t)), 0) := by
 have p1 := (pub_is ha (by decide) (by decide)).2
 have p2 := (pub_is ht (by decide) (by decide)).2
 have q1 := ha.le; have q2 := ha.len; have q3 := ht.le; have q4 := ht.len
 unfold jointRes
 rw [if_pos (show (Tm.isPk (80 :: a).head? && Tm.isPk (80 :: t).head?) = true from rfl)]
 exact two_is 87 (by omega) (by omega) (by omega) (by simp; omega)
theorem bound_is {a t : Bs} (ha : Dt 4 84 a) (ht : Dt 24 204 t) : boundRes (80 :: a) (80 :: t) = (76 :: ((80 :: a) ++ (80 :: t)), 0) := by
 have p1 := (pub_is ha (by decide) (by decide)).2
 have p2 := (pub_is ht (by decide) (by decide)).2
 have q1 := ha.le; have q2 := ha.len; have q3 := ht.le; have q4 := ht.len
 unfold boundRes
 rw [if_pos (show Tm.isPk (80 :: a).head? = true from rfl)]
 exact two_is 76 (by omega) (by omega) (by omega) (by simp; omega)
theorem set_is {b c t : Bs} (hb : Dt 3 53 b) (hc : Dt 3 53 c) (ht : Dt 24 204 t) : setRes (pubS (chanS b)) (pubS (chanS c)) (80 :: t) = (setS (chanS b) (chanS c) t, 0) := by
 have D := fun (j : Nat) (hj : j < 6) => (cs_is hb hj).2.1
 have E := fun (j : Nat) (hj : j < 6) => (cs_is hc hj).2.1
 have e0 : jointRes (pubS (chanS c)).r (80 :: t) = _ := joint_is (E 1 (by decide)) ht
 have e1 : boundRes (pubS (chanS b)).l (80 :: t) = _ := bound_is (D 3 (by decide)) ht
 have e2 : boundRes (pubS (chanS b)).h (80 :: t) = _ := bound_is (D 4 (by decide)) ht
 have e3 : boundRes (pubS (chanS c)).h (80 :: t) = _ := bound_is (E 4 (by decide)) ht
 have e4 : pkRes (pubS (chanS c)).p = ((pubS (chanS c)).p, 0) := by
   have := (pub_is (E 2 (by decide)) (by decide) (by decide)).2
   have h2 := (E 2 (by decide)).deep
   unfold pkRes
   rw [if_pos ⟨by show Tm.deep (80 :: cs c 2) ≠ 0; omega, rfl⟩]
 rw [setRes_ok (fun j hj => by
   match j, hj with
   | 0, _ => show (jointRes (pubS (chanS c)).r (80 :: t)).2 = 0; rw [e0]
   | 1, _ => show (boundRes (pubS (chanS b)).l (80 :: t)).2 = 0; rw [e1]
   | 2, _ => show (boundRes (pubS (chanS b)).h (80 :: t)).2 = 0; rw [e2]
   | 3, _ => show (boundRes (pubS (chanS c)).h (80 :: t)).2 = 0; rw [e3]
   | 4, _ => show (pkRes (pubS (chanS c)).p).2 = 0; rw [e4])]
 rw [e0, e1, e2, e3, e4]
 rfl
theorem bind_is {a t : Bs} (ha : Dt 4 84 a) (ht : Dt 24 204 t) : bRes 75 [] [a, 80 :: t] = (75 :: (a ++ (80 :: t)), 0) ∧ pubRes (75 :: (a ++ (80 :: t))) = (76 :: ((80 :: a) ++ (80 :: t)), 0) := by
 have p1 := (pub_is ha (by decide) (by decide)).2
 have p2 := (pub_is ht (by decide) (by decide)).2
 have q1 := ha.le; have q2 := ha.len; have q3 := ht.le; have q4 := ht.len
 have e := two_is 75 ha.deep (by omega : Tm.deep (80 :: t) ≠ 0) (by omega) (by simp; omega)
 refine ⟨e, ?_⟩
 have hd := (made_two (op := 75) rfl ha.deep (by omega : Tm.deep (80 :: t) ≠ 0) (by omega) (by simp; omega)).1
 have ia := (Tm.deep_is ha.deep).1
 have it := (Tm.deep_is (by omega : Tm.deep (80 :: t) ≠ 0)).1
 have hpk := Tm.pk_bind ia it (by omega) (by omega)
 rw [Tm.pk_else ia (by omega) (by rw [ha.hd]; decide) (by rw [ha.hd]; decide)] at hpk
 have h3 : Tm.deep (76 :: ((80 :: a) ++ (80 :: t))) ≠ 0 := by
   have i2 := Tm.is_bound (Tm.deep_is (by omega : Tm.deep (80 :: a) ≠ 0)).1 it rfl
   rw [Tm.is_deep i2 (by omega) (by simp; omega)]
   omega
 unfold pubRes
 rw [if_neg (by omega), hpk, if_neg h3]
theorem join_is {a t : Bs} (ha : Dt 4 84 a) (ht : Dt 24 204 t) : bRes 86 [] [a, t] = (86 :: (a ++ t), 0) ∧ pubRes (86 :: (a ++ t)) = (87 :: ((80 :: a) ++ (80 :: t)), 0) := by
 have p1 := (pub_is ha (by decide) (by decide)).2
 have p2 := (pub_is ht (by decide) (by decide)).2
 have q1 := ha.le; have q2 := ha.len; have q3 := ht.le; have q4 := ht.len
 have e := two_is 86 ha.deep ht.deep (by omega) (by omega)
 refine ⟨e, ?_⟩
 have hd := (made_two (op := 86) rfl ha.deep ht.deep (by omega) (by omega)).1
 have ia := (Tm.deep_is ha.deep).1
 have it := (Tm.deep_is ht.deep).1
 have hpk := Tm.pk_join ia it (by omega) (by omega)
 rw [Tm.pk_else ia (by omega) (by rw [ha.hd]; decide) (by rw [ha.hd]; decide), Tm.pk_else it (by omega) (by rw [ht.hd]; decide) (by rw [ht.hd]; decide)] at hpk
 have h3 : Tm.deep (87 :: ((80 :: a) ++ (80 :: t))) ≠ 0 := by
   have i2 := Tm.is_joint (Tm.deep_is (by omega : Tm.deep (80 :: a) ≠ 0)).1 (Tm.deep_is (by omega : Tm.deep (80 :: t) ≠ 0)).1 rfl rfl
   rw [Tm.is_deep i2 (by omega) (by simp; omega)]
   omega
 unfold pubRes
 rw [if_neg (by omega), hpk, if_neg h3]
end Go.Proofs.YtkifchjpgdmcoaaGreatDoor
