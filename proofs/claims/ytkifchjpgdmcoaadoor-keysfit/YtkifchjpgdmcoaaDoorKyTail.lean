import Derived.Test.YtkifchjpgdmcoaaDoorKyG
import Derived.Test.YtkifchjpgdmcoaaDoorKyH
import Derived.Test.YtkifchjpgdmcoaaDoorSdN
import Derived.Test.YtkifchjpgdmcoaaDoorNameM
import Derived.Test.YtkifchjpgdmcoaaDoorKyT
/- Keys: what two names' secrets and keys are. -/
namespace Go.Proofs.YtkifchjpgdmcoaaDoor
open Go.RowKit

/-- a secret that was made as a child: not too deep, not too long -/
structure Dt (D B : Nat) (t : Bs) : Prop where
  deep : Tm.deep t ≠ 0
  le : Tm.deep t ≤ D
  len : t.length ≤ B
  hd : t.head? = some 68
theorem Dt.mono {D B D' B' : Nat} {t : Bs} (h : Dt D B t) (h1 : D ≤ D') (h2 : B ≤ B') : Dt D' B' t := ⟨h.deep, by have := h.le; omega, by have := h.len; omega, h.hd⟩
theorem two_is (op : UInt8) {a b : Bs} (ha : Tm.deep a ≠ 0) (hb : Tm.deep b ≠ 0) (h1 : max (Tm.deep a) (Tm.deep b) + 1 ≤ 64) (h2 : 1 + a.length + b.length ≤ 16384) : bRes op [] [a, b] = (op :: (a ++ b), 0) := by
  rw [bRes_two, if_neg (by simp [ha, hb]), if_neg (by omega)]
theorem lab_all8 : (Tm.deep (labk wChan 1) = 2 ∧ (labk wChan 1).length ≤ 30) ∧ (Tm.deep (labk wChan 2) = 2 ∧ (labk wChan 2).length ≤ 30) ∧ ∀ j : Fin 6, Tm.deep (labk (lb j.1) 0) = 2 ∧ (labk (lb j.1) 0).length ≤ 30 := by decide +kernel
theorem child_is {x l : Bs} (hx : Tm.deep x ≠ 0) (hd : Tm.deep x ≤ 40) (hl : x.length ≤ 1000) (h2 : Tm.deep l = 2) (h3 : l.length ≤ 30) :
    bRes 68 [] [x, l] = (68 :: (x ++ l), 0) ∧ Tm.deep (68 :: (x ++ l)) = max (Tm.deep x) 2 + 1 ∧ Tm.kidsOf 63 (68 :: (x ++ l)) = [x, l] := by
  have e := two_is 68 hx (by omega : Tm.deep l ≠ 0) (by omega) (by omega)
  obtain ⟨h4, h5⟩ := made_two (op := 68) rfl hx (by omega : Tm.deep l ≠ 0) (by omega) (by omega)
  rw [h2] at h4
  exact ⟨e, h4, h5⟩
/-- a channel's own secret of a root; its six -/
def bs (r : Bs) (k : Nat) : Bs := 68 :: (r ++ labk wChan k)
def cs (b : Bs) (j : Nat) : Bs := 68 :: (b ++ labk (lb j) 0)
def chanS (b : Bs) : S6 := ⟨cs b 0, cs b 1, cs b 2, cs b 3, cs b 4, cs b 5⟩
theorem bs_is {r : Bs} (hr : Tm.Is 1 r) (hl : r.length ≤ 22) {k : Nat} (hk : k = 1 ∨ k = 2) : numRes r wChan (k : Int) = (bs r k, 0) ∧ Dt 3 53 (bs r k) ∧ Tm.kidsOf 63 (bs r k) = [r, labk wChan k] := by
  have hd : Tm.deep r = 1 := Tm.is_deep hr (by omega) (by omega)
  have hlk : Tm.deep (labk wChan k) = 2 ∧ (labk wChan k).length ≤ 30 := by
    rcases hk with h | h <;> subst h
    · exact lab_all8.1
    · exact lab_all8.2.1
  obtain ⟨h1, h2, h3⟩ := child_is (by omega : Tm.deep r ≠ 0) (by omega) (by omega) hlk.1 hlk.2
  refine ⟨?_, ⟨by show Tm.deep (68 :: _) ≠ 0; omega, by show Tm.deep (68 :: _) ≤ 3; omega, by show (68 :: _ : Bs).length ≤ 53; simp; omega, rfl⟩, h3⟩
  unfold numRes
  rw [if_neg (by omega), Int.toNat_natCast]
  exact h1
theorem cs_is {b : Bs} (hb : Dt 3 53 b) {j : Nat} (hj : j < 6) : ckid b j = (cs b j, 0) ∧ Dt 4 84 (cs b j) ∧ Tm.kidsOf 63 (cs b j) = [b, labk (lb j) 0] := by
  have hlk : Tm.deep (labk (lb j) 0) = 2 ∧ (labk (lb j) 0).length ≤ 30 := lab_all8.2.2 ⟨j, hj⟩
  have q1 := hb.le
  have q2 := hb.len
  obtain ⟨h1, h2, h3⟩ := child_is hb.deep (by omega) (by omega) hlk.1 hlk.2
  exact ⟨h1, ⟨by show Tm.deep (68 :: _) ≠ 0; omega, by show Tm.deep (68 :: _) ≤ 4; omega, by show (68 :: _ : Bs).length ≤ 84; simp; omega, rfl⟩, h3⟩
theorem chan_is {r : Bs} (hr : Tm.Is 1 r) (hl : r.length ≤ 22) {k : Nat} (hk : k = 1 ∨ k = 2) : chanRes r (k : Int) = (chanS (bs r k), 0) := by
  obtain ⟨h1, h2, _⟩ := bs_is hr hl hk
  rw [chan_ok h1 (fun j hj => by rw [(cs_is h2 hj).1])]
  rw [(cs_is h2 (by decide : 0 < 6)).1, (cs_is h2 (by decide : 1 < 6)).1, (cs_is h2 (by decide : 2 < 6)).1, (cs_is h2 (by decide : 3 < 6)).1, (cs_is h2 (by decide : 4 < 6)).1, (cs_is h2 (by decide : 5 < 6)).1]
  rfl
/-- its public key -/
theorem pub_is {D B : Nat} {t : Bs} (h : Dt D B t) (hD : D ≤ 40) (hB : B ≤ 1000) : pubRes t = (80 :: t, 0) ∧ Tm.deep (80 :: t) = Tm.deep t + 1 := by
  have q1 := h.le
  have q2 := h.len
  have hi := (Tm.deep_is h.deep).1
  have e := Tm.pk_else hi (by omega) (by rw [h.hd]; decide) (by rw [h.hd]; decide)
  have h2 : Tm.deep (80 :: t) = Tm.deep t + 1 := Tm.is_deep (Tm.is_pub hi (by rw [h.hd]; decide) (by rw [h.hd]; decide)) (by omega) (by simp; omega)
  refine ⟨?_, h2⟩
  unfold pubRes
  rw [if_neg h.deep, e, if_neg (by omega)]
def pubS (s : S6) : K5 := ⟨80 :: s.f, 80 :: s.r, 80 :: s.p, 80 :: s.l, 80 :: s.h⟩
theorem pubs_is {b : Bs} (hb : Dt 3 53 b) : pubs5 (chanS b) = (pubS (chanS b), 0) := by
  have h : ∀ j, j < 5 → pubRes ((chanS b).at j) = (80 :: (chanS b).at j, 0) := fun j hj => by
    match j, hj with
    | 0, _ => exact (pub_is (cs_is hb (by decide : 0 < 6)).2.1 (by decide) (by decide)).1
    | 1, _ => exact (pub_is (cs_is hb (by decide : 1 < 6)).2.1 (by decide) (by decide)).1
    | 2, _ => exact (pub_is (cs_is hb (by decide : 2 < 6)).2.1 (by decide) (by decide)).1
    | 3, _ => exact (pub_is (cs_is hb (by decide : 3 < 6)).2.1 (by decide) (by decide)).1
    | 4, _ => exact (pub_is (cs_is hb (by decide : 4 < 6)).2.1 (by decide) (by decide)).1
  rw [pubs5_ok (fun j hj => by rw [h j hj])]
  have h0 : pubRes (chanS b).f = _ := h 0 (by decide)
  have h1 : pubRes (chanS b).r = _ := h 1 (by decide)
  have h2 : pubRes (chanS b).p = _ := h 2 (by decide)
  have h3 : pubRes (chanS b).l = _ := h 3 (by decide)
  have h4 : pubRes (chanS b).h = _ := h 4 (by decide)
  rw [h0, h1, h2, h3, h4]
  rfl
theorem fr_dt : ∀ (k i : Nat) (x : Bs) (D B : Nat), k ≤ 20 → Dt D B x → D + k ≤ 64 → B + 6 * k ≤ 16384 → (Sd.fr stp k i x).2 = 0 ∧ Dt (D + k) (B + 6 * k) (Sd.fr stp k i x).1
  | 0, _, _, _, _, _, h, _, _ => ⟨rfl, h⟩
  | k + 1, i, x, D, B, hk, h, hd, hl => by
    unfold Sd.fr
    cases i.testBit k with
    | false =>
      have := fr_dt k i x D B (by omega) h (by omega) (by omega)
      exact ⟨this.1, this.2.mono (by omega) (by omega)⟩
    | true =>
      have q1 := h.le
      have q2 := h.len
      obtain ⟨h1, h2, h3⟩ := stp_ok (b := k) (by omega) h.deep (by omega) (by omega)
      simp only [if_true, h1]
      have hx : Dt (D + 1) (B + 6) (stp x k).1 := ⟨by omega, by omega, by omega, by
        obtain ⟨e, _⟩ := bRes_two_ok (show (bRes 68 [] [x, lab k]).2 = 0 from h1)
        show (bRes 68 [] [x, lab k]).1.head? = _
        rw [e]
        rfl⟩
      have := fr_dt k i _ (D + 1) (B + 6) (by omega) hx (by omega) (by omega)
      exact ⟨this.1, this.2.mono (by omega) (by omega)⟩
theorem sec_dt {s : Bs} (h : Dt 4 84 s) {n : Int} (h0 : 0 ≤ n) (h1 : n ≤ 1048575) : ∃ t, secRes s (1048575 - n) = (t, 0) ∧ Dt 24 204 t := by
  have hf := fr_dt 20 (1048575 - n).toNat s 4 84 (by omega) h (by omega) (by omega)
  refine ⟨(Sd.fr stp 20 (1048575 - n).toNat s).1, ?_, hf.2⟩
  unfold secRes
  rw [if_neg (by omega), if_neg h.deep]
  exact Prod.ext rfl hf.1
theorem pnt_is {s t : Bs} {n : Int} (h : secRes s (1048575 - n) = (t, 0)) (ht : Dt 24 204 t) : pntRes s n = (80 :: t, 0) := by
  unfold pntRes
  rw [h, if_pos rfl]
  exact (pub_is ht (by decide) (by decide)).1
/-- the keys of a commitment -/
def setS (s o : S6) (t : Bs) : K5 := ⟨87 :: ((80 :: o.r) ++ (80 :: t)), 76 :: ((80 :: s.l) ++ (80 :: t)), 76 :: ((80 :: s.h) ++ (80 :: t)), 76 :: ((80 :: o.h) ++ (80 :: t)), 80 :: o.p⟩
theorem joint_is {a t : Bs} (ha : Dt 4 84 a) (ht : Dt 24 204 t) : jointRes (80 :: a) (80 :: t) = (87 :: ((80 :: a) ++ (80 :: t)), 0) := by
  have p1 := (pub_is ha (by decide) (by decide)).2
  have p2 := (pub_is ht (by decide) (by decide)).2
  have q1 := ha.le; have q2 := ha.len; have q3 := ht.le; have q4 := ht.len
  unfold jointRes
  rw [if_pos (show (Tm.isPk (80 :: a).head? && Tm.isPk (80 :: t).head?) = true from rfl)]
  exact two_is 87 (by omega) (by omega) (by omega) (by simp; omega)
theorem bound_is {a t : Bs} (ha : Dt 4 84 a) (ht : Dt 24 204 t) : boundRes (80 :: a) (80 :: t) = (76 :: ((80 :: a) ++ (80 :: t)), 0) := by
  have p1 := (pub_is ha (by decide) (by decide)).2
  have p2 := (pub_is ht (by decide) (by decide)).2
  have q1 := ha.le; have q2 := ha.len; have q3 := ht.le; have q4 := ht.len
  unfold boundRes
  rw [if_pos (show Tm.isPk (80 :: a).head? = true from rfl)]
  exact two_is 76 (by omega) (by omega) (by omega) (by simp; omega)
theorem set_is {b c t : Bs} (hb : Dt 3 53 b) (hc : Dt 3 53 c) (ht : Dt 24 204 t) : setRes (pubS (chanS b)) (pubS (chanS c)) (80 :: t) = (setS (chanS b) (chanS c) t, 0) := by
  have D := fun (j : Nat) (hj : j < 6) => (cs_is hb hj).2.1
  have E := fun (j : Nat) (hj : j < 6) => (cs_is hc hj).2.1
  have e0 : jointRes (pubS (chanS c)).r (80 :: t) = _ := joint_is (E 1 (by decide)) ht
  have e1 : boundRes (pubS (chanS b)).l (80 :: t) = _ := bound_is (D 3 (by decide)) ht
  have e2 : boundRes (pubS (chanS b)).h (80 :: t) = _ := bound_is (D 4 (by decide)) ht
  have e3 : boundRes (pubS (chanS c)).h (80 :: t) = _ := bound_is (E 4 (by decide)) ht
  have e4 : pkRes (pubS (chanS c)).p = ((pubS (chanS c)).p, 0) := by
    have := (pub_is (E 2 (by decide)) (by decide) (by decide)).2
    have h2 := (E 2 (by decide)).deep
    unfold pkRes
    rw [if_pos ⟨by show Tm.deep (80 :: cs c 2) ≠ 0; omega, rfl⟩]
  rw [setRes_ok (fun j hj => by
    match j, hj with
    | 0, _ => show (jointRes (pubS (chanS c)).r (80 :: t)).2 = 0; rw [e0]
    | 1, _ => show (boundRes (pubS (chanS b)).l (80 :: t)).2 = 0; rw [e1]
    | 2, _ => show (boundRes (pubS (chanS b)).h (80 :: t)).2 = 0; rw [e2]
    | 3, _ => show (boundRes (pubS (chanS c)).h (80 :: t)).2 = 0; rw [e3]
    | 4, _ => show (pkRes (pubS (chanS c)).p).2 = 0; rw [e4])]
  rw [e0, e1, e2, e3, e4]
  rfl
/-- a bound secret and its public key -/
theorem bind_is {a t : Bs} (ha : Dt 4 84 a) (ht : Dt 24 204 t) : bRes 75 [] [a, 80 :: t] = (75 :: (a ++ (80 :: t)), 0) ∧ pubRes (75 :: (a ++ (80 :: t))) = (76 :: ((80 :: a) ++ (80 :: t)), 0) := by
  have p1 := (pub_is ha (by decide) (by decide)).2
  have p2 := (pub_is ht (by decide) (by decide)).2
  have q1 := ha.le; have q2 := ha.len; have q3 := ht.le; have q4 := ht.len
  have e := two_is 75 ha.deep (by omega : Tm.deep (80 :: t) ≠ 0) (by omega) (by simp; omega)
  refine ⟨e, ?_⟩
  have hd := (made_two (op := 75) rfl ha.deep (by omega : Tm.deep (80 :: t) ≠ 0) (by omega) (by simp; omega)).1
  have ia := (Tm.deep_is ha.deep).1
  have it := (Tm.deep_is (by omega : Tm.deep (80 :: t) ≠ 0)).1
  have hpk := Tm.pk_bind ia it (by omega) (by omega)
  rw [Tm.pk_else ia (by omega) (by rw [ha.hd]; decide) (by rw [ha.hd]; decide)] at hpk
  have h3 : Tm.deep (76 :: ((80 :: a) ++ (80 :: t))) ≠ 0 := by
    have i2 := Tm.is_bound (Tm.deep_is (by omega : Tm.deep (80 :: a) ≠ 0)).1 it rfl
    rw [Tm.is_deep i2 (by omega) (by simp; omega)]
    omega
  unfold pubRes
  rw [if_neg (by omega), hpk, if_neg h3]
/-- a joined secret and its public key -/
theorem join_is {a t : Bs} (ha : Dt 4 84 a) (ht : Dt 24 204 t) : bRes 86 [] [a, t] = (86 :: (a ++ t), 0) ∧ pubRes (86 :: (a ++ t)) = (87 :: ((80 :: a) ++ (80 :: t)), 0) := by
  have p1 := (pub_is ha (by decide) (by decide)).2
  have p2 := (pub_is ht (by decide) (by decide)).2
  have q1 := ha.le; have q2 := ha.len; have q3 := ht.le; have q4 := ht.len
  have e := two_is 86 ha.deep ht.deep (by omega) (by omega)
  refine ⟨e, ?_⟩
  have hd := (made_two (op := 86) rfl ha.deep ht.deep (by omega) (by omega)).1
  have ia := (Tm.deep_is ha.deep).1
  have it := (Tm.deep_is ht.deep).1
  have hpk := Tm.pk_join ia it (by omega) (by omega)
  rw [Tm.pk_else ia (by omega) (by rw [ha.hd]; decide) (by rw [ha.hd]; decide), Tm.pk_else it (by omega) (by rw [ht.hd]; decide) (by rw [ht.hd]; decide)] at hpk
  have h3 : Tm.deep (87 :: ((80 :: a) ++ (80 :: t))) ≠ 0 := by
    have i2 := Tm.is_joint (Tm.deep_is (by omega : Tm.deep (80 :: a) ≠ 0)).1 (Tm.deep_is (by omega : Tm.deep (80 :: t) ≠ 0)).1 rfl rfl
    rw [Tm.is_deep i2 (by omega) (by simp; omega)]
    omega
  unfold pubRes
  rw [if_neg (by omega), hpk, if_neg h3]
end Go.Proofs.YtkifchjpgdmcoaaDoor

/- A region that draws its order, reads what lies there and stores it, one store behind the other. -/
namespace Go.Proofs.YtkifchjpgdmcoaaDoor
open Go.RowKit

section
variable {P : Program} {ops : Array Oper} {Q : Exit → Act → World → Prop} {md : Region.Mode}
/-- the first that has not come up may come up -/
theorem first_ready2 (hb : ∀ (i : Nat) (o : Oper), ops[i]? = some o → ∀ e ∈ o.after, Region.binds md e = true → e.on < i) {l : Array Bool} (hl : l.size = ops.size) : ∀ n i : Nat, i ≤ n → l.getD i true = false → Region.ready md ops l ≠ [] := by
  intro n
  induction n with
  | zero =>
    intro i hi hf hr
    have hi0 : i < ops.size := by
      rcases Nat.lt_or_ge i l.size with h' | h'
      · omega
      · simp [Array.getElem?_eq_none h'] at hf
    have : i ∈ Region.ready md ops l := mem_ready.2 ⟨hf, ops[i], by simp [hi0], fun e he hbd => by have := hb i _ (by simp [hi0]) e he hbd; omega⟩
    rw [hr] at this
    cases this
  | succ n ih =>
    intro i hi hf hr
    have hi0 : i < ops.size := by
      rcases Nat.lt_or_ge i l.size with h' | h'
      · omega
      · simp [Array.getElem?_eq_none h'] at hf
    have : i ∈ Region.ready md ops l := mem_ready.2 ⟨hf, ops[i], by simp [hi0], fun e he hbd => by
      have h1 := hb i _ (by simp [hi0]) e he hbd
      cases h2 : l.getD e.on true with
      | true =>
        have h3 : e.on < l.size := by omega
        simpa [h3] using h2
      | false => exact absurd hr (ih e.on (by omega) h2)⟩
    rw [hr] at this
    cases this
theorem any_inv2 (I : Array Bool → Act → World → Prop) (hb : ∀ (i : Nat) (o : Oper), ops[i]? = some o → ∀ e ∈ o.after, Region.binds md e = true → e.on < i)
    (hs : ∀ (l : Array Bool) (a : Act) (w : World) (i : Nat) (o : Oper), I l a w → ops[i]? = some o → l.getD i true = false → (∀ e ∈ o.after, Region.binds md e = true → l.getD e.on false = true) → wpOp P ops Q i (fun a' w' => I (l.setIfInBounds i true) a' w') a w)
    (hd : ∀ (l : Array Bool) (a : Act) (w : World), I l a w → (∀ i : Nat, l.getD i true = true) → Q .normal a w) :
    ∀ (fuel : Nat) (l : Array Bool) (a : Act) (w : World), l.size = ops.size → unl l ≤ fuel → I l a w → wpAny P md ops Q fuel l a w := by
  intro fuel
  induction fuel with
  | zero =>
    intro l a w _ hu hI
    have h0 := unl_none (l := l) (by omega)
    refine ⟨?_, hd l a w hI h0⟩
    cases hr : Region.ready md ops l with
    | nil => rfl
    | cons i r =>
      have : i ∈ Region.ready md ops l := by rw [hr]; exact List.mem_cons_self
      have h1 := (mem_ready.1 this).1
      rw [h0 i] at h1
      cases h1
  | succ fuel ih =>
    intro l a w hl hu hI
    refine ⟨fun hr => hd l a w hI fun i => ?_, fun i hi => ?_⟩
    · cases h2 : l.getD i true with
      | true => rfl
      | false => exact absurd hr (first_ready2 hb hl i i (Nat.le_refl _) h2)
    · obtain ⟨hf, o, ho, ha⟩ := mem_ready.1 hi
      refine wpOp_mono (fun a' w' h' => ih _ a' w' (by simp [hl]) ?_ h') (hs l a w i o hI ho hf ha)
      have := unl_set hf
      omega
/-- such a region, whichever order is drawn -/
theorem region_inv2 {id : Nat} {a : Act} {w : World} (I : Array Bool → Act → World → Prop) (hm : P.follows .mixedOrders = true) (hb : ∀ (i : Nat) (o : Oper), ops[i]? = some o → ∀ e ∈ o.after, Region.binds .any e = true → e.on < i)
    (h0 : I (Array.replicate ops.size false) a w.drew)
    (hs : ∀ (l : Array Bool) (a : Act) (w : World) (i : Nat) (o : Oper), I l a w → ops[i]? = some o → l.getD i true = false → (∀ e ∈ o.after, Region.binds .any e = true → l.getD e.on false = true) → wpOp P ops Q i (fun a' w' => I (l.setIfInBounds i true) a' w') a w)
    (hd : ∀ (l : Array Bool) (a : Act) (w : World), I l a w → (∀ i : Nat, l.getD i true = true) → Q .normal a w) : (Code.region id ops true).wp P Q a w :=
  wp_region_any hm (any_inv2 I hb hs hd _ _ _ _ (by simp) (by simp [unl]) h0)
end
/-- what holds of what has come up -/
structure Rq (ops : Array Oper) (D : List Nat) (dst : Nat → Nat) (val : Nat → Value) (zs : List Nat) (W : Nat → World) (a0 : Act) (l : Array Bool) (a : Act) (w : World) (k : Nat) : Prop where
  size : l.size = ops.size
  off : Off D a0 a
  le : k ≤ zs.length
  wor : w = W k
  cnt : ∀ j (h : j < zs.length), dn l zs[j] ↔ j < k
  has : ∀ j, j < ops.size → j ∉ zs → dn l j → gt a (dst j) = val j
theorem region_puts {P : Program} {ops : Array Oper} {Q : Exit → Act → World → Prop} {id : Nat} {a0 : Act} {w1 : World} (D : List Nat) (dst : Nat → Nat) (val : Nat → Value) (zs : List Nat) (W : Nat → World)
    (hm : P.follows .mixedOrders = true) (hW0 : W 0 = w1.drew)
    (hb : ∀ (i : Nat) (o : Oper), ops[i]? = some o → ∀ e ∈ o.after, Region.binds .any e = true → e.on < i)
    (hD : ∀ i, i < ops.size → i ∉ zs → dst i ∈ D ∧ dst i < a0.tmps.size)
    (hinj : ∀ i j, i < ops.size → j < ops.size → i ∉ zs → j ∉ zs → i ≠ j → dst i ≠ dst j)
    (hnd : zs.Nodup) (hzs : ∀ z ∈ zs, z < ops.size)
    (hchain : ∀ j (h : j + 1 < zs.length) (o : Oper), ops[zs[j + 1]]? = some o → ∃ e ∈ o.after, Region.binds .any e = true ∧ e.on = zs[j])
    (hp : ∀ (i : Nat) (o : Oper) (a : Act) (k : Nat), ops[i]? = some o → i ∉ zs → k ≤ zs.length → Off D a0 a → (∀ e ∈ o.after, Region.binds .any e = true → e.on ∉ zs → gt a (dst e.on) = val e.on) → wpOp P ops Q i (fun a' w' => a' = a.put (some (dst i)) (val i) ∧ w' = W k) a (W k))
    (hz : ∀ (j : Nat) (h : j < zs.length) (o : Oper) (a : Act), ops[zs[j]]? = some o → Off D a0 a → (∀ e ∈ o.after, Region.binds .any e = true → e.on ∉ zs → gt a (dst e.on) = val e.on) → wpOp P ops Q zs[j] (fun a' w' => a' = a ∧ w' = W (j + 1)) a (W j))
    (hd : ∀ (a : Act), Off D a0 a → (∀ i, i < ops.size → i ∉ zs → gt a (dst i) = val i) → Q .normal a (W zs.length)) : (Code.region id ops true).wp P Q a0 w1 := by
  refine region_inv2 (fun l a w => ∃ k, Rq ops D dst val zs W a0 l a w k) hm hb ?_ ?_ ?_
  · have hno : ∀ j : Nat, ¬ dn (Array.replicate ops.size false) j := fun j hj => by
      rcases Nat.lt_or_ge j ops.size with h | h
      · simp [dn, h] at hj
      · simp [dn, h] at hj
    exact ⟨0, by simp, Off.refl _ _, Nat.zero_le _, hW0.symm, fun j _ => ⟨fun h => absurd h (hno _), fun h => by omega⟩, fun j _ _ hj => absurd hj (hno j)⟩
  · rintro l a w i o ⟨k, hI⟩ ho hf hw
    have hi : i < ops.size := (Array.getElem?_eq_some_iff.1 ho).1
    have hil : i < l.size := by rw [hI.size]; exact hi
    have hu := undone hf
    have hdep : ∀ e ∈ o.after, Region.binds .any e = true → e.on ∉ zs → gt a (dst e.on) = val e.on := fun e he hbd hne => hI.has e.on (Nat.lt_trans (hb i o ho e he hbd) hi) hne (hw e he hbd)
    have hwk := hI.wor
    subst hwk
    by_cases hiz : i ∈ zs
    · obtain ⟨j, hj, hji⟩ := List.getElem_of_mem hiz
      subst hji
      have hk1 : ¬ j < k := fun h => hu ((hI.cnt j hj).2 h)
      have hk2 : k = j := by
        cases j with
        | zero => omega
        | succ j =>
          obtain ⟨e, he, hbd, hon⟩ := hchain j hj o ho
          have := hw e he hbd
          rw [hon] at this
          have := (hI.cnt j (by omega)).1 this
          omega
      subst hk2
      refine wpOp_mono ?_ (hz k hj o a ho hI.off hdep)
      rintro a' w' ⟨rfl, rfl⟩
      refine ⟨k + 1, by simpa using hI.size, hI.off, by omega, rfl, fun q hq => ?_, fun q h1 h2 h3 => hI.has q h1 h2 (dn_set (fun e => h2 (e ▸ hiz)) h3)⟩
      by_cases e : k = q
      · subst e
        exact ⟨fun _ => by omega, fun _ => dn_here hil⟩
      · have hne : zs[k] ≠ zs[q] := fun h => e ((List.getElem_inj hnd).1 h)
        refine ⟨fun h => ?_, fun h => dn_up ((hI.cnt q hq).2 (by omega))⟩
        have := (hI.cnt q hq).1 (dn_set hne h)
        omega
    · refine wpOp_mono ?_ (hp i o a k ho hiz hI.le hI.off hdep)
      rintro a' w' ⟨rfl, rfl⟩
      refine ⟨k, by simpa using hI.size, hI.off.put (hD i hi hiz).1 _, hI.le, rfl, fun q hq => ?_, fun j h1 h2 h3 => ?_⟩
      · have hne : i ≠ zs[q] := fun h => hiz (h ▸ List.getElem_mem hq)
        exact ⟨fun h => (hI.cnt q hq).1 (dn_set hne h), fun h => dn_up ((hI.cnt q hq).2 h)⟩
      · by_cases e : i = j
        · subst e
          exact get_put_same (by rw [hI.off.size]; exact (hD i hi hiz).2)
        · exact (get_put_ne (hinj i j hi h1 hiz h2 e)).trans (hI.has j h1 h2 (dn_set e h3))
  · rintro l a w ⟨k, hI⟩ hl
    have hall : ∀ i, i < ops.size → dn l i := fun i hi => by
      have h := hl i
      have hs : i < l.size := by rw [hI.size]; exact hi
      simpa [dn, hs] using h
    have hk : k = zs.length := by
      have h1 := hI.le
      rcases Nat.lt_or_ge k zs.length with h | h
      · have := (hI.cnt k h).1 (hall _ (hzs _ (List.getElem_mem h)))
        omega
      · omega
    have hw := hI.wor
    rw [hk] at hw
    subst hw
    exact hd a hI.off (fun i h1 h2 => hI.has i h1 h2 (hall i h1))
end Go.Proofs.YtkifchjpgdmcoaaDoor

/- Keys: the region that hands two sides back, whatever order is drawn. -/
namespace Go.Proofs.YtkifchjpgdmcoaaDoor
open Go.RowKit

def pr0 : Oper := { dst := some 102, op := Op.load 28 (Operand.tmp 15), type := 28, pos := "law.go:71", after := #[], guard := none }
def pr1 : Oper := { dst := some 103, op := Op.load 28 (Operand.tmp 17), type := 28, pos := "law.go:71", after := #[{ on := 4, ground := Go.Ground.gcOnly Go.Departure.lateStores }], guard := none }
def pr2 : Oper := { dst := some 104, op := Op.load 40 (Operand.tmp 27), type := 40, pos := "law.go:71", after := #[{ on := 5, ground := Go.Ground.gcOnly Go.Departure.lateStores }], guard := none }
def pr3 : Oper := { dst := some 105, op := Op.move (Operand.tmp 23), type := 22, pos := "law.go:71", after := #[{ on := 6, ground := Go.Ground.gcOnly Go.Departure.lateStores }], guard := none }
def pr4 : Oper := { dst := none, op := Op.store 28 (Operand.tmp 6) (Operand.tmp 102), type := 0, pos := "law.go:71", after := #[{ on := 0, ground := Go.Ground.data }, { on := 0, ground := Go.Ground.phase }, { on := 1, ground := Go.Ground.textOnly Go.Departure.lateStores }, { on := 2, ground := Go.Ground.textOnly Go.Departure.lateStores }, { on := 3, ground := Go.Ground.textOnly Go.Departure.lateStores }], guard := none }
def pr5 : Oper := { dst := none, op := Op.store 28 (Operand.tmp 7) (Operand.tmp 103), type := 0, pos := "law.go:71", after := #[{ on := 1, ground := Go.Ground.data }, { on := 4, ground := Go.Ground.chain }, { on := 0, ground := Go.Ground.phase }, { on := 1, ground := Go.Ground.phase }, { on := 2, ground := Go.Ground.textOnly Go.Departure.lateStores }, { on := 3, ground := Go.Ground.textOnly Go.Departure.lateStores }, { on := 4, ground := Go.Ground.phase }], guard := none }
def pr6 : Oper := { dst := none, op := Op.store 40 (Operand.tmp 8) (Operand.tmp 104), type := 0, pos := "law.go:71", after := #[{ on := 2, ground := Go.Ground.data }, { on := 5, ground := Go.Ground.chain }, { on := 0, ground := Go.Ground.phase }, { on := 1, ground := Go.Ground.phase }, { on := 2, ground := Go.Ground.phase }, { on := 3, ground := Go.Ground.textOnly Go.Departure.lateStores }, { on := 4, ground := Go.Ground.phase }, { on := 5, ground := Go.Ground.phase }], guard := none }
def pr7 : Oper := { dst := some 9, op := Op.assign (Operand.tmp 105), type := 22, pos := "law.go:71", after := #[{ on := 3, ground := Go.Ground.data }, { on := 6, ground := Go.Ground.chain }, { on := 0, ground := Go.Ground.phase }, { on := 1, ground := Go.Ground.phase }, { on := 2, ground := Go.Ground.phase }, { on := 3, ground := Go.Ground.phase }, { on := 4, ground := Go.Ground.phase }, { on := 5, ground := Go.Ground.phase }, { on := 6, ground := Go.Ground.phase }], guard := none }
def pr8 : Oper := { dst := some 10, op := Op.assign (Operand.const (Value.bool true)), type := 4, pos := "law.go:71", after := #[{ on := 7, ground := Go.Ground.chain }, { on := 0, ground := Go.Ground.phase }, { on := 1, ground := Go.Ground.phase }, { on := 2, ground := Go.Ground.phase }, { on := 3, ground := Go.Ground.phase }, { on := 4, ground := Go.Ground.phase }, { on := 5, ground := Go.Ground.phase }, { on := 6, ground := Go.Ground.phase }, { on := 7, ground := Go.Ground.phase }], guard := none }
def prs : Array Oper := #[pr0, pr1, pr2, pr3, pr4, pr5, pr6, pr7, pr8]
theorem prs_size : prs.size = 9 := rfl
set_option maxRecDepth 10000 in
theorem prs_back (i : Nat) (o : Oper) (h : prs[i]? = some o) : ∀ e ∈ o.after, Region.binds .any e = true → e.on < i := by
  have hall : ∀ j : Fin 9, ∀ e ∈ (prs[j.1]'(by have := j.2; have := prs_size; omega)).after, Region.binds .any e = true → e.on < j.1 := by decide +kernel
  obtain ⟨hi, rfl⟩ := Array.getElem?_eq_some_iff.1 h
  exact hall ⟨i, by have := prs_size; omega⟩
def prD : Nat → Nat
  | 0 => 102
  | 1 => 103
  | 2 => 104
  | 3 => 105
  | 7 => 9
  | 8 => 10
  | _ => 0
def prDs : List Nat := ([0, 1, 2, 3, 7, 8] : List Nat).map prD
set_option maxRecDepth 10000 in
theorem prD_mem : ∀ i : Fin 9, i.1 ∉ [4, 5, 6] → prD i.1 ∈ prDs ∧ prD i.1 < 106 := by decide +kernel
set_option maxRecDepth 10000 in
theorem prD_inj : ∀ i j : Fin 9, i.1 ∉ [4, 5, 6] → j.1 ∉ [4, 5, 6] → i ≠ j → prD i.1 ≠ prD j.1 := by decide +kernel
section
variable {s0 s1 s2 s3 s4 s5 o0 o1 o2 o3 o4 o5 t0 t1 t2 t3 t4 sec : Bs} {g1 g2 g3 r1 r2 r3 : Nat}
def prV (s0 s1 s2 s3 s4 s5 o0 o1 o2 o3 o4 o5 t0 t1 t2 t3 t4 sec : Bs) : Nat → Value
  | 0 => .agg #[St s0, St s1, St s2, St s3, St s4, St s5]
  | 1 => .agg #[St o0, St o1, St o2, St o3, St o4, St o5]
  | 2 => .agg #[St t0, St t1, St t2, St t3, St t4]
  | 3 => St sec
  | 7 => St sec
  | 8 => .bool true
  | _ => undef
def prW (s0 s1 s2 s3 s4 s5 o0 o1 o2 o3 o4 o5 t0 t1 t2 t3 t4 : Bs) (r1 r2 r3 : Nat) (w : World) : Nat → World
  | 0 => w
  | 1 => ((((((w.setCell ⟨r1, 0, none⟩ (St s0)).setCell ⟨r1, 1, none⟩ (St s1)).setCell ⟨r1, 2, none⟩ (St s2)).setCell ⟨r1, 3, none⟩ (St s3)).setCell ⟨r1, 4, none⟩ (St s4)).setCell ⟨r1, 5, none⟩ (St s5))
  | 2 => ((((((((((((w.setCell ⟨r1, 0, none⟩ (St s0)).setCell ⟨r1, 1, none⟩ (St s1)).setCell ⟨r1, 2, none⟩ (St s2)).setCell ⟨r1, 3, none⟩ (St s3)).setCell ⟨r1, 4, none⟩ (St s4)).setCell ⟨r1, 5, none⟩ (St s5)).setCell ⟨r2, 0, none⟩ (St o0)).setCell ⟨r2, 1, none⟩ (St o1)).setCell ⟨r2, 2, none⟩ (St o2)).setCell ⟨r2, 3, none⟩ (St o3)).setCell ⟨r2, 4, none⟩ (St o4)).setCell ⟨r2, 5, none⟩ (St o5))
  | _ => (((((((((((((((((w.setCell ⟨r1, 0, none⟩ (St s0)).setCell ⟨r1, 1, none⟩ (St s1)).setCell ⟨r1, 2, none⟩ (St s2)).setCell ⟨r1, 3, none⟩ (St s3)).setCell ⟨r1, 4, none⟩ (St s4)).setCell ⟨r1, 5, none⟩ (St s5)).setCell ⟨r2, 0, none⟩ (St o0)).setCell ⟨r2, 1, none⟩ (St o1)).setCell ⟨r2, 2, none⟩ (St o2)).setCell ⟨r2, 3, none⟩ (St o3)).setCell ⟨r2, 4, none⟩ (St o4)).setCell ⟨r2, 5, none⟩ (St o5)).setCell ⟨r3, 0, none⟩ (St t0)).setCell ⟨r3, 1, none⟩ (St t1)).setCell ⟨r3, 2, none⟩ (St t2)).setCell ⟨r3, 3, none⟩ (St t3)).setCell ⟨r3, 4, none⟩ (St t4))
theorem prW3 (w : World) : prW s0 s1 s2 s3 s4 s5 o0 o1 o2 o3 o4 o5 t0 t1 t2 t3 t4 r1 r2 r3 w 3 = (((((((((((((((((w.setCell ⟨r1, 0, none⟩ (St s0)).setCell ⟨r1, 1, none⟩ (St s1)).setCell ⟨r1, 2, none⟩ (St s2)).setCell ⟨r1, 3, none⟩ (St s3)).setCell ⟨r1, 4, none⟩ (St s4)).setCell ⟨r1, 5, none⟩ (St s5)).setCell ⟨r2, 0, none⟩ (St o0)).setCell ⟨r2, 1, none⟩ (St o1)).setCell ⟨r2, 2, none⟩ (St o2)).setCell ⟨r2, 3, none⟩ (St o3)).setCell ⟨r2, 4, none⟩ (St o4)).setCell ⟨r2, 5, none⟩ (St o5)).setCell ⟨r3, 0, none⟩ (St t0)).setCell ⟨r3, 1, none⟩ (St t1)).setCell ⟨r3, 2, none⟩ (St t2)).setCell ⟨r3, 3, none⟩ (St t3)).setCell ⟨r3, 4, none⟩ (St t4)) := rfl
/-- what lies there -/
structure prAt (s0 s1 s2 s3 s4 s5 o0 o1 o2 o3 o4 o5 t0 t1 t2 t3 t4 : Bs) (g1 g2 g3 r1 r2 r3 : Nat) (w : World) : Prop where
  b1 : w.heap[g1]? = some (.cells #[St s0, St s1, St s2, St s3, St s4, St s5] 28 (0, 0))
  b2 : w.heap[g2]? = some (.cells #[St o0, St o1, St o2, St o3, St o4, St o5] 28 (0, 0))
  b3 : w.heap[g3]? = some (.cells #[St t0, St t1, St t2, St t3, St t4] 40 (0, 0))
  y1 : w.heap[r1]? = some (.cells #[St [], St [], St [], St [], St [], St []] 28 (0, 0))
  y2 : w.heap[r2]? = some (.cells #[St [], St [], St [], St [], St [], St []] 28 (0, 0))
  y3 : w.heap[r3]? = some (.cells #[St [], St [], St [], St [], St []] 40 (0, 0))
  n1 : g1 ≠ r1 ∧ g1 ≠ r2 ∧ g1 ≠ r3
  n2 : g2 ≠ r1 ∧ g2 ≠ r2 ∧ g2 ≠ r3
  n3 : g3 ≠ r1 ∧ g3 ≠ r2 ∧ g3 ≠ r3
  n4 : r2 ≠ r1 ∧ r3 ≠ r1 ∧ r3 ≠ r2
theorem set_off {w : World} {r q g : Nat} {v : Value} (h : g ≠ r) : (w.setCell ⟨r, q, none⟩ v).heap[g]? = w.heap[g]? := Below.heap_setCell _ _ _ _ h
theorem prW_off (w : World) (g : Nat) (h : g ≠ r1 ∧ g ≠ r2 ∧ g ≠ r3) : ∀ k, prW s0 s1 s2 s3 s4 s5 o0 o1 o2 o3 o4 o5 t0 t1 t2 t3 t4 r1 r2 r3 w k |>.heap[g]? = w.heap[g]?
  | 0 => rfl
  | 1 => by show (((((((w.setCell ⟨r1, 0, none⟩ (St s0)).setCell ⟨r1, 1, none⟩ (St s1)).setCell ⟨r1, 2, none⟩ (St s2)).setCell ⟨r1, 3, none⟩ (St s3)).setCell ⟨r1, 4, none⟩ (St s4)).setCell ⟨r1, 5, none⟩ (St s5))).heap[g]? = _; rw [set_off h.1, set_off h.1, set_off h.1, set_off h.1, set_off h.1, set_off h.1]
  | 2 => by show (((((((((((((w.setCell ⟨r1, 0, none⟩ (St s0)).setCell ⟨r1, 1, none⟩ (St s1)).setCell ⟨r1, 2, none⟩ (St s2)).setCell ⟨r1, 3, none⟩ (St s3)).setCell ⟨r1, 4, none⟩ (St s4)).setCell ⟨r1, 5, none⟩ (St s5)).setCell ⟨r2, 0, none⟩ (St o0)).setCell ⟨r2, 1, none⟩ (St o1)).setCell ⟨r2, 2, none⟩ (St o2)).setCell ⟨r2, 3, none⟩ (St o3)).setCell ⟨r2, 4, none⟩ (St o4)).setCell ⟨r2, 5, none⟩ (St o5))).heap[g]? = _; rw [set_off h.2.1, set_off h.2.1, set_off h.2.1, set_off h.2.1, set_off h.2.1, set_off h.2.1, set_off h.1, set_off h.1, set_off h.1, set_off h.1, set_off h.1, set_off h.1]
  | k + 3 => by show ((((((((((((((((((w.setCell ⟨r1, 0, none⟩ (St s0)).setCell ⟨r1, 1, none⟩ (St s1)).setCell ⟨r1, 2, none⟩ (St s2)).setCell ⟨r1, 3, none⟩ (St s3)).setCell ⟨r1, 4, none⟩ (St s4)).setCell ⟨r1, 5, none⟩ (St s5)).setCell ⟨r2, 0, none⟩ (St o0)).setCell ⟨r2, 1, none⟩ (St o1)).setCell ⟨r2, 2, none⟩ (St o2)).setCell ⟨r2, 3, none⟩ (St o3)).setCell ⟨r2, 4, none⟩ (St o4)).setCell ⟨r2, 5, none⟩ (St o5)).setCell ⟨r3, 0, none⟩ (St t0)).setCell ⟨r3, 1, none⟩ (St t1)).setCell ⟨r3, 2, none⟩ (St t2)).setCell ⟨r3, 3, none⟩ (St t3)).setCell ⟨r3, 4, none⟩ (St t4))).heap[g]? = _; rw [set_off h.2.2, set_off h.2.2, set_off h.2.2, set_off h.2.2, set_off h.2.2, set_off h.2.1, set_off h.2.1, set_off h.2.1, set_off h.2.1, set_off h.2.1, set_off h.2.1, set_off h.1, set_off h.1, set_off h.1, set_off h.1, set_off h.1, set_off h.1]
theorem prx0 (a : Act) (w : World) (h0 : gt a 15 = .pointer (some ⟨g1, 0, none⟩)) (hb : w.heap[g1]? = some (.cells #[St s0, St s1, St s2, St s3, St s4, St s5] 28 (0, 0))) : (execOp a.eval pr0).run Tryd.prog w = .ok (.value (.agg #[St s0, St s1, St s2, St s3, St s4, St s5])) w := by
  have e0 := gt_eq h0
  have c0 : w.cell? ⟨g1, 0, none⟩ = some (St s0) := by rw [cell_of_heap hb]; rfl
  have c1 : w.cell? ⟨g1, 1, none⟩ = some (St s1) := by rw [cell_of_heap hb]; rfl
  have c2 : w.cell? ⟨g1, 2, none⟩ = some (St s2) := by rw [cell_of_heap hb]; rfl
  have c3 : w.cell? ⟨g1, 3, none⟩ = some (St s3) := by rw [cell_of_heap hb]; rfl
  have c4 : w.cell? ⟨g1, 4, none⟩ = some (St s4) := by rw [cell_of_heap hb]; rfl
  have c5 : w.cell? ⟨g1, 5, none⟩ = some (St s5) := by rw [cell_of_heap hb]; rfl
  clear h0 hb
  simp only [execOp, pr0]
  go_simp
theorem prx1 (a : Act) (w : World) (h0 : gt a 17 = .pointer (some ⟨g2, 0, none⟩)) (hb : w.heap[g2]? = some (.cells #[St o0, St o1, St o2, St o3, St o4, St o5] 28 (0, 0))) : (execOp a.eval pr1).run Tryd.prog w = .ok (.value (.agg #[St o0, St o1, St o2, St o3, St o4, St o5])) w := by
  have e0 := gt_eq h0
  have c0 : w.cell? ⟨g2, 0, none⟩ = some (St o0) := by rw [cell_of_heap hb]; rfl
  have c1 : w.cell? ⟨g2, 1, none⟩ = some (St o1) := by rw [cell_of_heap hb]; rfl
  have c2 : w.cell? ⟨g2, 2, none⟩ = some (St o2) := by rw [cell_of_heap hb]; rfl
  have c3 : w.cell? ⟨g2, 3, none⟩ = some (St o3) := by rw [cell_of_heap hb]; rfl
  have c4 : w.cell? ⟨g2, 4, none⟩ = some (St o4) := by rw [cell_of_heap hb]; rfl
  have c5 : w.cell? ⟨g2, 5, none⟩ = some (St o5) := by rw [cell_of_heap hb]; rfl
  clear h0 hb
  simp only [execOp, pr1]
  go_simp
theorem prx2 (a : Act) (w : World) (h0 : gt a 27 = .pointer (some ⟨g3, 0, none⟩)) (hb : w.heap[g3]? = some (.cells #[St t0, St t1, St t2, St t3, St t4] 40 (0, 0))) : (execOp a.eval pr2).run Tryd.prog w = .ok (.value (.agg #[St t0, St t1, St t2, St t3, St t4])) w := by
  have e0 := gt_eq h0
  have c0 : w.cell? ⟨g3, 0, none⟩ = some (St t0) := by rw [cell_of_heap hb]; rfl
  have c1 : w.cell? ⟨g3, 1, none⟩ = some (St t1) := by rw [cell_of_heap hb]; rfl
  have c2 : w.cell? ⟨g3, 2, none⟩ = some (St t2) := by rw [cell_of_heap hb]; rfl
  have c3 : w.cell? ⟨g3, 3, none⟩ = some (St t3) := by rw [cell_of_heap hb]; rfl
  have c4 : w.cell? ⟨g3, 4, none⟩ = some (St t4) := by rw [cell_of_heap hb]; rfl
  clear h0 hb
  simp only [execOp, pr2]
  go_simp
theorem prx3 (a : Act) (w : World) (h0 : gt a 23 = St sec) : (execOp a.eval pr3).run Tryd.prog w = .ok (.value (St sec)) w := by
  have e0 := gt_eq h0
  clear h0
  simp only [execOp, pr3]
  go_simp
theorem prx7 (a : Act) (w : World) (h0 : gt a 105 = St sec) : (execOp a.eval pr7).run Tryd.prog w = .ok (.value (St sec)) w := by
  have e0 := gt_eq h0
  clear h0
  simp only [execOp, pr7]
  go_simp
theorem prx8 (a : Act) (w : World) : (execOp a.eval pr8).run Tryd.prog w = .ok (.value (.bool true)) w := by
  simp only [execOp, pr8]
  go_simp
theorem prz0 (a : Act) (w : World) (h0 : gt a 6 = .pointer (some ⟨r1, 0, none⟩)) (h1 : gt a 102 = .agg #[St s0, St s1, St s2, St s3, St s4, St s5]) (hb : w.heap[r1]? = some (.cells #[St [], St [], St [], St [], St [], St []] 28 (0, 0))) : (execOp a.eval pr4).run Tryd.prog w = .ok .skip ((((((w.setCell ⟨r1, 0, none⟩ (St s0)).setCell ⟨r1, 1, none⟩ (St s1)).setCell ⟨r1, 2, none⟩ (St s2)).setCell ⟨r1, 3, none⟩ (St s3)).setCell ⟨r1, 4, none⟩ (St s4)).setCell ⟨r1, 5, none⟩ (St s5)) := by
  have e0 := gt_eq h0
  have e1 := gt_eq h1
  have c0 : w.cell? ⟨r1, 0, none⟩ = some (St []) := by rw [cell_of_heap hb]; rfl
  have c1 : w.cell? ⟨r1, 1, none⟩ = some (St []) := by rw [cell_of_heap hb]; rfl
  have c2 : w.cell? ⟨r1, 2, none⟩ = some (St []) := by rw [cell_of_heap hb]; rfl
  have c3 : w.cell? ⟨r1, 3, none⟩ = some (St []) := by rw [cell_of_heap hb]; rfl
  have c4 : w.cell? ⟨r1, 4, none⟩ = some (St []) := by rw [cell_of_heap hb]; rfl
  have c5 : w.cell? ⟨r1, 5, none⟩ = some (St []) := by rw [cell_of_heap hb]; rfl
  have f : ∀ o, w.frozen? ⟨r1, o, none⟩ = false := fun o => frozen_of_heap hb o
  clear h0 h1 hb
  simp only [execOp, pr4]
  go_simp
theorem prz1 (a : Act) (w : World) (h0 : gt a 7 = .pointer (some ⟨r2, 0, none⟩)) (h1 : gt a 103 = .agg #[St o0, St o1, St o2, St o3, St o4, St o5]) (hb : w.heap[r2]? = some (.cells #[St [], St [], St [], St [], St [], St []] 28 (0, 0))) : (execOp a.eval pr5).run Tryd.prog w = .ok .skip ((((((w.setCell ⟨r2, 0, none⟩ (St o0)).setCell ⟨r2, 1, none⟩ (St o1)).setCell ⟨r2, 2, none⟩ (St o2)).setCell ⟨r2, 3, none⟩ (St o3)).setCell ⟨r2, 4, none⟩ (St o4)).setCell ⟨r2, 5, none⟩ (St o5)) := by
  have e0 := gt_eq h0
  have e1 := gt_eq h1
  have c0 : w.cell? ⟨r2, 0, none⟩ = some (St []) := by rw [cell_of_heap hb]; rfl
  have c1 : w.cell? ⟨r2, 1, none⟩ = some (St []) := by rw [cell_of_heap hb]; rfl
  have c2 : w.cell? ⟨r2, 2, none⟩ = some (St []) := by rw [cell_of_heap hb]; rfl
  have c3 : w.cell? ⟨r2, 3, none⟩ = some (St []) := by rw [cell_of_heap hb]; rfl
  have c4 : w.cell? ⟨r2, 4, none⟩ = some (St []) := by rw [cell_of_heap hb]; rfl
  have c5 : w.cell? ⟨r2, 5, none⟩ = some (St []) := by rw [cell_of_heap hb]; rfl
  have f : ∀ o, w.frozen? ⟨r2, o, none⟩ = false := fun o => frozen_of_heap hb o
  clear h0 h1 hb
  simp only [execOp, pr5]
  go_simp
theorem prz2 (a : Act) (w : World) (h0 : gt a 8 = .pointer (some ⟨r3, 0, none⟩)) (h1 : gt a 104 = .agg #[St t0, St t1, St t2, St t3, St t4]) (hb : w.heap[r3]? = some (.cells #[St [], St [], St [], St [], St []] 40 (0, 0))) : (execOp a.eval pr6).run Tryd.prog w = .ok .skip (((((w.setCell ⟨r3, 0, none⟩ (St t0)).setCell ⟨r3, 1, none⟩ (St t1)).setCell ⟨r3, 2, none⟩ (St t2)).setCell ⟨r3, 3, none⟩ (St t3)).setCell ⟨r3, 4, none⟩ (St t4)) := by
  have e0 := gt_eq h0
  have e1 := gt_eq h1
  have c0 : w.cell? ⟨r3, 0, none⟩ = some (St []) := by rw [cell_of_heap hb]; rfl
  have c1 : w.cell? ⟨r3, 1, none⟩ = some (St []) := by rw [cell_of_heap hb]; rfl
  have c2 : w.cell? ⟨r3, 2, none⟩ = some (St []) := by rw [cell_of_heap hb]; rfl
  have c3 : w.cell? ⟨r3, 3, none⟩ = some (St []) := by rw [cell_of_heap hb]; rfl
  have c4 : w.cell? ⟨r3, 4, none⟩ = some (St []) := by rw [cell_of_heap hb]; rfl
  have f : ∀ o, w.frozen? ⟨r3, o, none⟩ = false := fun o => frozen_of_heap hb o
  clear h0 h1 hb
  simp only [execOp, pr6]
  go_simp
set_option maxRecDepth 10000 in
/-- the region, whatever order is drawn -/
theorem prreg {Q : Exit → Act → World → Prop} {a0 : Act} {w : World} (p1 : gt a0 15 = .pointer (some ⟨g1, 0, none⟩)) (p2 : gt a0 17 = .pointer (some ⟨g2, 0, none⟩)) (p3 : gt a0 27 = .pointer (some ⟨g3, 0, none⟩)) (p4 : gt a0 23 = St sec)
    (q1 : gt a0 6 = .pointer (some ⟨r1, 0, none⟩)) (q2 : gt a0 7 = .pointer (some ⟨r2, 0, none⟩)) (q3 : gt a0 8 = .pointer (some ⟨r3, 0, none⟩)) (hsz : 106 ≤ a0.tmps.size) (hat : prAt s0 s1 s2 s3 s4 s5 o0 o1 o2 o3 o4 o5 t0 t1 t2 t3 t4 g1 g2 g3 r1 r2 r3 w)
    (hQ : ∀ a : Act, Off prDs a0 a → gt a 9 = St sec → gt a 10 = .bool true → Q .normal a (prW s0 s1 s2 s3 s4 s5 o0 o1 o2 o3 o4 o5 t0 t1 t2 t3 t4 r1 r2 r3 w.drew 3)) : (Code.region 16 prs true).wp Tryd.prog Q a0 w := by
  have hat2 : prAt s0 s1 s2 s3 s4 s5 o0 o1 o2 o3 o4 o5 t0 t1 t2 t3 t4 g1 g2 g3 r1 r2 r3 w.drew := ⟨hat.b1, hat.b2, hat.b3, hat.y1, hat.y2, hat.y3, hat.n1, hat.n2, hat.n3, hat.n4⟩
  generalize hv : w.drew = v at hat2 hQ
  refine region_puts prDs prD (prV s0 s1 s2 s3 s4 s5 o0 o1 o2 o3 o4 o5 t0 t1 t2 t3 t4 sec) [4, 5, 6] (prW s0 s1 s2 s3 s4 s5 o0 o1 o2 o3 o4 o5 t0 t1 t2 t3 t4 r1 r2 r3 v) rfl hv.symm prs_back (fun i hi hn => ⟨(prD_mem ⟨i, hi⟩ hn).1, Nat.lt_of_lt_of_le (prD_mem ⟨i, hi⟩ hn).2 hsz⟩) (fun i j hi hj h1 h2 h => prD_inj ⟨i, hi⟩ ⟨j, hj⟩ h1 h2 (fun e => h (congrArg Fin.val e))) (by decide) (by decide) ?_ ?_ ?_ (fun a ho hv => hQ a ho (hv 7 (by decide) (by decide)) (hv 8 (by decide) (by decide)))
  · intro j hj o ho
    match j, hj with
    | 0, _ => cases ho; exact ⟨{ on := 4, ground := Go.Ground.chain }, (show _ ∈ (pr5).after by simp [pr5]), by decide, rfl⟩
    | 1, _ => cases ho; exact ⟨{ on := 5, ground := Go.Ground.chain }, (show _ ∈ (pr6).after by simp [pr6]), by decide, rfl⟩
  · intro i o a k h hi hk ho hd
    match i, h, hi with
    | 0, h, hi => cases h; exact op_ok (i := 0) (o := pr0) rfl rfl (prx0 a _ ((ho.slot (by decide)).trans p1) ((prW_off v g1 hat2.n1 k).trans hat2.b1)) ⟨rfl, rfl⟩
    | 1, h, hi => cases h; exact op_ok (i := 1) (o := pr1) rfl rfl (prx1 a _ ((ho.slot (by decide)).trans p2) ((prW_off v g2 hat2.n2 k).trans hat2.b2)) ⟨rfl, rfl⟩
    | 2, h, hi => cases h; exact op_ok (i := 2) (o := pr2) rfl rfl (prx2 a _ ((ho.slot (by decide)).trans p3) ((prW_off v g3 hat2.n3 k).trans hat2.b3)) ⟨rfl, rfl⟩
    | 3, h, hi => cases h; exact op_ok (i := 3) (o := pr3) rfl rfl (prx3 a _ ((ho.slot (by decide)).trans p4)) ⟨rfl, rfl⟩
    | 4, h, hi => exact absurd (by decide) hi
    | 5, h, hi => exact absurd (by decide) hi
    | 6, h, hi => exact absurd (by decide) hi
    | 7, h, hi => cases h; exact op_ok (i := 7) (o := pr7) rfl rfl (prx7 a _ (hd { on := 3, ground := Go.Ground.data } (show _ ∈ (pr7).after by simp [pr7]) (by decide) (by decide))) ⟨rfl, rfl⟩
    | 8, h, hi => cases h; exact op_ok (i := 8) (o := pr8) rfl rfl (prx8 a _) ⟨rfl, rfl⟩
    | n + 9, h, hi => simp [prs] at h
  · intro j hj o a h ho hd
    match j, hj with
    | 0, _ => cases h; exact op_skip (i := 4) (o := pr4) rfl rfl (prz0 a _ ((ho.slot (by decide)).trans q1) (hd { on := 0, ground := Go.Ground.data } (show _ ∈ (pr4).after by simp [pr4]) (by decide) (by decide)) hat2.y1) ⟨rfl, rfl⟩
    | 1, _ =>
      cases h
      exact op_skip (i := 5) (o := pr5) rfl rfl (prz1 a _ ((ho.slot (by decide)).trans q2) (hd { on := 1, ground := Go.Ground.data } (show _ ∈ (pr5).after by simp [pr5]) (by decide) (by decide)) (by
        show (((((((v.setCell ⟨r1, 0, none⟩ (St s0)).setCell ⟨r1, 1, none⟩ (St s1)).setCell ⟨r1, 2, none⟩ (St s2)).setCell ⟨r1, 3, none⟩ (St s3)).setCell ⟨r1, 4, none⟩ (St s4)).setCell ⟨r1, 5, none⟩ (St s5))).heap[r2]? = _
        rw [set_off hat2.n4.1, set_off hat2.n4.1, set_off hat2.n4.1, set_off hat2.n4.1, set_off hat2.n4.1, set_off hat2.n4.1]
        exact hat2.y2)) ⟨rfl, rfl⟩
    | 2, _ =>
      cases h
      exact op_skip (i := 6) (o := pr6) rfl rfl (prz2 a _ ((ho.slot (by decide)).trans q3) (hd { on := 2, ground := Go.Ground.data } (show _ ∈ (pr6).after by simp [pr6]) (by decide) (by decide)) (by
        show (((((((((((((v.setCell ⟨r1, 0, none⟩ (St s0)).setCell ⟨r1, 1, none⟩ (St s1)).setCell ⟨r1, 2, none⟩ (St s2)).setCell ⟨r1, 3, none⟩ (St s3)).setCell ⟨r1, 4, none⟩ (St s4)).setCell ⟨r1, 5, none⟩ (St s5)).setCell ⟨r2, 0, none⟩ (St o0)).setCell ⟨r2, 1, none⟩ (St o1)).setCell ⟨r2, 2, none⟩ (St o2)).setCell ⟨r2, 3, none⟩ (St o3)).setCell ⟨r2, 4, none⟩ (St o4)).setCell ⟨r2, 5, none⟩ (St o5))).heap[r3]? = _
        rw [set_off hat2.n4.2.2, set_off hat2.n4.2.2, set_off hat2.n4.2.2, set_off hat2.n4.2.2, set_off hat2.n4.2.2, set_off hat2.n4.2.2, set_off hat2.n4.2.1, set_off hat2.n4.2.1, set_off hat2.n4.2.1, set_off hat2.n4.2.1, set_off hat2.n4.2.1, set_off hat2.n4.2.1]
        exact hat2.y3)) ⟨rfl, rfl⟩
end
end Go.Proofs.YtkifchjpgdmcoaaDoor

/- Keys: two sides out of two names. -/
namespace Go.Proofs.YtkifchjpgdmcoaaDoor
open Go.RowKit

set_option maxRecDepth 100000 in
theorem lit106 (s : Nat → Value) : (#[s 0, s 1, s 2, s 3, s 4, s 5, s 6, s 7, s 8, s 9, s 10, s 11, s 12, s 13, s 14, s 15, s 16, s 17, s 18, s 19, s 20, s 21, s 22, s 23, s 24, s 25, s 26, s 27, s 28, s 29, s 30, s 31, s 32, s 33, s 34, s 35, s 36, s 37, s 38, s 39, s 40, s 41, s 42, s 43, s 44, s 45, s 46, s 47, s 48, s 49, s 50, s 51, s 52, s 53, s 54, s 55, s 56, s 57, s 58, s 59, s 60, s 61, s 62, s 63, s 64, s 65, s 66, s 67, s 68, s 69, s 70, s 71, s 72, s 73, s 74, s 75, s 76, s 77, s 78, s 79, s 80, s 81, s 82, s 83, s 84, s 85, s 86, s 87, s 88, s 89, s 90, s 91, s 92, s 93, s 94, s 95, s 96, s 97, s 98, s 99, s 100, s 101, s 102, s 103, s 104, s 105] : Array Value) = ((List.range 106).map s).toArray := by rfl
theorem act106 (a : Act) (h : a.tmps.size = 106) (hd : a.defers = []) : a = ⟨(#[gt a 0, gt a 1, gt a 2, gt a 3, gt a 4, gt a 5, gt a 6, gt a 7, gt a 8, gt a 9, gt a 10, gt a 11, gt a 12, gt a 13, gt a 14, gt a 15, gt a 16, gt a 17, gt a 18, gt a 19, gt a 20, gt a 21, gt a 22, gt a 23, gt a 24, gt a 25, gt a 26, gt a 27, gt a 28, gt a 29, gt a 30, gt a 31, gt a 32, gt a 33, gt a 34, gt a 35, gt a 36, gt a 37, gt a 38, gt a 39, gt a 40, gt a 41, gt a 42, gt a 43, gt a 44, gt a 45, gt a 46, gt a 47, gt a 48, gt a 49, gt a 50, gt a 51, gt a 52, gt a 53, gt a 54, gt a 55, gt a 56, gt a 57, gt a 58, gt a 59, gt a 60, gt a 61, gt a 62, gt a 63, gt a 64, gt a 65, gt a 66, gt a 67, gt a 68, gt a 69, gt a 70, gt a 71, gt a 72, gt a 73, gt a 74, gt a 75, gt a 76, gt a 77, gt a 78, gt a 79, gt a 80, gt a 81, gt a 82, gt a 83, gt a 84, gt a 85, gt a 86, gt a 87, gt a 88, gt a 89, gt a 90, gt a 91, gt a 92, gt a 93, gt a 94, gt a 95, gt a 96, gt a 97, gt a 98, gt a 99, gt a 100, gt a 101, gt a 102, gt a 103, gt a 104, gt a 105] : Array Value), []⟩ := by
  cases a with
  | mk t d =>
    have h' : t.size = 106 := h
    obtain rfl : d = [] := hd
    congr 1
    refine Eq.trans ?_ (lit106 (fun i => gt ⟨t, []⟩ i)).symm
    apply Array.ext
    · simp [h']
    · intro i h1 h2
      simp [gt, h1]

set_option maxHeartbeats 4000000 in
set_option maxRecDepth 100000 in
theorem sides_any {a b n : Int} {ra rb sec pt : Bs} {s0 s1 s2 s3 s4 s5 o0 o1 o2 o3 o4 o5 p0 p1 p2 p3 p4 q0 q1 q2 q3 q4 t0 t1 t2 t3 t4 : Bs} (ha : a ≤ 9223372036854775807) (hb : b ≤ 9223372036854775807) (hn1 : -9223372036854775808 ≤ n) (hn2 : n ≤ 9223372036854775807)
    (hra : nameRes a = (ra, 0)) (hrb : nameRes b = (rb, 0)) (hS : chanRes ra 1 = (⟨s0, s1, s2, s3, s4, s5⟩, 0)) (hO : chanRes rb 2 = (⟨o0, o1, o2, o3, o4, o5⟩, 0)) (hPS : pubs5 ⟨s0, s1, s2, s3, s4, s5⟩ = (⟨p0, p1, p2, p3, p4⟩, 0)) (hPO : pubs5 ⟨o0, o1, o2, o3, o4, o5⟩ = (⟨q0, q1, q2, q3, q4⟩, 0))
    (hsec : secRes s5 (1048575 - n) = (sec, 0)) (hpt : pntRes s5 n = (pt, 0)) (hST : setRes ⟨p0, p1, p2, p3, p4⟩ ⟨q0, q1, q2, q3, q4⟩ pt = (⟨t0, t1, t2, t3, t4⟩, 0)) (w : World) (hp : Pw w) (hl : Lb w) :
    Calls Tryd.prog 26 #[.int .i64 a, .int .i64 b, .int .i64 n] w fun e w' => e = .returned (.tuple #[.agg #[St s0, St s1, St s2, St s3, St s4, St s5], .agg #[St o0, St o1, St o2, St o3, St o4, St o5], .agg #[St t0, St t1, St t2, St t3, St t4], St sec, .bool true]) ∧ Below w.heap.size w w' := by
  have C1 := hid (fun (W : World) (hb : Below w.heap.size w W) => mkname_any a ha W (hp.below hb))
  have C2 := hid (fun (W : World) (hb' : Below w.heap.size w W) => mkname_any b hb W (hp.below hb'))
  have C3 := hid (fun (W : World) (hb : Below w.heap.size w W) => channel_any ra 1 (by decide) W (hp.below hb) (hl.below hb))
  have C4 := hid (fun (W : World) (hb : Below w.heap.size w W) => channel_any rb 2 (by decide) W (hp.below hb) (hl.below hb))
  have C5 := hid (fun (W : World) (_ : Below w.heap.size w W) => public_any ⟨s0, s1, s2, s3, s4, s5⟩ W)
  have C6 := hid (fun (W : World) (_ : Below w.heap.size w W) => public_any ⟨o0, o1, o2, o3, o4, o5⟩ W)
  have C7 := hid (fun (W : World) (hb : Below w.heap.size w W) => reveal_any ⟨s0, s1, s2, s3, s4, s5⟩ n hn1 hn2 W (hp.below hb))
  have C8 := hid (fun (W : World) (hb : Below w.heap.size w W) => point_any ⟨s0, s1, s2, s3, s4, s5⟩ n hn1 hn2 W (hp.below hb))
  have C9 := hid (fun (W : World) (_ : Below w.heap.size w W) => set_any ⟨p0, p1, p2, p3, p4⟩ ⟨q0, q1, q2, q3, q4⟩ pt W)
  rw [hra] at C1
  rw [hrb] at C2
  rw [hS] at C3
  rw [hO] at C4
  rw [hPS] at C5
  rw [hPO] at C6
  rw [show (S6.s ⟨s0, s1, s2, s3, s4, s5⟩) = s5 from rfl, hsec] at C7
  rw [show (S6.s ⟨s0, s1, s2, s3, s4, s5⟩) = s5 from rfl, hpt] at C8
  rw [hST] at C9
  unfold S6.v K5.v at *
  dsimp only at C3 C4 C5 C6 C7 C8 C9
  clear ha hb hn1 hn2 hra hrb hS hO hPS hPO hsec hpt hST hp hl
  obtain ⟨b0, hb0⟩ : ∃ b, b = w.alloc (.cells #[St [], St [], St [], St [], St [], St []] 28) := ⟨_, rfl⟩
  have z0 : b0.heap.size = w.heap.size + 1 := by rw [hb0]; simp
  have l0 : Below w.heap.size w b0 := by rw [hb0]; exact bel_alloc w _
  obtain ⟨b1, hb1⟩ : ∃ b, b = b0.alloc (.cells #[St [], St [], St [], St [], St [], St []] 28) := ⟨_, rfl⟩
  have z1 : b1.heap.size = w.heap.size + 2 := by rw [hb1]; simp [z0]
  have l1 : Below b0.heap.size b0 b1 := by rw [hb1]; exact bel_alloc b0 _
  obtain ⟨b2, hb2⟩ : ∃ b, b = b1.alloc (.cells #[St [], St [], St [], St [], St []] 40) := ⟨_, rfl⟩
  have z2 : b2.heap.size = w.heap.size + 3 := by rw [hb2]; simp [z1]
  have l2 : Below b1.heap.size b1 b2 := by rw [hb2]; exact bel_alloc b1 _
  have HB0 : Hid (Below w.heap.size w b2) := hid ((l0.trans (l1.mono (by omega))).trans (l2.mono (by omega)))
  have Y0 : Hid (b2.heap[w.heap.size]? = some (.cells #[St [], St [], St [], St [], St [], St []] 28 (0, 0))) := hid ((l2.block _ (by omega)).trans ((l1.block _ (by omega)).trans (by rw [hb0]; exact heap_alloc_new w _)))
  have Y1 : Hid (b2.heap[w.heap.size + 1]? = some (.cells #[St [], St [], St [], St [], St [], St []] 28 (0, 0))) := hid ((l2.block _ (by omega)).trans (by rw [hb1, ← z0]; exact heap_alloc_new b0 _))
  have Y2 : Hid (b2.heap[w.heap.size + 2]? = some (.cells #[St [], St [], St [], St [], St []] 40 (0, 0))) := hid (by rw [hb2, ← z1]; exact heap_alloc_new b1 _)
  have HE : Hid (b2 = ((w.alloc (.cells #[St [], St [], St [], St [], St [], St []] 28)).alloc (.cells #[St [], St [], St [], St [], St [], St []] 28)).alloc (.cells #[St [], St [], St [], St [], St []] 40)) := hid (by rw [hb2, hb1, hb0])
  have HZ2 := hid z2
  clear z0 z1 z2 l0 l1 l2 hb0 hb1 hb2
  have HR := hid (Below.refl b2.heap.size b2)
  go_enter Tryd.func26, Tryd.ntmps26
  go_wp2_with fail
  have hcc := C1.out b2 (HB0.out.trans (HR.out.mono HB0.out.size))
  rw [HE.out] at hcc
  refine hcc.mono ?_
  clear hcc C1
  rintro _ v1 ⟨rfl, hb⟩
  rw [← HE.out] at hb
  have HR2 := hid (HR.out.trans (hb.mono HR.out.size))
  clear hb HR HE
  have HR := HR2
  clear HR2
  go_wp2_with fail
  have hcc := C2.out v1 (HB0.out.trans (HR.out.mono HB0.out.size))
  refine hcc.mono ?_
  clear hcc C2
  rintro _ v2 ⟨rfl, hb⟩
  have HR2 := hid (HR.out.trans (hb.mono HR.out.size))
  clear hb HR
  have HR := HR2
  clear HR2
  go_wp2_with fail
  have hcc := C3.out v2 (HB0.out.trans (HR.out.mono HB0.out.size))
  refine hcc.mono ?_
  clear hcc C3
  rintro _ v3 ⟨rfl, hb⟩
  have HR2 := hid (HR.out.trans (hb.mono HR.out.size))
  clear hb HR
  have HR := HR2
  clear HR2
  have NE3 : Hid (w.heap.size + 3 ≤ v3.heap.size) := hid (by have h1 := HR.out.size; have h2 := HZ2.out; omega)
  obtain ⟨a3, ha3⟩ : ∃ b, b = v3.alloc (.cells #[St s0, St s1, St s2, St s3, St s4, St s5] 28) := ⟨_, rfl⟩
  have hz : Below v3.heap.size v3 a3 := by rw [ha3]; exact bel_alloc v3 _
  have XN3 : Hid (a3.heap[v3.heap.size]? = some (.cells #[St s0, St s1, St s2, St s3, St s4, St s5] 28 (0, 0))) := hid (by rw [ha3]; exact heap_alloc_new v3 _)
  have HR2 := hid (HR.out.trans (hz.mono HR.out.size))
  have HE3 := hid ha3
  clear hz ha3 HR
  have HR := HR2
  clear HR2
  go_wp2_with fail
  have hcc := C4.out a3 (HB0.out.trans (HR.out.mono HB0.out.size))
  rw [HE3.out] at hcc
  refine hcc.mono ?_
  clear hcc C4
  rintro _ v4 ⟨rfl, hb⟩
  rw [← HE3.out] at hb
  have HR2 := hid (HR.out.trans (hb.mono HR.out.size))
  have XN32 := hid ((hb.block _ (heap_lt XN3.out)).trans XN3.out)
  clear XN3
  have XN3 := XN32
  clear XN32
  clear hb HR HE3
  have HR := HR2
  clear HR2
  have jXN30 : v4.cell? ⟨v3.heap.size, 0, none⟩ = some (St s0) := by rw [cell_of_heap XN3.out]; rfl
  have jXN31 : v4.cell? ⟨v3.heap.size, 1, none⟩ = some (St s1) := by rw [cell_of_heap XN3.out]; rfl
  have jXN32 : v4.cell? ⟨v3.heap.size, 2, none⟩ = some (St s2) := by rw [cell_of_heap XN3.out]; rfl
  have jXN33 : v4.cell? ⟨v3.heap.size, 3, none⟩ = some (St s3) := by rw [cell_of_heap XN3.out]; rfl
  have jXN34 : v4.cell? ⟨v3.heap.size, 4, none⟩ = some (St s4) := by rw [cell_of_heap XN3.out]; rfl
  have jXN35 : v4.cell? ⟨v3.heap.size, 5, none⟩ = some (St s5) := by rw [cell_of_heap XN3.out]; rfl
  have ltXN3 : v3.heap.size < v4.heap.size := heap_lt XN3.out
  have NE4 : Hid (w.heap.size + 3 ≤ v4.heap.size) := hid (by have h1 := HR.out.size; have h2 := HZ2.out; omega)
  obtain ⟨a4, ha4⟩ : ∃ b, b = v4.alloc (.cells #[St o0, St o1, St o2, St o3, St o4, St o5] 28) := ⟨_, rfl⟩
  have hz : Below v4.heap.size v4 a4 := by rw [ha4]; exact bel_alloc v4 _
  have XN32 := hid ((hz.block _ (heap_lt XN3.out)).trans XN3.out)
  clear XN3
  have XN3 := XN32
  clear XN32
  have XN4 : Hid (a4.heap[v4.heap.size]? = some (.cells #[St o0, St o1, St o2, St o3, St o4, St o5] 28 (0, 0))) := hid (by rw [ha4]; exact heap_alloc_new v4 _)
  have HR2 := hid (HR.out.trans (hz.mono HR.out.size))
  have HE4 := hid ha4
  clear hz ha4 HR
  have HR := HR2
  clear HR2
  go_wp2_with fail
  clear jXN30 jXN31 jXN32 jXN33 jXN34 jXN35 ltXN3
  have hcc := C5.out a4 (HB0.out.trans (HR.out.mono HB0.out.size))
  rw [HE4.out] at hcc
  refine hcc.mono ?_
  clear hcc C5
  rintro _ v5 ⟨rfl, hb⟩
  rw [← HE4.out] at hb
  have HR2 := hid (HR.out.trans (hb.mono HR.out.size))
  have XN32 := hid ((hb.block _ (heap_lt XN3.out)).trans XN3.out)
  clear XN3
  have XN3 := XN32
  clear XN32
  have XN42 := hid ((hb.block _ (heap_lt XN4.out)).trans XN4.out)
  clear XN4
  have XN4 := XN42
  clear XN42
  clear hb HR HE4
  have HR := HR2
  clear HR2
  have jXN30 : v5.cell? ⟨v3.heap.size, 0, none⟩ = some (St s0) := by rw [cell_of_heap XN3.out]; rfl
  have jXN31 : v5.cell? ⟨v3.heap.size, 1, none⟩ = some (St s1) := by rw [cell_of_heap XN3.out]; rfl
  have jXN32 : v5.cell? ⟨v3.heap.size, 2, none⟩ = some (St s2) := by rw [cell_of_heap XN3.out]; rfl
  have jXN33 : v5.cell? ⟨v3.heap.size, 3, none⟩ = some (St s3) := by rw [cell_of_heap XN3.out]; rfl
  have jXN34 : v5.cell? ⟨v3.heap.size, 4, none⟩ = some (St s4) := by rw [cell_of_heap XN3.out]; rfl
  have jXN35 : v5.cell? ⟨v3.heap.size, 5, none⟩ = some (St s5) := by rw [cell_of_heap XN3.out]; rfl
  have ltXN3 : v3.heap.size < v5.heap.size := heap_lt XN3.out
  have jXN40 : v5.cell? ⟨v4.heap.size, 0, none⟩ = some (St o0) := by rw [cell_of_heap XN4.out]; rfl
  have jXN41 : v5.cell? ⟨v4.heap.size, 1, none⟩ = some (St o1) := by rw [cell_of_heap XN4.out]; rfl
  have jXN42 : v5.cell? ⟨v4.heap.size, 2, none⟩ = some (St o2) := by rw [cell_of_heap XN4.out]; rfl
  have jXN43 : v5.cell? ⟨v4.heap.size, 3, none⟩ = some (St o3) := by rw [cell_of_heap XN4.out]; rfl
  have jXN44 : v5.cell? ⟨v4.heap.size, 4, none⟩ = some (St o4) := by rw [cell_of_heap XN4.out]; rfl
  have jXN45 : v5.cell? ⟨v4.heap.size, 5, none⟩ = some (St o5) := by rw [cell_of_heap XN4.out]; rfl
  have ltXN4 : v4.heap.size < v5.heap.size := heap_lt XN4.out
  have NE5 : Hid (w.heap.size + 3 ≤ v5.heap.size) := hid (by have h1 := HR.out.size; have h2 := HZ2.out; omega)
  obtain ⟨a5, ha5⟩ : ∃ b, b = v5.alloc (.cells #[St p0, St p1, St p2, St p3, St p4] 34) := ⟨_, rfl⟩
  have hz : Below v5.heap.size v5 a5 := by rw [ha5]; exact bel_alloc v5 _
  have XN32 := hid ((hz.block _ (heap_lt XN3.out)).trans XN3.out)
  clear XN3
  have XN3 := XN32
  clear XN32
  have XN42 := hid ((hz.block _ (heap_lt XN4.out)).trans XN4.out)
  clear XN4
  have XN4 := XN42
  clear XN42
  have XN5 : Hid (a5.heap[v5.heap.size]? = some (.cells #[St p0, St p1, St p2, St p3, St p4] 34 (0, 0))) := hid (by rw [ha5]; exact heap_alloc_new v5 _)
  have HR2 := hid (HR.out.trans (hz.mono HR.out.size))
  have HE5 := hid ha5
  clear hz ha5 HR
  have HR := HR2
  clear HR2
  go_wp2_with fail
  clear jXN30 jXN31 jXN32 jXN33 jXN34 jXN35 ltXN3 jXN40 jXN41 jXN42 jXN43 jXN44 jXN45 ltXN4
  have hcc := C6.out a5 (HB0.out.trans (HR.out.mono HB0.out.size))
  rw [HE5.out] at hcc
  refine hcc.mono ?_
  clear hcc C6
  rintro _ v6 ⟨rfl, hb⟩
  rw [← HE5.out] at hb
  have HR2 := hid (HR.out.trans (hb.mono HR.out.size))
  have XN32 := hid ((hb.block _ (heap_lt XN3.out)).trans XN3.out)
  clear XN3
  have XN3 := XN32
  clear XN32
  have XN42 := hid ((hb.block _ (heap_lt XN4.out)).trans XN4.out)
  clear XN4
  have XN4 := XN42
  clear XN42
  have XN52 := hid ((hb.block _ (heap_lt XN5.out)).trans XN5.out)
  clear XN5
  have XN5 := XN52
  clear XN52
  clear hb HR HE5
  have HR := HR2
  clear HR2
  have jXN30 : v6.cell? ⟨v3.heap.size, 0, none⟩ = some (St s0) := by rw [cell_of_heap XN3.out]; rfl
  have jXN31 : v6.cell? ⟨v3.heap.size, 1, none⟩ = some (St s1) := by rw [cell_of_heap XN3.out]; rfl
  have jXN32 : v6.cell? ⟨v3.heap.size, 2, none⟩ = some (St s2) := by rw [cell_of_heap XN3.out]; rfl
  have jXN33 : v6.cell? ⟨v3.heap.size, 3, none⟩ = some (St s3) := by rw [cell_of_heap XN3.out]; rfl
  have jXN34 : v6.cell? ⟨v3.heap.size, 4, none⟩ = some (St s4) := by rw [cell_of_heap XN3.out]; rfl
  have jXN35 : v6.cell? ⟨v3.heap.size, 5, none⟩ = some (St s5) := by rw [cell_of_heap XN3.out]; rfl
  have ltXN3 : v3.heap.size < v6.heap.size := heap_lt XN3.out
  have jXN40 : v6.cell? ⟨v4.heap.size, 0, none⟩ = some (St o0) := by rw [cell_of_heap XN4.out]; rfl
  have jXN41 : v6.cell? ⟨v4.heap.size, 1, none⟩ = some (St o1) := by rw [cell_of_heap XN4.out]; rfl
  have jXN42 : v6.cell? ⟨v4.heap.size, 2, none⟩ = some (St o2) := by rw [cell_of_heap XN4.out]; rfl
  have jXN43 : v6.cell? ⟨v4.heap.size, 3, none⟩ = some (St o3) := by rw [cell_of_heap XN4.out]; rfl
  have jXN44 : v6.cell? ⟨v4.heap.size, 4, none⟩ = some (St o4) := by rw [cell_of_heap XN4.out]; rfl
  have jXN45 : v6.cell? ⟨v4.heap.size, 5, none⟩ = some (St o5) := by rw [cell_of_heap XN4.out]; rfl
  have ltXN4 : v4.heap.size < v6.heap.size := heap_lt XN4.out
  have jXN50 : v6.cell? ⟨v5.heap.size, 0, none⟩ = some (St p0) := by rw [cell_of_heap XN5.out]; rfl
  have jXN51 : v6.cell? ⟨v5.heap.size, 1, none⟩ = some (St p1) := by rw [cell_of_heap XN5.out]; rfl
  have jXN52 : v6.cell? ⟨v5.heap.size, 2, none⟩ = some (St p2) := by rw [cell_of_heap XN5.out]; rfl
  have jXN53 : v6.cell? ⟨v5.heap.size, 3, none⟩ = some (St p3) := by rw [cell_of_heap XN5.out]; rfl
  have jXN54 : v6.cell? ⟨v5.heap.size, 4, none⟩ = some (St p4) := by rw [cell_of_heap XN5.out]; rfl
  have ltXN5 : v5.heap.size < v6.heap.size := heap_lt XN5.out
  have NE6 : Hid (w.heap.size + 3 ≤ v6.heap.size) := hid (by have h1 := HR.out.size; have h2 := HZ2.out; omega)
  obtain ⟨a6, ha6⟩ : ∃ b, b = v6.alloc (.cells #[St q0, St q1, St q2, St q3, St q4] 34) := ⟨_, rfl⟩
  have hz : Below v6.heap.size v6 a6 := by rw [ha6]; exact bel_alloc v6 _
  have XN32 := hid ((hz.block _ (heap_lt XN3.out)).trans XN3.out)
  clear XN3
  have XN3 := XN32
  clear XN32
  have XN42 := hid ((hz.block _ (heap_lt XN4.out)).trans XN4.out)
  clear XN4
  have XN4 := XN42
  clear XN42
  have XN52 := hid ((hz.block _ (heap_lt XN5.out)).trans XN5.out)
  clear XN5
  have XN5 := XN52
  clear XN52
  have XN6 : Hid (a6.heap[v6.heap.size]? = some (.cells #[St q0, St q1, St q2, St q3, St q4] 34 (0, 0))) := hid (by rw [ha6]; exact heap_alloc_new v6 _)
  have HR2 := hid (HR.out.trans (hz.mono HR.out.size))
  have HE6 := hid ha6
  clear hz ha6 HR
  have HR := HR2
  clear HR2
  go_wp2_with fail
  clear jXN30 jXN31 jXN32 jXN33 jXN34 jXN35 ltXN3 jXN40 jXN41 jXN42 jXN43 jXN44 jXN45 ltXN4 jXN50 jXN51 jXN52 jXN53 jXN54 ltXN5
  have hcc := C7.out a6 (HB0.out.trans (HR.out.mono HB0.out.size))
  rw [HE6.out] at hcc
  refine hcc.mono ?_
  clear hcc C7
  rintro _ v7 ⟨rfl, hb⟩
  rw [← HE6.out] at hb
  have HR2 := hid (HR.out.trans (hb.mono HR.out.size))
  have XN32 := hid ((hb.block _ (heap_lt XN3.out)).trans XN3.out)
  clear XN3
  have XN3 := XN32
  clear XN32
  have XN42 := hid ((hb.block _ (heap_lt XN4.out)).trans XN4.out)
  clear XN4
  have XN4 := XN42
  clear XN42
  have XN52 := hid ((hb.block _ (heap_lt XN5.out)).trans XN5.out)
  clear XN5
  have XN5 := XN52
  clear XN52
  have XN62 := hid ((hb.block _ (heap_lt XN6.out)).trans XN6.out)
  clear XN6
  have XN6 := XN62
  clear XN62
  clear hb HR HE6
  have HR := HR2
  clear HR2
  have jXN30 : v7.cell? ⟨v3.heap.size, 0, none⟩ = some (St s0) := by rw [cell_of_heap XN3.out]; rfl
  have jXN31 : v7.cell? ⟨v3.heap.size, 1, none⟩ = some (St s1) := by rw [cell_of_heap XN3.out]; rfl
  have jXN32 : v7.cell? ⟨v3.heap.size, 2, none⟩ = some (St s2) := by rw [cell_of_heap XN3.out]; rfl
  have jXN33 : v7.cell? ⟨v3.heap.size, 3, none⟩ = some (St s3) := by rw [cell_of_heap XN3.out]; rfl
  have jXN34 : v7.cell? ⟨v3.heap.size, 4, none⟩ = some (St s4) := by rw [cell_of_heap XN3.out]; rfl
  have jXN35 : v7.cell? ⟨v3.heap.size, 5, none⟩ = some (St s5) := by rw [cell_of_heap XN3.out]; rfl
  have ltXN3 : v3.heap.size < v7.heap.size := heap_lt XN3.out
  have jXN40 : v7.cell? ⟨v4.heap.size, 0, none⟩ = some (St o0) := by rw [cell_of_heap XN4.out]; rfl
  have jXN41 : v7.cell? ⟨v4.heap.size, 1, none⟩ = some (St o1) := by rw [cell_of_heap XN4.out]; rfl
  have jXN42 : v7.cell? ⟨v4.heap.size, 2, none⟩ = some (St o2) := by rw [cell_of_heap XN4.out]; rfl
  have jXN43 : v7.cell? ⟨v4.heap.size, 3, none⟩ = some (St o3) := by rw [cell_of_heap XN4.out]; rfl
  have jXN44 : v7.cell? ⟨v4.heap.size, 4, none⟩ = some (St o4) := by rw [cell_of_heap XN4.out]; rfl
  have jXN45 : v7.cell? ⟨v4.heap.size, 5, none⟩ = some (St o5) := by rw [cell_of_heap XN4.out]; rfl
  have ltXN4 : v4.heap.size < v7.heap.size := heap_lt XN4.out
  have jXN50 : v7.cell? ⟨v5.heap.size, 0, none⟩ = some (St p0) := by rw [cell_of_heap XN5.out]; rfl
  have jXN51 : v7.cell? ⟨v5.heap.size, 1, none⟩ = some (St p1) := by rw [cell_of_heap XN5.out]; rfl
  have jXN52 : v7.cell? ⟨v5.heap.size, 2, none⟩ = some (St p2) := by rw [cell_of_heap XN5.out]; rfl
  have jXN53 : v7.cell? ⟨v5.heap.size, 3, none⟩ = some (St p3) := by rw [cell_of_heap XN5.out]; rfl
  have jXN54 : v7.cell? ⟨v5.heap.size, 4, none⟩ = some (St p4) := by rw [cell_of_heap XN5.out]; rfl
  have ltXN5 : v5.heap.size < v7.heap.size := heap_lt XN5.out
  have jXN60 : v7.cell? ⟨v6.heap.size, 0, none⟩ = some (St q0) := by rw [cell_of_heap XN6.out]; rfl
  have jXN61 : v7.cell? ⟨v6.heap.size, 1, none⟩ = some (St q1) := by rw [cell_of_heap XN6.out]; rfl
  have jXN62 : v7.cell? ⟨v6.heap.size, 2, none⟩ = some (St q2) := by rw [cell_of_heap XN6.out]; rfl
  have jXN63 : v7.cell? ⟨v6.heap.size, 3, none⟩ = some (St q3) := by rw [cell_of_heap XN6.out]; rfl
  have jXN64 : v7.cell? ⟨v6.heap.size, 4, none⟩ = some (St q4) := by rw [cell_of_heap XN6.out]; rfl
  have ltXN6 : v6.heap.size < v7.heap.size := heap_lt XN6.out
  go_wp2_with fail
  clear jXN30 jXN31 jXN32 jXN33 jXN34 jXN35 ltXN3 jXN40 jXN41 jXN42 jXN43 jXN44 jXN45 ltXN4 jXN50 jXN51 jXN52 jXN53 jXN54 ltXN5 jXN60 jXN61 jXN62 jXN63 jXN64 ltXN6
  have hcc := C8.out v7 (HB0.out.trans (HR.out.mono HB0.out.size))
  refine hcc.mono ?_
  clear hcc C8
  rintro _ v8 ⟨rfl, hb⟩
  have HR2 := hid (HR.out.trans (hb.mono HR.out.size))
  have XN32 := hid ((hb.block _ (heap_lt XN3.out)).trans XN3.out)
  clear XN3
  have XN3 := XN32
  clear XN32
  have XN42 := hid ((hb.block _ (heap_lt XN4.out)).trans XN4.out)
  clear XN4
  have XN4 := XN42
  clear XN42
  have XN52 := hid ((hb.block _ (heap_lt XN5.out)).trans XN5.out)
  clear XN5
  have XN5 := XN52
  clear XN52
  have XN62 := hid ((hb.block _ (heap_lt XN6.out)).trans XN6.out)
  clear XN6
  have XN6 := XN62
  clear XN62
  clear hb HR
  have HR := HR2
  clear HR2
  have jXN30 : v8.cell? ⟨v3.heap.size, 0, none⟩ = some (St s0) := by rw [cell_of_heap XN3.out]; rfl
  have jXN31 : v8.cell? ⟨v3.heap.size, 1, none⟩ = some (St s1) := by rw [cell_of_heap XN3.out]; rfl
  have jXN32 : v8.cell? ⟨v3.heap.size, 2, none⟩ = some (St s2) := by rw [cell_of_heap XN3.out]; rfl
  have jXN33 : v8.cell? ⟨v3.heap.size, 3, none⟩ = some (St s3) := by rw [cell_of_heap XN3.out]; rfl
  have jXN34 : v8.cell? ⟨v3.heap.size, 4, none⟩ = some (St s4) := by rw [cell_of_heap XN3.out]; rfl
  have jXN35 : v8.cell? ⟨v3.heap.size, 5, none⟩ = some (St s5) := by rw [cell_of_heap XN3.out]; rfl
  have ltXN3 : v3.heap.size < v8.heap.size := heap_lt XN3.out
  have jXN40 : v8.cell? ⟨v4.heap.size, 0, none⟩ = some (St o0) := by rw [cell_of_heap XN4.out]; rfl
  have jXN41 : v8.cell? ⟨v4.heap.size, 1, none⟩ = some (St o1) := by rw [cell_of_heap XN4.out]; rfl
  have jXN42 : v8.cell? ⟨v4.heap.size, 2, none⟩ = some (St o2) := by rw [cell_of_heap XN4.out]; rfl
  have jXN43 : v8.cell? ⟨v4.heap.size, 3, none⟩ = some (St o3) := by rw [cell_of_heap XN4.out]; rfl
  have jXN44 : v8.cell? ⟨v4.heap.size, 4, none⟩ = some (St o4) := by rw [cell_of_heap XN4.out]; rfl
  have jXN45 : v8.cell? ⟨v4.heap.size, 5, none⟩ = some (St o5) := by rw [cell_of_heap XN4.out]; rfl
  have ltXN4 : v4.heap.size < v8.heap.size := heap_lt XN4.out
  have jXN50 : v8.cell? ⟨v5.heap.size, 0, none⟩ = some (St p0) := by rw [cell_of_heap XN5.out]; rfl
  have jXN51 : v8.cell? ⟨v5.heap.size, 1, none⟩ = some (St p1) := by rw [cell_of_heap XN5.out]; rfl
  have jXN52 : v8.cell? ⟨v5.heap.size, 2, none⟩ = some (St p2) := by rw [cell_of_heap XN5.out]; rfl
  have jXN53 : v8.cell? ⟨v5.heap.size, 3, none⟩ = some (St p3) := by rw [cell_of_heap XN5.out]; rfl
  have jXN54 : v8.cell? ⟨v5.heap.size, 4, none⟩ = some (St p4) := by rw [cell_of_heap XN5.out]; rfl
  have ltXN5 : v5.heap.size < v8.heap.size := heap_lt XN5.out
  have jXN60 : v8.cell? ⟨v6.heap.size, 0, none⟩ = some (St q0) := by rw [cell_of_heap XN6.out]; rfl
  have jXN61 : v8.cell? ⟨v6.heap.size, 1, none⟩ = some (St q1) := by rw [cell_of_heap XN6.out]; rfl
  have jXN62 : v8.cell? ⟨v6.heap.size, 2, none⟩ = some (St q2) := by rw [cell_of_heap XN6.out]; rfl
  have jXN63 : v8.cell? ⟨v6.heap.size, 3, none⟩ = some (St q3) := by rw [cell_of_heap XN6.out]; rfl
  have jXN64 : v8.cell? ⟨v6.heap.size, 4, none⟩ = some (St q4) := by rw [cell_of_heap XN6.out]; rfl
  have ltXN6 : v6.heap.size < v8.heap.size := heap_lt XN6.out
  go_wp2_with fail
  clear jXN30 jXN31 jXN32 jXN33 jXN34 jXN35 ltXN3 jXN40 jXN41 jXN42 jXN43 jXN44 jXN45 ltXN4 jXN50 jXN51 jXN52 jXN53 jXN54 ltXN5 jXN60 jXN61 jXN62 jXN63 jXN64 ltXN6
  have hcc := C9.out v8 (HB0.out.trans (HR.out.mono HB0.out.size))
  refine hcc.mono ?_
  clear hcc C9
  rintro _ v9 ⟨rfl, hb⟩
  have HR2 := hid (HR.out.trans (hb.mono HR.out.size))
  have XN32 := hid ((hb.block _ (heap_lt XN3.out)).trans XN3.out)
  clear XN3
  have XN3 := XN32
  clear XN32
  have XN42 := hid ((hb.block _ (heap_lt XN4.out)).trans XN4.out)
  clear XN4
  have XN4 := XN42
  clear XN42
  have XN52 := hid ((hb.block _ (heap_lt XN5.out)).trans XN5.out)
  clear XN5
  have XN5 := XN52
  clear XN52
  have XN62 := hid ((hb.block _ (heap_lt XN6.out)).trans XN6.out)
  clear XN6
  have XN6 := XN62
  clear XN62
  clear hb HR
  have HR := HR2
  clear HR2
  have jXN30 : v9.cell? ⟨v3.heap.size, 0, none⟩ = some (St s0) := by rw [cell_of_heap XN3.out]; rfl
  have jXN31 : v9.cell? ⟨v3.heap.size, 1, none⟩ = some (St s1) := by rw [cell_of_heap XN3.out]; rfl
  have jXN32 : v9.cell? ⟨v3.heap.size, 2, none⟩ = some (St s2) := by rw [cell_of_heap XN3.out]; rfl
  have jXN33 : v9.cell? ⟨v3.heap.size, 3, none⟩ = some (St s3) := by rw [cell_of_heap XN3.out]; rfl
  have jXN34 : v9.cell? ⟨v3.heap.size, 4, none⟩ = some (St s4) := by rw [cell_of_heap XN3.out]; rfl
  have jXN35 : v9.cell? ⟨v3.heap.size, 5, none⟩ = some (St s5) := by rw [cell_of_heap XN3.out]; rfl
  have ltXN3 : v3.heap.size < v9.heap.size := heap_lt XN3.out
  have jXN40 : v9.cell? ⟨v4.heap.size, 0, none⟩ = some (St o0) := by rw [cell_of_heap XN4.out]; rfl
  have jXN41 : v9.cell? ⟨v4.heap.size, 1, none⟩ = some (St o1) := by rw [cell_of_heap XN4.out]; rfl
  have jXN42 : v9.cell? ⟨v4.heap.size, 2, none⟩ = some (St o2) := by rw [cell_of_heap XN4.out]; rfl
  have jXN43 : v9.cell? ⟨v4.heap.size, 3, none⟩ = some (St o3) := by rw [cell_of_heap XN4.out]; rfl
  have jXN44 : v9.cell? ⟨v4.heap.size, 4, none⟩ = some (St o4) := by rw [cell_of_heap XN4.out]; rfl
  have jXN45 : v9.cell? ⟨v4.heap.size, 5, none⟩ = some (St o5) := by rw [cell_of_heap XN4.out]; rfl
  have ltXN4 : v4.heap.size < v9.heap.size := heap_lt XN4.out
  have jXN50 : v9.cell? ⟨v5.heap.size, 0, none⟩ = some (St p0) := by rw [cell_of_heap XN5.out]; rfl
  have jXN51 : v9.cell? ⟨v5.heap.size, 1, none⟩ = some (St p1) := by rw [cell_of_heap XN5.out]; rfl
  have jXN52 : v9.cell? ⟨v5.heap.size, 2, none⟩ = some (St p2) := by rw [cell_of_heap XN5.out]; rfl
  have jXN53 : v9.cell? ⟨v5.heap.size, 3, none⟩ = some (St p3) := by rw [cell_of_heap XN5.out]; rfl
  have jXN54 : v9.cell? ⟨v5.heap.size, 4, none⟩ = some (St p4) := by rw [cell_of_heap XN5.out]; rfl
  have ltXN5 : v5.heap.size < v9.heap.size := heap_lt XN5.out
  have jXN60 : v9.cell? ⟨v6.heap.size, 0, none⟩ = some (St q0) := by rw [cell_of_heap XN6.out]; rfl
  have jXN61 : v9.cell? ⟨v6.heap.size, 1, none⟩ = some (St q1) := by rw [cell_of_heap XN6.out]; rfl
  have jXN62 : v9.cell? ⟨v6.heap.size, 2, none⟩ = some (St q2) := by rw [cell_of_heap XN6.out]; rfl
  have jXN63 : v9.cell? ⟨v6.heap.size, 3, none⟩ = some (St q3) := by rw [cell_of_heap XN6.out]; rfl
  have jXN64 : v9.cell? ⟨v6.heap.size, 4, none⟩ = some (St q4) := by rw [cell_of_heap XN6.out]; rfl
  have ltXN6 : v6.heap.size < v9.heap.size := heap_lt XN6.out
  have NE9 : Hid (w.heap.size + 3 ≤ v9.heap.size) := hid (by have h1 := HR.out.size; have h2 := HZ2.out; omega)
  obtain ⟨a9, ha9⟩ : ∃ b, b = v9.alloc (.cells #[St t0, St t1, St t2, St t3, St t4] 40) := ⟨_, rfl⟩
  have hz : Below v9.heap.size v9 a9 := by rw [ha9]; exact bel_alloc v9 _
  have XN32 := hid ((hz.block _ (heap_lt XN3.out)).trans XN3.out)
  clear XN3
  have XN3 := XN32
  clear XN32
  have XN42 := hid ((hz.block _ (heap_lt XN4.out)).trans XN4.out)
  clear XN4
  have XN4 := XN42
  clear XN42
  have XN52 := hid ((hz.block _ (heap_lt XN5.out)).trans XN5.out)
  clear XN5
  have XN5 := XN52
  clear XN52
  have XN62 := hid ((hz.block _ (heap_lt XN6.out)).trans XN6.out)
  clear XN6
  have XN6 := XN62
  clear XN62
  have XN9 : Hid (a9.heap[v9.heap.size]? = some (.cells #[St t0, St t1, St t2, St t3, St t4] 40 (0, 0))) := hid (by rw [ha9]; exact heap_alloc_new v9 _)
  have HR2 := hid (HR.out.trans (hz.mono HR.out.size))
  have HE9 := hid ha9
  clear hz ha9 HR
  have HR := HR2
  clear HR2
  go_wp2_with fail
  clear jXN30 jXN31 jXN32 jXN33 jXN34 jXN35 ltXN3 jXN40 jXN41 jXN42 jXN43 jXN44 jXN45 ltXN4 jXN50 jXN51 jXN52 jXN53 jXN54 ltXN5 jXN60 jXN61 jXN62 jXN63 jXN64 ltXN6
  have hea := HE9.out
  obtain ⟨w6, hw6⟩ : ∃ b, b = a9.alloc (.cells #[.int .i64 0, .int .i64 0, .int .i64 0, .int .i64 0, .int .i64 0, .int .i64 0, .int .i64 0, .int .i64 0, .int .i64 0] 23) := ⟨_, rfl⟩
  have hz : Below a9.heap.size a9 w6 := by rw [hw6]; exact bel_alloc a9 _
  have XN32 := hid ((hz.block _ (heap_lt XN3.out)).trans XN3.out)
  clear XN3
  have XN3 := XN32
  clear XN32
  have XN42 := hid ((hz.block _ (heap_lt XN4.out)).trans XN4.out)
  clear XN4
  have XN4 := XN42
  clear XN42
  have XN52 := hid ((hz.block _ (heap_lt XN5.out)).trans XN5.out)
  clear XN5
  have XN5 := XN52
  clear XN52
  have XN62 := hid ((hz.block _ (heap_lt XN6.out)).trans XN6.out)
  clear XN6
  have XN6 := XN62
  clear XN62
  have XN92 := hid ((hz.block _ (heap_lt XN9.out)).trans XN9.out)
  clear XN9
  have XN9 := XN92
  clear XN92
  obtain ⟨rowb, hrow⟩ : ∃ r, r = v9.heap.size + 1 := ⟨_, rfl⟩
  have hsz9 : a9.heap.size = v9.heap.size + 1 := by rw [hea]; simp
  have HT0 : Hid (w6.heap[rowb]? = some (.cells #[.int .i64 0, .int .i64 0, .int .i64 0, .int .i64 0, .int .i64 0, .int .i64 0, .int .i64 0, .int .i64 0, .int .i64 0] 23 (0, 0))) := hid (by rw [hw6, hrow, ← hsz9]; exact heap_alloc_new a9 _)
  have HR2 := hid (HR.out.trans (hz.mono HR.out.size))
  clear HR
  have HR := HR2
  clear HR2
  have HW6 : Hid (w6 = (v9.alloc (.cells #[St t0, St t1, St t2, St t3, St t4] 40)).alloc (.cells #[.int .i64 0, .int .i64 0, .int .i64 0, .int .i64 0, .int .i64 0, .int .i64 0, .int .i64 0, .int .i64 0, .int .i64 0] 23)) := hid (by rw [hw6, hea])
  clear hz hw6 hea hsz9 HE9
  rw [← hrow]
  have HROW := hid hrow
  clear hrow
  go_loopg [91] 9 (fun gg v91 wr => ∃ i : Nat, i ≤ 9 ∧ gg = 9 - i ∧ v91 = .int .i64 (i : Int) ∧ Below w6.heap.size w6 wr)
  case atStart => exact ⟨0, by omega, by omega, rfl, by rw [HW6.out]; exact Below.refl _ _⟩
  case round =>
    obtain ⟨i, hi, rfl, rfl, hbel⟩ := hrel
    have HBE := hid hbel
    clear hbel
    by_cases hil : i < 9
    · have hcl : wr.cell? ⟨rowb, i, none⟩ = some (.int .i64 0) := by
        rw [cell_of_heap ((HBE.out.block _ (heap_lt HT0.out)).trans HT0.out)]
        rcases (show i = 0 ∨ i = 1 ∨ i = 2 ∨ i = 3 ∨ i = 4 ∨ i = 5 ∨ i = 6 ∨ i = 7 ∨ i = 8 by omega) with h | h | h | h | h | h | h | h | h <;> subst h <;> rfl
      go_wp2_with fail
      go_roundg (9 - (i + 1))
      case measure => omega
      case rel => exact ⟨i + 1, by omega, rfl, by go_num, HBE.out⟩
    · obtain rfl : i = 9 := by omega
      generalize hz : ((9 : Nat) : Int) = z
      obtain rfl : (9 : Int) = z := hz
      have HBW := hid (HB0.out.trans ((HR.out.trans (HBE.out.mono HR.out.size)).mono HB0.out.size))
      have HRW := hid (HR.out.trans (HBE.out.mono HR.out.size))
      have XN32 := hid ((HBE.out.block _ (heap_lt XN3.out)).trans XN3.out)
      clear XN3
      have XN3 := XN32
      clear XN32
      have XN42 := hid ((HBE.out.block _ (heap_lt XN4.out)).trans XN4.out)
      clear XN4
      have XN4 := XN42
      clear XN42
      have XN52 := hid ((HBE.out.block _ (heap_lt XN5.out)).trans XN5.out)
      clear XN5
      have XN5 := XN52
      clear XN52
      have XN62 := hid ((HBE.out.block _ (heap_lt XN6.out)).trans XN6.out)
      clear XN6
      have XN6 := XN62
      clear XN62
      have XN92 := hid ((HBE.out.block _ (heap_lt XN9.out)).trans XN9.out)
      clear XN9
      have XN9 := XN92
      clear XN92
      have jXN30 : wr.cell? ⟨v3.heap.size, 0, none⟩ = some (St s0) := by rw [cell_of_heap XN3.out]; rfl
      have jXN31 : wr.cell? ⟨v3.heap.size, 1, none⟩ = some (St s1) := by rw [cell_of_heap XN3.out]; rfl
      have jXN32 : wr.cell? ⟨v3.heap.size, 2, none⟩ = some (St s2) := by rw [cell_of_heap XN3.out]; rfl
      have jXN33 : wr.cell? ⟨v3.heap.size, 3, none⟩ = some (St s3) := by rw [cell_of_heap XN3.out]; rfl
      have jXN34 : wr.cell? ⟨v3.heap.size, 4, none⟩ = some (St s4) := by rw [cell_of_heap XN3.out]; rfl
      have jXN35 : wr.cell? ⟨v3.heap.size, 5, none⟩ = some (St s5) := by rw [cell_of_heap XN3.out]; rfl
      have ltXN3 : v3.heap.size < wr.heap.size := heap_lt XN3.out
      have jXN40 : wr.cell? ⟨v4.heap.size, 0, none⟩ = some (St o0) := by rw [cell_of_heap XN4.out]; rfl
      have jXN41 : wr.cell? ⟨v4.heap.size, 1, none⟩ = some (St o1) := by rw [cell_of_heap XN4.out]; rfl
      have jXN42 : wr.cell? ⟨v4.heap.size, 2, none⟩ = some (St o2) := by rw [cell_of_heap XN4.out]; rfl
      have jXN43 : wr.cell? ⟨v4.heap.size, 3, none⟩ = some (St o3) := by rw [cell_of_heap XN4.out]; rfl
      have jXN44 : wr.cell? ⟨v4.heap.size, 4, none⟩ = some (St o4) := by rw [cell_of_heap XN4.out]; rfl
      have jXN45 : wr.cell? ⟨v4.heap.size, 5, none⟩ = some (St o5) := by rw [cell_of_heap XN4.out]; rfl
      have ltXN4 : v4.heap.size < wr.heap.size := heap_lt XN4.out
      have jXN50 : wr.cell? ⟨v5.heap.size, 0, none⟩ = some (St p0) := by rw [cell_of_heap XN5.out]; rfl
      have jXN51 : wr.cell? ⟨v5.heap.size, 1, none⟩ = some (St p1) := by rw [cell_of_heap XN5.out]; rfl
      have jXN52 : wr.cell? ⟨v5.heap.size, 2, none⟩ = some (St p2) := by rw [cell_of_heap XN5.out]; rfl
      have jXN53 : wr.cell? ⟨v5.heap.size, 3, none⟩ = some (St p3) := by rw [cell_of_heap XN5.out]; rfl
      have jXN54 : wr.cell? ⟨v5.heap.size, 4, none⟩ = some (St p4) := by rw [cell_of_heap XN5.out]; rfl
      have ltXN5 : v5.heap.size < wr.heap.size := heap_lt XN5.out
      have jXN60 : wr.cell? ⟨v6.heap.size, 0, none⟩ = some (St q0) := by rw [cell_of_heap XN6.out]; rfl
      have jXN61 : wr.cell? ⟨v6.heap.size, 1, none⟩ = some (St q1) := by rw [cell_of_heap XN6.out]; rfl
      have jXN62 : wr.cell? ⟨v6.heap.size, 2, none⟩ = some (St q2) := by rw [cell_of_heap XN6.out]; rfl
      have jXN63 : wr.cell? ⟨v6.heap.size, 3, none⟩ = some (St q3) := by rw [cell_of_heap XN6.out]; rfl
      have jXN64 : wr.cell? ⟨v6.heap.size, 4, none⟩ = some (St q4) := by rw [cell_of_heap XN6.out]; rfl
      have ltXN6 : v6.heap.size < wr.heap.size := heap_lt XN6.out
      have jXN90 : wr.cell? ⟨v9.heap.size, 0, none⟩ = some (St t0) := by rw [cell_of_heap XN9.out]; rfl
      have jXN91 : wr.cell? ⟨v9.heap.size, 1, none⟩ = some (St t1) := by rw [cell_of_heap XN9.out]; rfl
      have jXN92 : wr.cell? ⟨v9.heap.size, 2, none⟩ = some (St t2) := by rw [cell_of_heap XN9.out]; rfl
      have jXN93 : wr.cell? ⟨v9.heap.size, 3, none⟩ = some (St t3) := by rw [cell_of_heap XN9.out]; rfl
      have jXN94 : wr.cell? ⟨v9.heap.size, 4, none⟩ = some (St t4) := by rw [cell_of_heap XN9.out]; rfl
      have ltXN9 : v9.heap.size < wr.heap.size := heap_lt XN9.out
      have y0 : wr.heap[w.heap.size]? = some (.cells #[St [], St [], St [], St [], St [], St []] 28 (0, 0)) := (HRW.out.block _ (heap_lt Y0.out)).trans Y0.out
      have f0 : ∀ o, wr.frozen? ⟨w.heap.size, o, none⟩ = false := fun o => frozen_of_heap y0 o
      have c00 : wr.cell? ⟨w.heap.size, 0, none⟩ = some (St []) := by rw [cell_of_heap y0]; rfl
      have c01 : wr.cell? ⟨w.heap.size, 1, none⟩ = some (St []) := by rw [cell_of_heap y0]; rfl
      have c02 : wr.cell? ⟨w.heap.size, 2, none⟩ = some (St []) := by rw [cell_of_heap y0]; rfl
      have c03 : wr.cell? ⟨w.heap.size, 3, none⟩ = some (St []) := by rw [cell_of_heap y0]; rfl
      have c04 : wr.cell? ⟨w.heap.size, 4, none⟩ = some (St []) := by rw [cell_of_heap y0]; rfl
      have c05 : wr.cell? ⟨w.heap.size, 5, none⟩ = some (St []) := by rw [cell_of_heap y0]; rfl
      have ly0 := heap_lt y0
      have y1 : wr.heap[w.heap.size + 1]? = some (.cells #[St [], St [], St [], St [], St [], St []] 28 (0, 0)) := (HRW.out.block _ (heap_lt Y1.out)).trans Y1.out
      have f1 : ∀ o, wr.frozen? ⟨w.heap.size + 1, o, none⟩ = false := fun o => frozen_of_heap y1 o
      have c10 : wr.cell? ⟨w.heap.size + 1, 0, none⟩ = some (St []) := by rw [cell_of_heap y1]; rfl
      have c11 : wr.cell? ⟨w.heap.size + 1, 1, none⟩ = some (St []) := by rw [cell_of_heap y1]; rfl
      have c12 : wr.cell? ⟨w.heap.size + 1, 2, none⟩ = some (St []) := by rw [cell_of_heap y1]; rfl
      have c13 : wr.cell? ⟨w.heap.size + 1, 3, none⟩ = some (St []) := by rw [cell_of_heap y1]; rfl
      have c14 : wr.cell? ⟨w.heap.size + 1, 4, none⟩ = some (St []) := by rw [cell_of_heap y1]; rfl
      have c15 : wr.cell? ⟨w.heap.size + 1, 5, none⟩ = some (St []) := by rw [cell_of_heap y1]; rfl
      have ly1 := heap_lt y1
      have y2 : wr.heap[w.heap.size + 2]? = some (.cells #[St [], St [], St [], St [], St []] 40 (0, 0)) := (HRW.out.block _ (heap_lt Y2.out)).trans Y2.out
      have f2 : ∀ o, wr.frozen? ⟨w.heap.size + 2, o, none⟩ = false := fun o => frozen_of_heap y2 o
      have c20 : wr.cell? ⟨w.heap.size + 2, 0, none⟩ = some (St []) := by rw [cell_of_heap y2]; rfl
      have c21 : wr.cell? ⟨w.heap.size + 2, 1, none⟩ = some (St []) := by rw [cell_of_heap y2]; rfl
      have c22 : wr.cell? ⟨w.heap.size + 2, 2, none⟩ = some (St []) := by rw [cell_of_heap y2]; rfl
      have c23 : wr.cell? ⟨w.heap.size + 2, 3, none⟩ = some (St []) := by rw [cell_of_heap y2]; rfl
      have c24 : wr.cell? ⟨w.heap.size + 2, 4, none⟩ = some (St []) := by rw [cell_of_heap y2]; rfl
      have ly2 := heap_lt y2
      have HY := hid (And.intro y0 (And.intro y1 y2))
      clear y0 y1 y2
      clear ltXN3 ltXN4 ltXN5 ltXN6 ltXN9
      have HNE : Hid (w.heap.size + 3 ≤ v3.heap.size ∧ w.heap.size + 3 ≤ v4.heap.size ∧ w.heap.size + 3 ≤ v9.heap.size) := hid ⟨NE3.out, NE4.out, NE9.out⟩
      clear hi hil HW6 HT0 HROW jXN30 jXN31 jXN32 jXN33 jXN34 jXN35 jXN40 jXN41 jXN42 jXN43 jXN44 jXN45 jXN50 jXN51 jXN52 jXN53 jXN54 jXN60 jXN61 jXN62 jXN63 jXN64 jXN90 jXN91 jXN92 jXN93 jXN94 NE3 NE4 NE5 NE6 NE9 HRW f0 f1 f2 ly0 ly1 ly2
      have HAT : Hid (prAt s0 s1 s2 s3 s4 s5 o0 o1 o2 o3 o4 o5 t0 t1 t2 t3 t4 v3.heap.size v4.heap.size v9.heap.size w.heap.size (w.heap.size + 1) (w.heap.size + 2) wr) := hid ⟨XN3.out, XN4.out, XN9.out, HY.out.1, HY.out.2.1, HY.out.2.2, by have := HNE.out; omega, by have := HNE.out; omega, by have := HNE.out; omega, by omega⟩
      go_wp2_with fail
      rename_i hK
      have HK := hid hK
      clear hK
      refine prreg (g1 := v3.heap.size) (g2 := v4.heap.size) (g3 := v9.heap.size) (r1 := w.heap.size) (r2 := w.heap.size + 1) (r3 := w.heap.size + 2) (sec := sec) rfl rfl rfl rfl rfl rfl rfl (by show 106 ≤ 106; decide) HAT.out ?_
      intro a ho e9 e10
      have e6 : gt a 6 = .pointer (some ⟨w.heap.size, 0, none⟩) := (ho.slot (by decide)).trans rfl
      have e7 : gt a 7 = .pointer (some ⟨w.heap.size + 1, 0, none⟩) := (ho.slot (by decide)).trans rfl
      have e8 : gt a 8 = .pointer (some ⟨w.heap.size + 2, 0, none⟩) := (ho.slot (by decide)).trans rfl
      refine HK.out a _ ?_
      rw [act106 a (ho.size.trans rfl) (ho.defers.trans rfl), e6, e7, e8, e9, e10]
      clear e6 e7 e8 e9 e10 HK ho
      rw [prW3]
      go_wp2_with fail
      refine bodyPost_ret (v := .tuple #[.agg #[St s0, St s1, St s2, St s3, St s4, St s5], .agg #[St o0, St o1, St o2, St o3, St o4, St o5], .agg #[St t0, St t1, St t2, St t3, St t4], St sec, .bool true]) (by simp [results, Tryd.results26, go_sem, c00, c01, c02, c03, c04, c05, c10, c11, c12, c13, c14, c15, c20, c21, c22, c23, c24]) rfl ⟨rfl, ?_⟩
      exact ((((((((((((((((((HBW.out).setCell (by show w.heap.size ≤ w.heap.size + 0; omega) _).setCell (by show w.heap.size ≤ w.heap.size + 0; omega) _).setCell (by show w.heap.size ≤ w.heap.size + 0; omega) _).setCell (by show w.heap.size ≤ w.heap.size + 0; omega) _).setCell (by show w.heap.size ≤ w.heap.size + 0; omega) _).setCell (by show w.heap.size ≤ w.heap.size + 0; omega) _).setCell (by show w.heap.size ≤ w.heap.size + 1; omega) _).setCell (by show w.heap.size ≤ w.heap.size + 1; omega) _).setCell (by show w.heap.size ≤ w.heap.size + 1; omega) _).setCell (by show w.heap.size ≤ w.heap.size + 1; omega) _).setCell (by show w.heap.size ≤ w.heap.size + 1; omega) _).setCell (by show w.heap.size ≤ w.heap.size + 1; omega) _).setCell (by show w.heap.size ≤ w.heap.size + 2; omega) _).setCell (by show w.heap.size ≤ w.heap.size + 2; omega) _).setCell (by show w.heap.size ≤ w.heap.size + 2; omega) _).setCell (by show w.heap.size ≤ w.heap.size + 2; omega) _).setCell (by show w.heap.size ≤ w.heap.size + 2; omega) _).drew
end Go.Proofs.YtkifchjpgdmcoaaDoor
