/- KeysSecret: whatever two names and commitment. -/
import Derived.Test.YtkifchjpgdmcoaaGreatDoorKsQ
import Derived.Test.YtkifchjpgdmcoaaGreatDoorKsAll
import Derived.Test.YtkifchjpgdmcoaaGreatDoorDedAll
namespace Go.Proofs.YtkifchjpgdmcoaaGreatDoor
open Go.RowKit
theorem and_mask20 (n : Int) : 0 ≤ bits .and .i64 n 1048575 ∧ bits .and .i64 n 1048575 ≤ 1048575 := by
 have h2 : (BitVec.ofInt 64 (1048575 : Int)).toNat = 1048575 := by decide
 change 0 ≤ IntKind.i64.wrap ((BitVec.ofInt 64 n &&& BitVec.ofInt 64 (1048575 : Int)).toNat : Int) ∧ IntKind.i64.wrap ((BitVec.ofInt 64 n &&& BitVec.ofInt 64 (1048575 : Int)).toNat : Int) ≤ 1048575
 rw [BitVec.toNat_and, h2, IntKind.wrap_i64]
 have : (BitVec.ofInt 64 n).toNat &&& 1048575 ≤ 1048575 := Nat.and_le_right
 omega
theorem sum_few {n : Nat} : ∀ (l : List Bs), (∀ x ∈ l, x.length ≤ n) → (l.map List.length).sum ≤ n * l.length
 | [], _ => by simp
 | x :: l, h => by
   have h1 := h x List.mem_cons_self
   have h2 := sum_few l (fun y hy => h y (List.mem_cons_of_mem _ hy))
   simp only [List.map_cons, List.sum_cons, List.length_cons, Nat.mul_succ]
   omega
def Rs (x : Bs) : Prop := Tm.deep x ≠ 0 ∧ x.length ≤ 400
theorem Dt.rs {D B : Nat} {x : Bs} (h : Dt D B x) (hB : B ≤ 400) : Rs x := ⟨h.deep, Nat.le_trans h.len hB⟩
theorem Dt.prs {D B : Nat} {x : Bs} (h : Dt D B x) (hD : D ≤ 40) (hB : B ≤ 399) : Rs (80 :: x) := by
 have h2 := (pub_is h hD (by omega)).2
 have := h.len
 exact ⟨by omega, by simp; omega⟩
theorem joint_rs {a t : Bs} (ha : Dt 4 84 a) (ht : Dt 24 204 t) : Rs (87 :: ((80 :: a) ++ (80 :: t))) := by
 have p1 := (pub_is ha (by decide) (by decide)).2
 have p2 := (pub_is ht (by decide) (by decide)).2
 have q1 := ha.le; have q2 := ha.len; have q3 := ht.le; have q4 := ht.len
 have i2 := Tm.is_joint (Tm.deep_is (by omega : Tm.deep (80 :: a) ≠ 0)).1 (Tm.deep_is (by omega : Tm.deep (80 :: t) ≠ 0)).1 rfl rfl
 have h := Tm.is_deep i2 (by omega) (by simp; omega)
 exact ⟨by rw [h]; omega, by simp; omega⟩
theorem bound_rs {a t : Bs} (ha : Dt 4 84 a) (ht : Dt 24 204 t) : Rs (76 :: ((80 :: a) ++ (80 :: t))) := by
 have p1 := (pub_is ha (by decide) (by decide)).2
 have p2 := (pub_is ht (by decide) (by decide)).2
 have q1 := ha.le; have q2 := ha.len; have q3 := ht.le; have q4 := ht.len
 have i2 := Tm.is_bound (Tm.deep_is (by omega : Tm.deep (80 :: a) ≠ 0)).1 (Tm.deep_is (by omega : Tm.deep (80 :: t) ≠ 0)).1 rfl
 have h := Tm.is_deep i2 (by omega) (by simp; omega)
 exact ⟨by rw [h]; omega, by simp; omega⟩
section
variable {ra rb t : Bs}
def allL (S O : S6) (t : Bs) : List Bs := pubL S O t ++ (secL S ++ (secL O ++ [t]))
theorem all_rs (ha : Sd2 ra 1) (hb : Sd2 rb 2) (ht : Dt 24 204 t) : ∀ x ∈ allL (chanS (bs ra 1)) (chanS (bs rb 2)) t, Rs x := by
 have D := fun (j : Nat) (hj : j < 6) => (ha.csD hj).1
 have E := fun (j : Nat) (hj : j < 6) => (hb.csD hj).1
 intro x hx
 rcases List.mem_append.1 hx with h | h
 · simp only [pubL, setS, chanS, List.mem_cons, List.not_mem_nil, or_false] at h
   rcases h with h | h | h | h | h | h | h | h | h | h | h | h | h | h | h <;> subst h
   · exact (D 0 (by decide)).prs (by decide) (by decide)
   · exact (D 1 (by decide)).prs (by decide) (by decide)
   · exact (D 2 (by decide)).prs (by decide) (by decide)
   · exact (D 3 (by decide)).prs (by decide) (by decide)
   · exact (D 4 (by decide)).prs (by decide) (by decide)
   · exact (E 0 (by decide)).prs (by decide) (by decide)
   · exact (E 1 (by decide)).prs (by decide) (by decide)
   · exact (E 2 (by decide)).prs (by decide) (by decide)
   · exact (E 3 (by decide)).prs (by decide) (by decide)
   · exact (E 4 (by decide)).prs (by decide) (by decide)
   · exact ht.prs (by decide) (by decide)
   · exact joint_rs (E 1 (by decide)) ht
   · exact bound_rs (D 3 (by decide)) ht
   · exact bound_rs (D 4 (by decide)) ht
   · exact bound_rs (E 4 (by decide)) ht
 · rcases List.mem_append.1 h with h | h
   · obtain ⟨j, hj, rfl⟩ := sec_mem h
     exact (D j hj).rs (by decide)
   · rcases List.mem_append.1 h with h | h
     · obtain ⟨j, hj, rfl⟩ := sec_mem h
       exact (E j hj).rs (by decide)
     · rw [List.mem_singleton.1 h]
       exact ht.rs (by decide)
theorem all_uni (ha : Sd2 ra 1) (hb : Sd2 rb 2) (ht : Dt 24 204 t) : ∃ U, Uni U ∧ ∀ x ∈ allL (chanS (bs ra 1)) (chanS (bs rb 2)) t, x ∈ U := by
 have h := all_rs ha hb ht
 have hs := sum_few _ (fun x hx => (h x hx).2)
 have hn : (allL (chanS (bs ra 1)) (chanS (bs rb 2)) t).length = 28 := rfl
 rw [hn] at hs
 have hu := uni_of (fun x hx => (h x hx).1) (by omega)
 exact ⟨_, hu.1, hu.2⟩
theorem name_ne {a b : Int} (ha : 0 ≤ a) (hb : 0 ≤ b) (ha' : a ≤ 9223372036854775807) (hb' : b ≤ 9223372036854775807) (h : a ≠ b) : (110 :: (Lib.decDigits a.toNat ++ [59]) : Bs) ≠ 110 :: (Lib.decDigits b.toNat ++ [59]) := by
 intro e
 have e2 : Lib.decDigits a.toNat ++ 59 :: [] = Lib.decDigits b.toNat ++ 59 :: [] := by simpa using e
 have h1 := num_name a.toNat (by omega) []
 rw [e2, num_name b.toNat (by omega) []] at h1
 have : b.toNat = a.toNat := by simpa using h1
 omega
end
theorem bnd_yes {r t : Bs} {k : Nat} {H : Bs → Prop} (h : Sd2 r k) (ht : Dt 24 204 t) (h1 : H (cs (bs r k) 4)) (h2 : H (80 :: t)) : Can H (bndT (bs r k) t) :=
 can_two (bnd_kids h ht).2.1 (by simp [bndT]) (by simp [bndT]) (bnd_kids h ht).1 h1 h2
theorem rev_yes {r t : Bs} {H : Bs → Prop} (h : Sd2 r 2) (ht : Dt 24 204 t) (h1 : H (cs (bs r 2) 1)) (h2 : H t) : Can H (revT r t) :=
 can_two (rev_kids h ht).2.1 (by simp [revT]) (by simp [revT]) (rev_kids h ht).1 h1 h2
theorem secretLaw_any (a b n : Int) (ha : a ≤ 9223372036854775807) (hb : b ≤ 9223372036854775807) (w : World) (hp : Pw w) (hl : Lb w) (hG : G0 w) : Calls Tryz.prog 3 #[.int .i64 a, .int .i64 b, .int .i64 n] w fun e w' => e = .returned (.bool true) ∧ Below w.heap.size w w' := by
 by_cases hneg : a < 0 ∨ b < 0 ∨ a = b
 · exact secret_neg a b n hneg w
 · have hna : ¬ a < 0 := fun h => hneg (Or.inl h)
   have hnb : ¬ b < 0 := fun h => hneg (Or.inr (Or.inl h))
   have hab : ¬ a = b := fun h => hneg (Or.inr (Or.inr h))
   obtain ⟨ra, e1, d1, i1, g1, f1⟩ := name_res (by omega) ha
   obtain ⟨rb, e2, d2, i2, g2, f2⟩ := name_res (by omega) hb
   have hne : ra ≠ rb := by rw [f1, f2]; exact name_ne (by omega) (by omega) ha hb hab
   have hA : Sd2 ra 1 := ⟨i1, g1, d1, .inl rfl⟩
   have hB : Sd2 rb 2 := ⟨i2, g2, d2, .inr rfl⟩
   have hm := and_mask20 n
   generalize hmm : bits .and .i64 n 1048575 = m at hm
   have hS := chan_is i1 g1 (Or.inl rfl : (1 : Nat) = 1 ∨ 1 = 2)
   have hO := chan_is i2 g2 (Or.inr rfl : (2 : Nat) = 1 ∨ 2 = 2)
   have dS := hA.bsD.1
   have dO := hB.bsD.1
   have D := fun (j : Nat) (hj : j < 6) => (hA.csD hj).1
   have E := fun (j : Nat) (hj : j < 6) => (hB.csD hj).1
   obtain ⟨t, hsec, ht⟩ := sec2_of hA hm.1 hm.2
   have dt := ht.dt
   have hpt := pnt_is hsec dt
   have hset := set_is dS dO dt
   obtain ⟨U, hU, hin⟩ := all_uni hA hB dt
   have l4 := (D 3 (by decide)).len
   have l5 := (E 2 (by decide)).len
   have lr := (rev_kids hB dt).2.2
   have lm := (bnd_kids hA dt).2.2
   have lt := (bnd_kids hB dt).2.2
   have mem1 : ∀ (z : Bs), z ∈ (secL (chanS (bs ra 1))).reverse ++ (pubL (chanS (bs ra 1)) (chanS (bs rb 2)) t).reverse → z ∈ pubL (chanS (bs ra 1)) (chanS (bs rb 2)) t ∨ z ∈ secL (chanS (bs ra 1)) := fun z hz => by
     rcases List.mem_append.1 hz with h | h
     · exact .inr (List.mem_reverse.1 h)
     · exact .inl (List.mem_reverse.1 h)
   have mem2 : ∀ (z : Bs), z ∈ (secL (chanS (bs rb 2))).reverse ++ (pubL (chanS (bs ra 1)) (chanS (bs rb 2)) t).reverse → z ∈ pubL (chanS (bs ra 1)) (chanS (bs rb 2)) t ∨ z ∈ secL (chanS (bs rb 2)) := fun z hz => by
     rcases List.mem_append.1 hz with h | h
     · exact .inr (List.mem_reverse.1 h)
     · exact .inl (List.mem_reverse.1 h)
   have mem3 : ∀ (z : Bs), z ∈ t :: ((secL (chanS (bs rb 2))).reverse ++ (pubL (chanS (bs ra 1)) (chanS (bs rb 2)) t).reverse) → z = t ∨ z ∈ pubL (chanS (bs ra 1)) (chanS (bs rb 2)) t ∨ z ∈ secL (chanS (bs rb 2)) := fun z hz => by
     rcases List.mem_cons.1 hz with h | h
     · exact .inl h
     · exact .inr (mem2 z h)
   have mem0 : ∀ (z : Bs), z ∈ (pubL (chanS (bs ra 1)) (chanS (bs rb 2)) t).reverse → z ∈ pubL (chanS (bs ra 1)) (chanS (bs rb 2)) t := fun z hz => List.mem_reverse.1 hz
   have hpm : ∀ {l : List Bs} {z : Bs}, z ∈ pubL (chanS (bs ra 1)) (chanS (bs rb 2)) t → z ∈ l ++ (pubL (chanS (bs ra 1)) (chanS (bs rb 2)) t).reverse := fun hz => List.mem_append_right _ (List.mem_reverse.2 hz)
   have hpt80 : (80 :: t) ∈ pubL (chanS (bs ra 1)) (chanS (bs rb 2)) t := by simp [pubL]
   have ex1 : Ex (Ch rb) (revT rb t) := rev_ex hB dt (.inl (hB.ch (by decide)))
   have ex2 : Ex (Ch ra) (bndT (bs ra 1) t) := bnd_ex hA dt (hA.ch (by decide))
   have ex3 : Ex (Ch rb) (bndT (bs rb 2) t) := bnd_ex hB dt (hB.ch (by decide))
   exact secret_core (rev := revT rb t) (mine := bndT (bs ra 1) t) (theirs := bndT (bs rb 2) t) hna hnb hab hmm hm.1 hm.2 w
     (fun W hbl => sides_any ha hb (by omega) (by omega) e1 e2 hS hO (pubs_is dS) (pubs_is dO) hsec hpt hset W (hp.below hbl) (hl.below hbl))
     hpt (pubs_is dS) (pubs_is dO) (join_is (E 1 (by decide)) dt).1 (bind_is (D 4 (by decide)) dt).1 (bind_is (E 4 (by decide)) dt).1 hp hl hG hU
     (fun x hx => hin x (by
       simp only [allL, pubL, secL, setS, chanS, List.mem_append, List.mem_cons, List.not_mem_nil, or_false] at hx ⊢
       simpa only [or_assoc, chanS] using hx)) (by omega) (by omega) (by omega) (by show (cs (bs rb 2) 2).length ≤ 100000; omega) (by show (cs (bs ra 1) 3).length ≤ 100000; omega)
     (no_pub hB.hd mem0 ex1) (no_pub hA.hd mem0 ex2) (no_pub hB.hd mem0 ex3)
     (no_side hA hB.hd hne mem1 ex1) (no_side hA hB.hd hne mem1 ex3)
     (bnd_yes hA dt (List.mem_append_left _ (List.mem_reverse.2 (by simp))) (hpm hpt80))
     (no_side hB hA.hd hne.symm mem2 (rev_ex hB dt (.inr ht.ch))) (no_side hB hA.hd hne.symm mem2 ex2)
     (bnd_yes hB dt (List.mem_append_left _ (List.mem_reverse.2 (by simp))) (hpm hpt80))
     (no_side hA hB.hd hne mem1 (.here (hB.ch (by decide)))) (no_side hB hA.hd hne.symm mem2 (.here (hA.ch (by decide))))
     (rev_yes hB dt (List.mem_cons_of_mem _ (List.mem_append_left _ (List.mem_reverse.2 (by simp)))) List.mem_cons_self)
     (no_mine hA hB hne ht mem3)
end Go.Proofs.YtkifchjpgdmcoaaGreatDoor
