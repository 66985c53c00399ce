/- A region that draws its order, reads what lies there and stores it, one store behind the other. -/
import Derived.Test.YtkifchjpgdmcoaaGreatDoorKyEAll
namespace Go.Proofs.YtkifchjpgdmcoaaGreatDoor
open Go.RowKit
section
variable {P : Program} {ops : Array Oper} {Q : Exit → Act → World → Prop} {md : Region.Mode}
theorem first_ready2 (hb : ∀ (i : Nat) (o : Oper), ops[i]? = some o → ∀ e ∈ o.after, Region.binds md e = true → e.on < i) {l : Array Bool} (hl : l.size = ops.size) : ∀ n i : Nat, i ≤ n → l.getD i true = false → Region.ready md ops l ≠ [] := by
 intro n
 induction n with
 | zero =>
   intro i hi hf hr
   have hi0 : i < ops.size := by
     rcases Nat.lt_or_ge i l.size with h' | h'
     · omega
     · simp [Array.getElem?_eq_none h'] at hf
   have : i ∈ Region.ready md ops l := mem_ready.2 ⟨hf, ops[i], by simp [hi0], fun e he hbd => by have := hb i _ (by simp [hi0]) e he hbd; omega⟩
   rw [hr] at this
   cases this
 | succ n ih =>
   intro i hi hf hr
   have hi0 : i < ops.size := by
     rcases Nat.lt_or_ge i l.size with h' | h'
     · omega
     · simp [Array.getElem?_eq_none h'] at hf
   have : i ∈ Region.ready md ops l := mem_ready.2 ⟨hf, ops[i], by simp [hi0], fun e he hbd => by
     have h1 := hb i _ (by simp [hi0]) e he hbd
     cases h2 : l.getD e.on true with
     | true =>
       have h3 : e.on < l.size := by omega
       simpa [h3] using h2
     | false => exact absurd hr (ih e.on (by omega) h2)⟩
   rw [hr] at this
   cases this
theorem any_inv2 (I : Array Bool → Act → World → Prop) (hb : ∀ (i : Nat) (o : Oper), ops[i]? = some o → ∀ e ∈ o.after, Region.binds md e = true → e.on < i)
   (hs : ∀ (l : Array Bool) (a : Act) (w : World) (i : Nat) (o : Oper), I l a w → ops[i]? = some o → l.getD i true = false → (∀ e ∈ o.after, Region.binds md e = true → l.getD e.on false = true) → wpOp P ops Q i (fun a' w' => I (l.setIfInBounds i true) a' w') a w)
   (hd : ∀ (l : Array Bool) (a : Act) (w : World), I l a w → (∀ i : Nat, l.getD i true = true) → Q .normal a w) :
   ∀ (fuel : Nat) (l : Array Bool) (a : Act) (w : World), l.size = ops.size → unl l ≤ fuel → I l a w → wpAny P md ops Q fuel l a w := by
 intro fuel
 induction fuel with
 | zero =>
   intro l a w _ hu hI
   have h0 := unl_none (l := l) (by omega)
   refine ⟨?_, hd l a w hI h0⟩
   cases hr : Region.ready md ops l with
   | nil => rfl
   | cons i r =>
     have : i ∈ Region.ready md ops l := by rw [hr]; exact List.mem_cons_self
     have h1 := (mem_ready.1 this).1
     rw [h0 i] at h1
     cases h1
 | succ fuel ih =>
   intro l a w hl hu hI
   refine ⟨fun hr => hd l a w hI fun i => ?_, fun i hi => ?_⟩
   · cases h2 : l.getD i true with
     | true => rfl
     | false => exact absurd hr (first_ready2 hb hl i i (Nat.le_refl _) h2)
   · obtain ⟨hf, o, ho, ha⟩ := mem_ready.1 hi
     refine wpOp_mono (fun a' w' h' => ih _ a' w' (by simp [hl]) ?_ h') (hs l a w i o hI ho hf ha)
     have := unl_set hf
     omega
theorem region_inv2 {id : Nat} {a : Act} {w : World} (I : Array Bool → Act → World → Prop) (hm : P.follows .mixedOrders = true) (hb : ∀ (i : Nat) (o : Oper), ops[i]? = some o → ∀ e ∈ o.after, Region.binds .any e = true → e.on < i)
   (h0 : I (Array.replicate ops.size false) a w.drew)
   (hs : ∀ (l : Array Bool) (a : Act) (w : World) (i : Nat) (o : Oper), I l a w → ops[i]? = some o → l.getD i true = false → (∀ e ∈ o.after, Region.binds .any e = true → l.getD e.on false = true) → wpOp P ops Q i (fun a' w' => I (l.setIfInBounds i true) a' w') a w)
   (hd : ∀ (l : Array Bool) (a : Act) (w : World), I l a w → (∀ i : Nat, l.getD i true = true) → Q .normal a w) : (Code.region id ops true).wp P Q a w :=
 wp_region_any hm (any_inv2 I hb hs hd _ _ _ _ (by simp) (by simp [unl]) h0)
end
structure Rq (ops : Array Oper) (D : List Nat) (dst : Nat → Nat) (val : Nat → Value) (zs : List Nat) (W : Nat → World) (a0 : Act) (l : Array Bool) (a : Act) (w : World) (k : Nat) : Prop where
 size : l.size = ops.size
 off : Off D a0 a
 le : k ≤ zs.length
 wor : w = W k
 cnt : ∀ j (h : j < zs.length), dn l zs[j] ↔ j < k
 has : ∀ j, j < ops.size → j ∉ zs → dn l j → gt a (dst j) = val j
theorem region_puts {P : Program} {ops : Array Oper} {Q : Exit → Act → World → Prop} {id : Nat} {a0 : Act} {w1 : World} (D : List Nat) (dst : Nat → Nat) (val : Nat → Value) (zs : List Nat) (W : Nat → World)
   (hm : P.follows .mixedOrders = true) (hW0 : W 0 = w1.drew)
   (hb : ∀ (i : Nat) (o : Oper), ops[i]? = some o → ∀ e ∈ o.after, Region.binds .any e = true → e.on < i)
   (hD : ∀ i, i < ops.size → i ∉ zs → dst i ∈ D ∧ dst i < a0.tmps.size)
   (hinj : ∀ i j, i < ops.size → j < ops.size → i ∉ zs → j ∉ zs → i ≠ j → dst i ≠ dst j)
   (hnd : zs.Nodup) (hzs : ∀ z ∈ zs, z < ops.size)
   (hchain : ∀ j (h : j + 1 < zs.length) (o : Oper), ops[zs[j + 1]]? = some o → ∃ e ∈ o.after, Region.binds .any e = true ∧ e.on = zs[j])
   (hp : ∀ (i : Nat) (o : Oper) (a : Act) (k : Nat), ops[i]? = some o → i ∉ zs → k ≤ zs.length → Off D a0 a → (∀ e ∈ o.after, Region.binds .any e = true → e.on ∉ zs → gt a (dst e.on) = val e.on) → wpOp P ops Q i (fun a' w' => a' = a.put (some (dst i)) (val i) ∧ w' = W k) a (W k))
   (hz : ∀ (j : Nat) (h : j < zs.length) (o : Oper) (a : Act), ops[zs[j]]? = some o → Off D a0 a → (∀ e ∈ o.after, Region.binds .any e = true → e.on ∉ zs → gt a (dst e.on) = val e.on) → wpOp P ops Q zs[j] (fun a' w' => a' = a ∧ w' = W (j + 1)) a (W j))
   (hd : ∀ (a : Act), Off D a0 a → (∀ i, i < ops.size → i ∉ zs → gt a (dst i) = val i) → Q .normal a (W zs.length)) : (Code.region id ops true).wp P Q a0 w1 := by
 refine region_inv2 (fun l a w => ∃ k, Rq ops D dst val zs W a0 l a w k) hm hb ?_ ?_ ?_
 · have hno : ∀ j : Nat, ¬ dn (Array.replicate ops.size false) j := fun j hj => by
     rcases Nat.lt_or_ge j ops.size with h | h
     · simp [dn, h] at hj
     · simp [dn, h] at hj
   exact ⟨0, by simp, Off.refl _ _, Nat.zero_le _, hW0.symm, fun j _ => ⟨fun h => absurd h (hno _), fun h => by omega⟩, fun j _ _ hj => absurd hj (hno j)⟩
 · rintro l a w i o ⟨k, hI⟩ ho hf hw
   have hi : i < ops.size := (Array.getElem?_eq_some_iff.1 ho).1
   have hil : i < l.size := by rw [hI.size]; exact hi
   have hu := undone hf
   have hdep : ∀ e ∈ o.after, Region.binds .any e = true → e.on ∉ zs → gt a (dst e.on) = val e.on := fun e he hbd hne => hI.has e.on (Nat.lt_trans (hb i o ho e he hbd) hi) hne (hw e he hbd)
   have hwk := hI.wor
   subst hwk
   by_cases hiz : i ∈ zs
   · obtain ⟨j, hj, hji⟩ := List.getElem_of_mem hiz
     subst hji
     have hk1 : ¬ j < k := fun h => hu ((hI.cnt j hj).2 h)
     have hk2 : k = j := by
       cases j with
       | zero => omega
       | succ j =>
         obtain ⟨e, he, hbd, hon⟩ := hchain j hj o ho
         have := hw e he hbd
         rw [hon] at this
         have := (hI.cnt j (by omega)).1 this
         omega
     subst hk2
     refine wpOp_mono ?_ (hz k hj o a ho hI.off hdep)
     rintro a' w' ⟨rfl, rfl⟩
     refine ⟨k + 1, by simpa using hI.size, hI.off, by omega, rfl, fun q hq => ?_, fun q h1 h2 h3 => hI.has q h1 h2 (dn_set (fun e => h2 (e ▸ hiz)) h3)⟩
     by_cases e : k = q
     · subst e
       exact ⟨fun _ => by omega, fun _ => dn_here hil⟩
     · have hne : zs[k] ≠ zs[q] := fun h => e ((List.getElem_inj hnd).1 h)
       refine ⟨fun h => ?_, fun h => dn_up ((hI.cnt q hq).2 (by omega))⟩
       have := (hI.cnt q hq).1 (dn_set hne h)
       omega
   · refine wpOp_mono ?_ (hp i o a k ho hiz hI.le hI.off hdep)
     rintro a' w' ⟨rfl, rfl⟩
     refine ⟨k, by simpa using hI.size, hI.off.put (hD i hi hiz).1 _, hI.le, rfl, fun q hq => ?_, fun j h1 h2 h3 => ?_⟩
     · have hne : i ≠ zs[q] := fun h => hiz (h ▸ List.getElem_mem hq)
       exact ⟨fun h => (hI.cnt q hq).1 (dn_set hne h), fun h => dn_up ((hI.cnt q hq).2 h)⟩
     · by_cases e : i = j
       · subst e
         exact get_put_same (by rw [hI.off.size]; exact (hD i hi hiz).2)
       · exact (get_put_ne (hinj i j hi h1 hiz h2 e)).trans (hI.has j h1 h2 (dn_set e h3))
 · rintro l a w ⟨k, hI⟩ hl
   have hall : ∀ i, i < ops.size → dn l i := fun i hi => by
     have h := hl i
     have hs : i < l.size := by rw [hI.size]; exact hi
     simpa [dn, hs] using h
   have hk : k = zs.length := by
     have h1 := hI.le
     rcases Nat.lt_or_ge k zs.length with h | h
     · have := (hI.cnt k h).1 (hall _ (hzs _ (List.getElem_mem h)))
       omega
     · omega
   have hw := hI.wor
   rw [hk] at hw
   subst hw
   exact hd a hI.off (fun i h1 h2 => hI.has i h1 h2 (hall i h1))
end Go.Proofs.YtkifchjpgdmcoaaGreatDoor
