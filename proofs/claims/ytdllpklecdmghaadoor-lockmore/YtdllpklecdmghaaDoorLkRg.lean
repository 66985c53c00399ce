/- A region that draws its order: what holds of what has come up, whichever has. -/
import Derived.Test.YtdllpklecdmghaaDoorLkVAll
namespace Go.Proofs.YtdllpklecdmghaaDoor
open Go.RowKit

section
variable {P : Program} {ops : Array Oper} {Q : Exit → Act → World → Prop} {md : Region.Mode}

def unl (l : Array Bool) : Nat := l.toList.count false
theorem unl_set {l : Array Bool} {i : Nat} (h : l.getD i true = false) : unl l = unl (l.setIfInBounds i true) + 1 := by
  have hi : i < l.size := by
    rcases Nat.lt_or_ge i l.size with h' | h'
    · exact h'
    · simp [Array.getElem?_eq_none h'] at h
  have hv : l[i] = false := by simpa [hi] using h
  unfold unl
  rw [Array.toList_setIfInBounds, List.count_set (by simpa using hi)]
  have hv' : l.toList[i]'(by simpa using hi) = false := by simpa using hv
  have hc : 0 < l.toList.count false := List.count_pos_iff.2 (hv' ▸ List.getElem_mem _)
  rw [hv']
  show _ = _ - (if (false == false) = true then 1 else 0) + (if (true == false) = true then 1 else 0) + 1
  rw [if_pos (show (false == false) = true by decide), if_neg (show ¬(true == false) = true by decide)]
  omega
theorem unl_none {l : Array Bool} (h : unl l = 0) (i : Nat) : l.getD i true = true := by
  rcases Nat.lt_or_ge i l.size with h' | h'
  · have : false ∉ l.toList := List.count_eq_zero.1 h
    have h2 : l[i] ∈ l.toList := by simp
    cases hv : l[i] with
    | true => simp [h', hv]
    | false => rw [hv] at h2; exact absurd h2 this
  · simp [Array.getElem?_eq_none h']
/-- the first that has not come up may come up -/
theorem first_ready (hb : ∀ (i : Nat) (o : Oper), ops[i]? = some o → ∀ e ∈ o.after, e.on < i) {l : Array Bool} (hl : l.size = ops.size) : ∀ n i : Nat, i ≤ n → l.getD i true = false → Region.ready md ops l ≠ [] := by
  intro n
  induction n with
  | zero =>
    intro i hi hf hr
    have hi0 : i < ops.size := by
      rcases Nat.lt_or_ge i l.size with h' | h'
      · omega
      · simp [Array.getElem?_eq_none h'] at hf
    have : i ∈ Region.ready md ops l := mem_ready.2 ⟨hf, ops[i], by simp [hi0], fun e he _ => by have := hb i _ (by simp [hi0]) e he; omega⟩
    rw [hr] at this
    cases this
  | succ n ih =>
    intro i hi hf hr
    have hi0 : i < ops.size := by
      rcases Nat.lt_or_ge i l.size with h' | h'
      · omega
      · simp [Array.getElem?_eq_none h'] at hf
    have : i ∈ Region.ready md ops l := mem_ready.2 ⟨hf, ops[i], by simp [hi0], fun e he _ => by
      have h1 := hb i _ (by simp [hi0]) e he
      cases h2 : l.getD e.on true with
      | true =>
        have h3 : e.on < l.size := by omega
        simpa [h3] using h2
      | false => exact absurd hr (ih e.on (by omega) h2)⟩
    rw [hr] at this
    cases this
theorem any_inv (I : Array Bool → Act → World → Prop) (hb : ∀ (i : Nat) (o : Oper), ops[i]? = some o → ∀ e ∈ o.after, e.on < i)
    (hs : ∀ (l : Array Bool) (a : Act) (w : World) (i : Nat) (o : Oper), I l a w → ops[i]? = some o → l.getD i true = false → (∀ e ∈ o.after, Region.binds md e = true → l.getD e.on false = true) → wpOp P ops Q i (fun a' w' => I (l.setIfInBounds i true) a' w') a w)
    (hd : ∀ (l : Array Bool) (a : Act) (w : World), I l a w → (∀ i : Nat, l.getD i true = true) → Q .normal a w) :
    ∀ (fuel : Nat) (l : Array Bool) (a : Act) (w : World), l.size = ops.size → unl l ≤ fuel → I l a w → wpAny P md ops Q fuel l a w := by
  intro fuel
  induction fuel with
  | zero =>
    intro l a w _ hu hI
    have h0 := unl_none (l := l) (by omega)
    refine ⟨?_, hd l a w hI h0⟩
    cases hr : Region.ready md ops l with
    | nil => rfl
    | cons i r =>
      have : i ∈ Region.ready md ops l := by rw [hr]; exact List.mem_cons_self
      have h1 := (mem_ready.1 this).1
      rw [h0 i] at h1
      cases h1
  | succ fuel ih =>
    intro l a w hl hu hI
    refine ⟨fun hr => hd l a w hI fun i => ?_, fun i hi => ?_⟩
    · cases h2 : l.getD i true with
      | true => rfl
      | false => exact absurd hr (first_ready hb hl i i (Nat.le_refl _) h2)
    · obtain ⟨hf, o, ho, ha⟩ := mem_ready.1 hi
      refine wpOp_mono (fun a' w' h' => ih _ a' w' (by simp [hl]) ?_ h') (hs l a w i o hI ho hf ha)
      have := unl_set hf
      omega
/-- such a region, whichever order is drawn -/
theorem region_inv {id : Nat} {a : Act} {w : World} (I : Array Bool → Act → World → Prop) (hm : P.follows .mixedOrders = true) (hb : ∀ (i : Nat) (o : Oper), ops[i]? = some o → ∀ e ∈ o.after, e.on < i)
    (h0 : I (Array.replicate ops.size false) a w.drew)
    (hs : ∀ (l : Array Bool) (a : Act) (w : World) (i : Nat) (o : Oper), I l a w → ops[i]? = some o → l.getD i true = false → (∀ e ∈ o.after, Region.binds .any e = true → l.getD e.on false = true) → wpOp P ops Q i (fun a' w' => I (l.setIfInBounds i true) a' w') a w)
    (hd : ∀ (l : Array Bool) (a : Act) (w : World), I l a w → (∀ i : Nat, l.getD i true = true) → Q .normal a w) : (Code.region id ops true).wp P Q a w :=
  wp_region_any hm (any_inv I hb hs hd _ _ _ _ (by simp) (by simp [unl]) h0)
end
/-- frames that are alike but in some slots -/
structure Off (D : List Nat) (a0 a : Act) : Prop where
  defers : a.defers = a0.defers
  size : a.tmps.size = a0.tmps.size
  same : ∀ d : Nat, d ∉ D → a.tmps[d]? = a0.tmps[d]?
theorem Off.refl (D : List Nat) (a : Act) : Off D a a := ⟨rfl, rfl, fun _ _ => rfl⟩
theorem Off.put {D : List Nat} {a0 a : Act} (h : Off D a0 a) {d : Nat} (hd : d ∈ D) (v : Value) : Off D a0 (a.put (some d) v) :=
  ⟨h.defers, by simpa [Act.put] using h.size, fun k hk => by
    have : d ≠ k := fun e => hk (e ▸ hd)
    show (a.tmps.setIfInBounds d v)[k]? = _
    rw [Array.getElem?_setIfInBounds_ne this]
    exact h.same k hk⟩
def puts (a : Act) (l : List (Nat × Value)) : Act := l.foldl (fun b p => b.put (some p.1) p.2) a
theorem Off.eq {D : List Nat} : ∀ {a0 a : Act}, Off D a0 a → a = puts a0 (D.map fun d => (d, a.tmps.getD d undef)) := by
  induction D with
  | nil =>
    intro a0 a h
    cases a with
    | mk t1 d1 => cases a0 with
      | mk t0 d0 =>
        have e1 : d1 = d0 := h.defers
        have e2 : t1 = t0 := Array.ext_getElem? fun i => h.same i (by simp)
        subst e1 e2
        rfl
  | cons d D ih =>
    intro a0 a h
    refine ih (a0 := a0.put (some d) (a.tmps.getD d undef)) ⟨h.defers, by simpa [Act.put] using h.size, fun k hk => ?_⟩
    show _ = (a0.tmps.setIfInBounds d _)[k]?
    by_cases e : d = k
    · subst e
      have hs := h.size
      rcases Nat.lt_or_ge d a0.tmps.size with h' | h'
      · have h2 : d < a.tmps.size := by omega
        simp [h', h2]
      · have h2 : a.tmps.size ≤ d := by omega
        rw [Array.getElem?_eq_none h2, Array.getElem?_eq_none (by simpa using h')]
    · rw [Array.getElem?_setIfInBounds_ne e]
      exact h.same k (by simp [hk, Ne.symm e])
theorem get_put_same {a : Act} {d : Nat} {v : Value} (h : d < a.tmps.size) : (a.put (some d) v).tmps.getD d undef = v := by simp [Act.put, h]
theorem get_put_ne {a : Act} {d k : Nat} {v : Value} (h : d ≠ k) : (a.put (some d) v).tmps.getD k undef = a.tmps.getD k undef := by
  show (a.tmps.setIfInBounds d v).getD k undef = _
  simp [Array.getElem?_setIfInBounds_ne h]
theorem getD_set_other {l : Array Bool} {i j : Nat} (h : i ≠ j) (b : Bool) : (l.setIfInBounds i true).getD j b = l.getD j b := by
  simp [Array.getElem?_setIfInBounds_ne h]
end Go.Proofs.YtdllpklecdmghaaDoor
