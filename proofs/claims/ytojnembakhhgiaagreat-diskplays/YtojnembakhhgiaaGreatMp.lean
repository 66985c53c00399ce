/- A map of texts to blocks, in memory. -/
import Derived.Test.YtojnembakhhgiaaGreatProg
import Derived.WalkKit
import Derived.WalkSpells
import Derived.WalkLawsBesides
import Derived.Maps.Own
import Derived.Maps.OwnOps
import Derived.Maps.OwnSet
import Derived.Maps.Range
import Derived.Maps.RangeWalk
namespace Go.Proofs.YtojnembakhhgiaaGreat
open Go.RowKit Go.Maps Go.WideElems

/-- a pointer, as a value and as what it reads as -/
def pv : Option Nat → Value
  | none => .pointer none
  | some p => .pointer (some ⟨p, 0, none⟩)
def pd : Option Nat → DataW Unit
  | none => .lit (.int .i64 (-1))
  | some p => .lit (.int .i64 (p : Int))
theorem pd_inj : ∀ {a b : Option Nat}, pd a = pd b → a = b
  | none, none, _ => rfl
  | none, some p, h => by
    unfold pd at h
    injection h with h
    injection h with _ h
    omega
  | some p, none, h => by
    unfold pd at h
    injection h with h
    injection h with _ h
    omega
  | some p, some q, h => by
    unfold pd at h
    injection h with h
    injection h with _ h
    rw [show p = q by omega]
def ptrR (v : Value) : Option (DataW Unit × List MemPlace) :=
  match v with
  | .pointer none => some (pd none, [])
  | .pointer (some ⟨p, 0, none⟩) => some (pd (some p), [])
  | _ => none
theorem ptrR_mk (o : Option Nat) : ptrR (pv o) = some (pd o, []) := by cases o <;> rfl
theorem ptrR_inv {v : Value} {z : DataW Unit × List MemPlace} (h : ptrR v = some z) : ∃ o, v = pv o ∧ z = (pd o, []) := by
  unfold ptrR at h
  split at h
  · cases h; exact ⟨none, rfl, rfl⟩
  · cases h; exact ⟨some _, rfl, rfl⟩
  · cases h

abbrev NM := List UInt8 → Option Nat
def nput (N : NM) (t : List UInt8) (p : Nat) : NM := fun s => if s = t then some p else N s
def ndel (N : NM) (t : List UInt8) : NM := fun s => if s = t then none else N s

theorem law9 : Keyed Tryz.prog 9 := string_keyed Tryz.underlying9
theorem Tryz.zero61 : (Tryz.prog.info? 61).map (·.zero) = some (some (.pointer none)) := by kernel_rfl
theorem zero62_run (w : World) : (zeroValue 61).run Tryz.prog w = .ok (pv none) w := by
  obtain ⟨i, hi, hz⟩ := Option.map_eq_some_iff.1 Tryz.zero61
  simp [zeroValue, typeInfo, hi, hz, go_sem, pv]
theorem key_of (t : List UInt8) (h : t.length ≤ 140737488355328) : keyOf Tryz.prog 9 (.string ⟨t.toArray⟩) = some (.string t) :=
  WideMaps.keyOf_string_mk Tryz.underlying9 (s := ⟨t.toArray⟩) (by show t.length ≤ maxLen; unfold maxLen; omega)
theorem key_inv {v : Value} {kl : Lit} (h : keyOf Tryz.prog 9 v = some kl) : ∃ t : List UInt8, v = .string ⟨t.toArray⟩ ∧ kl = .string t := by
  rw [keyOf_string Tryz.underlying9] at h
  unfold mapKey at h
  rw [Tryz.underlying9] at h
  cases v <;> simp at h
  rename_i s
  exact ⟨s.data.toList, rfl, h.2.symm⟩
/-- the map N lies in block b -/
structure Om (w : World) (b : Nat) (N : NM) : Prop where
  own : ∃ n D, w.ownsMap Tryz.prog 9 ptrR b n D ∧ (∀ t, Maps.has D (.string t) = (N t).isSome) ∧ ∀ t, D.atKey (.string t) (pd none) = pd (N t)
theorem Om.lt {w : World} {b : Nat} {N : NM} (h : Om w b N) : b < w.heap.size := by
  obtain ⟨n, D, h1, _⟩ := h.own
  exact h1.lt
theorem Om.kept {w w' : World} {b : Nat} {N : NM} {row : Option Nat} (h : Om w b N) (hg : w.grownBy w' row) (hne : some b ≠ row) : Om w' b N := by
  obtain ⟨n, D, h1, h2, h3⟩ := h.own
  exact ⟨n, D, h1.kept hg hne, h2, h3⟩
theorem Om.same {w w' : World} {b : Nat} {N : NM} (h : Om w b N) (hb : w'.heap[b]? = w.heap[b]?) : Om w' b N := by
  obtain ⟨n, D, ⟨es, clock, g1, g2⟩, h2, h3⟩ := h.own
  exact ⟨n, D, ⟨es, clock, hb.trans g1, g2⟩, h2, h3⟩
theorem Om.made (w : World) : Om (w.alloc (.map #[] 0)) w.heap.size (fun _ => none) :=
  ⟨0, .map [], World.ownsMap_made w Tryz.prog 9 ptrR, fun _ => rfl, fun _ => rfl⟩
/-- m[t] -/
theorem Om.look {w : World} {b : Nat} {N : NM} (h : Om w b N) (t : List UInt8) (ht : t.length ≤ 140737488355328) : (Instr.lookup 52 (.map (some b)) (.string ⟨t.toArray⟩) false).run Tryz.prog w = .ok (pv (N t)) w := by
  obtain ⟨n, D, h1, h2, h3⟩ := h.own
  obtain ⟨v, ps, hrun, hv⟩ := h1.lookup law9 Tryz.underlying52 (zero62_run w) (ptrR_mk none) (key_of t ht)
  obtain ⟨m, rfl, hm⟩ := ptrR_inv hv
  rw [h3 t] at hm
  rw [hrun, pd_inj (congrArg Prod.fst hm)]
theorem look_nil (w : World) (t : List UInt8) (ht : t.length ≤ 140737488355328) : (Instr.lookup 52 (.map none) (.string ⟨t.toArray⟩) false).run Tryz.prog w = .ok (pv none) w := by
  have := Maps.look_nil (w := w) (P := Tryz.prog) false law9 Tryz.underlying52 (zero62_run w) (key_of t ht)
  simpa using this
theorem length_sub {α : Type} [DecidableEq α] : ∀ {l U : List α}, l.Nodup → (∀ x ∈ l, x ∈ U) → l.length ≤ U.length
  | [], _, _, _ => Nat.zero_le _
  | a :: l, U, hn, hs => by
    obtain ⟨h1, h2⟩ := List.nodup_cons.1 hn
    have ha : a ∈ U := hs a (by simp)
    have := length_sub (l := l) (U := U.erase a) h2 (fun x hx => (List.mem_erase_of_ne (fun e => by subst e; exact h1 hx)).2 (hs x (by simp [hx])))
    rw [List.length_erase_of_mem ha] at this
    have : 0 < U.length := List.length_pos_of_mem ha
    simp only [List.length_cons]
    omega
def ltx : Lit → List UInt8
  | .string t => t
  | _ => []
/-- the names that stand in it -/
theorem Om.keys {w : World} {b n : Nat} {D : DataW Unit} {N : NM} (h1 : w.ownsMap Tryz.prog 9 ptrR b n D) (h2 : ∀ t, Maps.has D (.string t) = (N t).isSome) : ∃ K : List (List UInt8), K.Nodup ∧ (∀ t, t ∈ K ↔ (N t).isSome = true) ∧ Maps.size D = K.length ∧ w.ownsMap Tryz.prog 9 ptrR b K.length D := by
  have h1' := h1
  obtain ⟨es, clock, hb, F, hs, rfl⟩ := h1
  have hk : ∀ x ∈ es.toList, ∃ t, (rg Tryz.prog 9 ptrR x).1 = .string t := fun x hx => by
    obtain ⟨y, hy⟩ := F.reads x hx
    obtain ⟨t, _, e⟩ := key_inv (rd_key hy)
    exact ⟨t, by rw [rg_of hy]; exact e⟩
  have hd := Maps.fit_apart law9 F
  refine ⟨(es.toList.map (rg Tryz.prog 9 ptrR)).map fun p => ltx p.1, ?_, fun t => ?_, ?_, ?_⟩
  · rw [List.Nodup, List.pairwise_map]
    refine hd.imp_of_mem ?_
    intro p q hp hq hne e
    obtain ⟨x, hx, rfl⟩ := List.mem_map.1 hp
    obtain ⟨y, hy, rfl⟩ := List.mem_map.1 hq
    obtain ⟨t, ht⟩ := hk x hx
    obtain ⟨u, hu⟩ := hk y hy
    rw [ht, hu] at e hne
    exact hne (congrArg Lit.string e)
  · rw [← h2]
    constructor
    · intro ht
      obtain ⟨p, hp, rfl⟩ := List.mem_map.1 ht
      obtain ⟨x, hx, rfl⟩ := List.mem_map.1 hp
      obtain ⟨t, e⟩ := hk x hx
      rw [e]
      show Maps.has _ (.string t) = true
      rw [Maps.has_eq]
      refine List.any_eq_true.2 ⟨rg Tryz.prog 9 ptrR x, mem_sorted.2 (List.mem_map.2 ⟨x, hx, rfl⟩), ?_⟩
      obtain ⟨y, hy⟩ := F.reads x hx
      rw [← e]
      exact WideAt.sameKey_self (by rw [rg_of hy]; exact law9.key (rd_key hy))
    · intro ht
      rw [Maps.has_eq] at ht
      obtain ⟨p, hp, hpk⟩ := List.any_eq_true.1 ht
      obtain ⟨x, hx, rfl⟩ := List.mem_map.1 (mem_sorted.1 hp)
      obtain ⟨u, e⟩ := hk x hx
      refine List.mem_map.2 ⟨_, List.mem_map.2 ⟨x, hx, rfl⟩, ?_⟩
      by_cases hu : u = t
      · rw [e, hu]; rfl
      · rw [e, Maps.sameKey_ne (fun h => hu (by cases h; rfl))] at hpk
        cases hpk
  · show ((es.toList.map (rg Tryz.prog 9 ptrR)).foldr DataW.insert []).length = _
    rw [length_sorted]
    simp
  · refine ⟨es, clock, hb, F, ?_, rfl⟩
    simp
/-- m[t] = p -/
theorem Om.store {w : World} {b : Nat} {N : NM} (h : Om w b N) (U : List (List UInt8)) (hU : ∀ t, (N t).isSome = true → t ∈ U) (hl : U.length < 1000000000000) (t : List UInt8) (ht : t.length ≤ 140737488355328) (p : Nat) :
    ∃ w', (Instr.mapUpdate 52 (.map (some b)) (.string ⟨t.toArray⟩) (pv (some p))).run Tryz.prog w = .ok () w' ∧ Om w' b (nput N t p) ∧ w.grownBy w' (some b) := by
  obtain ⟨n, D, h1, h2, h3⟩ := h.own
  obtain ⟨K, k1, k2, k3, k4⟩ := Om.keys h1 h2
  have hKU := length_sub k1 (fun x hx => hU x ((k2 x).1 hx))
  obtain ⟨w', r1, r2, r3⟩ := k4.update law9 Tryz.underlying52 (by unfold maxLen; omega) (key_of t ht) (ptrR_mk (some p))
  have hT := h1.isMap
  refine ⟨w', r1, ⟨_, _, r2, fun s => ?_, fun s => ?_⟩, r3⟩
  · unfold nput
    by_cases e : s = t
    · subst e; rw [Maps.has_put_same hT (law9.key (key_of s ht))]; simp
    · rw [if_neg e, Maps.has_put_other (fun h => e (by cases h; rfl))]; exact h2 s
  · unfold nput
    by_cases e : s = t
    · subst e; rw [Maps.atKey_put_same hT (law9.key (key_of s ht))]; simp
    · simp only [if_neg e]; rw [Maps.atKey_put_other (fun h => e (by cases h; rfl))]; exact h3 s
/-- delete(m, t) -/
theorem Om.drop {w : World} {b : Nat} {N : NM} (h : Om w b N) (t : List UInt8) (ht : t.length ≤ 140737488355328) (ty : TypeId) :
    ∃ w', (Builtin.delete_ #[52, 9] ty #[.map (some b), .string ⟨t.toArray⟩]).run Tryz.prog w = .ok (.tuple #[]) w' ∧ Om w' b (ndel N t) ∧ w.grownBy w' (some b) := by
  obtain ⟨n, D, h1, h2, h3⟩ := h.own
  obtain ⟨w', r1, r2, r3⟩ := h1.drop law9 Tryz.underlying52 (key_of t ht) ty
  have hT := h1.isMap
  have hTd := h1.tidy law9
  refine ⟨w', r1, ⟨_, _, r2, fun s => ?_, fun s => ?_⟩, r3.grown⟩
  · unfold ndel
    by_cases e : s = t
    · subst e; rw [Maps.has_del_same]; simp
    · rw [if_neg e, Maps.has_del_other (fun h => e (by cases h; rfl))]; exact h2 s
  · unfold ndel
    by_cases e : s = t
    · subst e; rw [Maps.atKey_del_same]; simp
    · simp only [if_neg e]; rw [Maps.atKey_del_other (fun h => e (by cases h; rfl))]; exact h3 s
/-- len(m) -/
theorem Om.len {w : World} {b : Nat} {N : NM} (h : Om w b N) (L : List (List UInt8)) (hd : L.Nodup) (hL : ∀ t, t ∈ L ↔ (N t).isSome = true) (ty : TypeId) : (Builtin.len_ #[52] ty #[.map (some b)]).run Tryz.prog w = .ok (.int .i64 (L.length : Int)) w := by
  obtain ⟨n, D, h1, h2, h3⟩ := h.own
  obtain ⟨K, k1, k2, k3, k4⟩ := Om.keys h1 h2
  have e : K.length = L.length := Nat.le_antisymm (length_sub k1 (fun x hx => (hL x).2 ((k2 x).1 hx))) (length_sub hd (fun x hx => (k2 x).2 ((hL x).1 hx)))
  rw [h1.len Tryz.underlying52 ty, k3, e]
end Go.Proofs.YtojnembakhhgiaaGreat
