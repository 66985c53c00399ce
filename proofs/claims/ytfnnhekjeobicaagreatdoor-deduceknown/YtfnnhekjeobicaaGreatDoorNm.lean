/- A mind's notes in memory: a map of texts to notes. -/
import Derived.Test.YtfnnhekjeobicaaGreatDoorProg
import Derived.WalkKit
import Derived.WalkSpells
import Derived.WalkLawsBesides
import Derived.Maps.Own
import Derived.Maps.OwnOps
import Derived.Maps.OwnSet
import Derived.Maps.Range
import Derived.Maps.RangeWalk
namespace Go.Proofs.YtfnnhekjeobicaaGreatDoor
open Go.RowKit Go.Maps Go.WideElems

/-- a note -/
structure Note where
  heard : Bool
  held : Bool
  key : List UInt8
deriving DecidableEq
/-- as a value, and as what it reads as -/
abbrev Note.v (n : Note) : Value := .agg #[.bool n.heard, .bool n.held, .string ⟨n.key.toArray⟩]
def Note.d (n : Note) : DataW Unit := .agg [.lit (.bool n.heard), .lit (.bool n.held), .lit (.string n.key)]
def nz : Note := ⟨false, false, []⟩
theorem Note.d_inj {a b : Note} (h : a.d = b.d) : a = b := by
  cases a; cases b
  simp [Note.d] at h
  obtain ⟨rfl, rfl, rfl⟩ := h
  rfl
/-- how a note reads -/
def noteL (l : List Value) : Option (DataW Unit × List MemPlace) :=
  match l with
  | [.bool a, .bool b, .string s] => some (Note.d ⟨a, b, s.data.toList⟩, [])
  | _ => none
def noteR (v : Value) : Option (DataW Unit × List MemPlace) :=
  match v with
  | .agg cs => noteL cs.toList
  | _ => none
theorem noteR_mk (n : Note) : noteR n.v = some (n.d, []) := rfl
theorem noteL_inv {l : List Value} {z : DataW Unit × List MemPlace} (h : noteL l = some z) : ∃ n : Note, l = [.bool n.heard, .bool n.held, .string ⟨n.key.toArray⟩] ∧ z = (n.d, []) := by
  unfold noteL at h
  split at h
  · rename_i a b s
    cases h
    exact ⟨⟨a, b, s.data.toList⟩, rfl, rfl⟩
  · cases h
theorem noteR_inv {v : Value} {z : DataW Unit × List MemPlace} (h : noteR v = some z) : ∃ n : Note, v = n.v ∧ z = (n.d, []) := by
  unfold noteR at h
  split at h
  · rename_i cs
    obtain ⟨n, h1, h2⟩ := noteL_inv h
    exact ⟨n, by rw [show cs = #[.bool n.heard, .bool n.held, .string ⟨n.key.toArray⟩] from Array.toList_inj.1 h1], h2⟩
  · cases h

abbrev NM := List UInt8 → Option Note
/-- the note of a text, or the empty one -/
def nget (N : NM) (t : List UInt8) : Note := (N t).getD nz
def nput (N : NM) (t : List UInt8) (n : Note) : NM := fun s => if s = t then some n else N s

theorem law22 : Keyed Tryz.prog 29 := string_keyed Tryz.underlying29
theorem Tryz.zero32 : (Tryz.prog.info? 51).map (·.zero) = some (some nz.v) := by kernel_rfl
theorem zero32_run (w : World) : (zeroValue 51).run Tryz.prog w = .ok nz.v w := by
  obtain ⟨i, hi, hz⟩ := Option.map_eq_some_iff.1 Tryz.zero32
  simp [zeroValue, typeInfo, hi, hz, go_sem]
theorem key_of (t : List UInt8) (h : t.length ≤ 100000) : keyOf Tryz.prog 29 (.string ⟨t.toArray⟩) = some (.string t) :=
  WideMaps.keyOf_string_mk Tryz.underlying29 (s := ⟨t.toArray⟩) (by show t.length ≤ maxLen; unfold maxLen; omega)
theorem key_inv {v : Value} {kl : Lit} (h : keyOf Tryz.prog 29 v = some kl) : ∃ t : List UInt8, v = .string ⟨t.toArray⟩ ∧ kl = .string t := by
  rw [keyOf_string Tryz.underlying29] at h
  unfold mapKey at h
  rw [Tryz.underlying29] at h
  cases v <;> simp at h
  rename_i s
  exact ⟨s.data.toList, rfl, h.2.symm⟩

/-- the notes N lie in block b -/
structure Om (w : World) (b : Nat) (N : NM) : Prop where
  own : ∃ n D, w.ownsMap Tryz.prog 29 noteR b n D ∧ (∀ t, Maps.has D (.string t) = (N t).isSome) ∧ ∀ t, D.atKey (.string t) nz.d = (nget N t).d

theorem Om.lt {w : World} {b : Nat} {N : NM} (h : Om w b N) : b < w.heap.size := by
  obtain ⟨n, D, h1, _⟩ := h.own
  exact h1.lt
theorem Om.kept {w w' : World} {b : Nat} {N : NM} {row : Option Nat} (h : Om w b N) (hg : w.grownBy w' row) (hne : some b ≠ row) : Om w' b N := by
  obtain ⟨n, D, h1, h2, h3⟩ := h.own
  exact ⟨n, D, h1.kept hg hne, h2, h3⟩
theorem Om.same {w w' : World} {b : Nat} {N : NM} (h : Om w b N) (hb : w'.heap[b]? = w.heap[b]?) : Om w' b N := by
  obtain ⟨n, D, ⟨es, clock, g1, g2⟩, h2, h3⟩ := h.own
  exact ⟨n, D, ⟨es, clock, hb.trans g1, g2⟩, h2, h3⟩
theorem Om.made (w : World) : Om (w.alloc (.map #[] 0)) w.heap.size (fun _ => none) :=
  ⟨0, .map [], World.ownsMap_made w Tryz.prog 29 noteR, fun _ => rfl, fun _ => rfl⟩
/-- m[t] -/
theorem Om.look {w : World} {b : Nat} {N : NM} (h : Om w b N) (t : List UInt8) (ht : t.length ≤ 100000) : (Instr.lookup 48 (.map (some b)) (.string ⟨t.toArray⟩) false).run Tryz.prog w = .ok (nget N t).v w := by
  obtain ⟨n, D, h1, h2, h3⟩ := h.own
  obtain ⟨v, ps, hrun, hv⟩ := h1.lookup law22 Tryz.underlying48 (zero32_run w) (noteR_mk nz) (key_of t ht)
  obtain ⟨m, rfl, hm⟩ := noteR_inv hv
  rw [h3 t] at hm
  rw [hrun, Note.d_inj (congrArg Prod.fst hm)]
/-- _, there := m[t] -/
theorem Om.look_ok {w : World} {b : Nat} {N : NM} (h : Om w b N) (t : List UInt8) (ht : t.length ≤ 100000) : (Instr.lookup 48 (.map (some b)) (.string ⟨t.toArray⟩) true).run Tryz.prog w = .ok (.tuple #[(nget N t).v, .bool (N t).isSome]) w := by
  obtain ⟨n, D, h1, h2, h3⟩ := h.own
  obtain ⟨v, ps, hrun, hv⟩ := h1.look_ok law22 Tryz.underlying48 (zero32_run w) (noteR_mk nz) (key_of t ht)
  obtain ⟨m, rfl, hm⟩ := noteR_inv hv
  rw [h3 t] at hm
  rw [hrun, Note.d_inj (congrArg Prod.fst hm), h2 t]
theorem look_nil (w : World) (t : List UInt8) (ht : t.length ≤ 100000) : (Instr.lookup 48 (.map none) (.string ⟨t.toArray⟩) false).run Tryz.prog w = .ok nz.v w := by
  have := Maps.look_nil (w := w) (P := Tryz.prog) false law22 Tryz.underlying48 (zero32_run w) (key_of t ht)
  simpa using this
theorem look_nil_ok (w : World) (t : List UInt8) (ht : t.length ≤ 100000) : (Instr.lookup 48 (.map none) (.string ⟨t.toArray⟩) true).run Tryz.prog w = .ok (.tuple #[nz.v, .bool false]) w := by
  have := Maps.look_nil (w := w) (P := Tryz.prog) true law22 Tryz.underlying48 (zero32_run w) (key_of t ht)
  simpa using this
/-- a list without doubles among another one's -/
theorem length_sub {α : Type} [DecidableEq α] : ∀ {l U : List α}, l.Nodup → (∀ x ∈ l, x ∈ U) → l.length ≤ U.length
  | [], _, _, _ => Nat.zero_le _
  | a :: l, U, hn, hs => by
    obtain ⟨h1, h2⟩ := List.nodup_cons.1 hn
    have ha : a ∈ U := hs a (by simp)
    have := length_sub (l := l) (U := U.erase a) h2 (fun x hx => (List.mem_erase_of_ne (fun e => by subst e; exact h1 hx)).2 (hs x (by simp [hx])))
    rw [List.length_erase_of_mem ha] at this
    have : 0 < U.length := List.length_pos_of_mem ha
    simp only [List.length_cons]
    omega
def txt : Lit → List UInt8
  | .string t => t
  | _ => []
/-- how many there are, if all lie in a list -/
theorem Om.size {w : World} {b n : Nat} {D : DataW Unit} {N : NM} (h1 : w.ownsMap Tryz.prog 29 noteR b n D) (h2 : ∀ t, Maps.has D (.string t) = (N t).isSome) (U : List (List UInt8)) (hU : ∀ t, (N t).isSome = true → t ∈ U) : w.ownsMap Tryz.prog 29 noteR b U.length D := by
  obtain ⟨es, clock, hb, F, hs, rfl⟩ := h1
  refine ⟨es, clock, hb, F, ?_, rfl⟩
  have hk : ∀ x ∈ es.toList, ∃ t, (rg Tryz.prog 29 noteR x).1 = .string t := fun x hx => by
    obtain ⟨y, hy⟩ := F.reads x hx
    obtain ⟨t, _, e⟩ := key_inv (rd_key hy)
    exact ⟨t, by rw [rg_of hy]; exact e⟩
  have hd := Maps.fit_apart law22 F
  have hlen : es.size = ((es.toList.map (rg Tryz.prog 29 noteR)).map fun p => txt p.1).length := by simp
  rw [hlen]
  apply length_sub
  · rw [List.Nodup, List.pairwise_map]
    refine hd.imp_of_mem ?_
    intro p q hp hq hne e
    obtain ⟨x, hx, rfl⟩ := List.mem_map.1 hp
    obtain ⟨y, hy, rfl⟩ := List.mem_map.1 hq
    obtain ⟨t, ht⟩ := hk x hx
    obtain ⟨u, hu⟩ := hk y hy
    rw [ht, hu] at e hne
    exact hne (congrArg Lit.string e)
  · intro t ht
    obtain ⟨p, hp, rfl⟩ := List.mem_map.1 ht
    obtain ⟨x, hx, rfl⟩ := List.mem_map.1 hp
    obtain ⟨t, e⟩ := hk x hx
    apply hU
    rw [← h2, e]
    show Maps.has _ (.string t) = true
    rw [Maps.has_eq]
    refine List.any_eq_true.2 ⟨rg Tryz.prog 29 noteR x, mem_sorted.2 (List.mem_map.2 ⟨x, hx, rfl⟩), ?_⟩
    obtain ⟨y, hy⟩ := F.reads x hx
    rw [← e]
    exact WideAt.sameKey_self (by rw [rg_of hy]; exact law22.key (rd_key hy))
/-- m[t] = n -/
theorem Om.store {w : World} {b : Nat} {N : NM} (h : Om w b N) (U : List (List UInt8)) (hU : ∀ t, (N t).isSome = true → t ∈ U) (hl : U.length < 1000000000000) (t : List UInt8) (ht : t.length ≤ 100000) (m : Note) :
    ∃ w', (Instr.mapUpdate 48 (.map (some b)) (.string ⟨t.toArray⟩) m.v).run Tryz.prog w = .ok () w' ∧ Om w' b (nput N t m) ∧ w.grownBy w' (some b) := by
  obtain ⟨n, D, h1, h2, h3⟩ := h.own
  obtain ⟨w', r1, r2, r3⟩ := (Om.size h1 h2 U hU).update law22 Tryz.underlying48 (by unfold maxLen; omega) (key_of t ht) (noteR_mk m)
  have hT := h1.isMap
  refine ⟨w', r1, ⟨_, _, r2, fun s => ?_, fun s => ?_⟩, r3⟩
  · unfold nput
    by_cases e : s = t
    · subst e; rw [Maps.has_put_same hT (law22.key (key_of s ht))]; simp
    · rw [if_neg e, Maps.has_put_other (fun h => e (by cases h; rfl))]; exact h2 s
  · unfold nput nget
    by_cases e : s = t
    · subst e; rw [Maps.atKey_put_same hT (law22.key (key_of s ht))]; simp
    · simp only [if_neg e]; rw [Maps.atKey_put_other (fun h => e (by cases h; rfl))]; exact h3 s
end Go.Proofs.YtfnnhekjeobicaaGreatDoor
