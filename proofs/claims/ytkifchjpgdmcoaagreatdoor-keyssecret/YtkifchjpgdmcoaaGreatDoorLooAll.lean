import Derived.Test.YtkifchjpgdmcoaaGreatDoorProg
import Derived.WalkKit
import Derived.WalkSpells
import Derived.WalkLawsBesides
import Derived.Maps.Own
import Derived.Maps.OwnOps
import Derived.Maps.OwnSet
import Derived.Maps.Range
import Derived.Maps.RangeWalk
import Derived.Test.YtkifchjpgdmcoaaGreatDoorOpen
import Derived.Deep.QuietTactic
import Derived.BigQuiet
import Derived.Deep.LoopGhost
import Derived.Deep.RegionHeld3
import Derived.Lib.AppendStr
import Derived.Maps.AppendAt
import Derived.Deep.AppendSrc
/- A mind's notes in memory: a map of texts to notes. -/
namespace Go.Proofs.YtkifchjpgdmcoaaGreatDoor
open Go.RowKit Go.Maps Go.WideElems
structure Note where
 heard : Bool
 held : Bool
 key : List UInt8
deriving DecidableEq
abbrev Note.v (n : Note) : Value := .agg #[.bool n.heard, .bool n.held, .string ⟨n.key.toArray⟩]
def Note.d (n : Note) : DataW Unit := .agg [.lit (.bool n.heard), .lit (.bool n.held), .lit (.string n.key)]
def nz : Note := ⟨false, false, []⟩
theorem Note.d_inj {a b : Note} (h : a.d = b.d) : a = b := by
 cases a; cases b
 simp [Note.d] at h
 obtain ⟨rfl, rfl, rfl⟩ := h
 rfl
def noteL (l : List Value) : Option (DataW Unit × List MemPlace) :=
 match l with
 | [.bool a, .bool b, .string s] => some (Note.d ⟨a, b, s.data.toList⟩, [])
 | _ => none
def noteR (v : Value) : Option (DataW Unit × List MemPlace) :=
 match v with
 | .agg cs => noteL cs.toList
 | _ => none
theorem noteR_mk (n : Note) : noteR n.v = some (n.d, []) := rfl
theorem noteL_inv {l : List Value} {z : DataW Unit × List MemPlace} (h : noteL l = some z) : ∃ n : Note, l = [.bool n.heard, .bool n.held, .string ⟨n.key.toArray⟩] ∧ z = (n.d, []) := by
 unfold noteL at h
 split at h
 · rename_i a b s
   cases h
   exact ⟨⟨a, b, s.data.toList⟩, rfl, rfl⟩
 · cases h
theorem noteR_inv {v : Value} {z : DataW Unit × List MemPlace} (h : noteR v = some z) : ∃ n : Note, v = n.v ∧ z = (n.d, []) := by
 unfold noteR at h
 split at h
 · rename_i cs
   obtain ⟨n, h1, h2⟩ := noteL_inv h
   exact ⟨n, by rw [show cs = #[.bool n.heard, .bool n.held, .string ⟨n.key.toArray⟩] from Array.toList_inj.1 h1], h2⟩
 · cases h
abbrev NM := List UInt8 → Option Note
def nget (N : NM) (t : List UInt8) : Note := (N t).getD nz
def nput (N : NM) (t : List UInt8) (n : Note) : NM := fun s => if s = t then some n else N s
theorem law22 : Keyed Tryz.prog 22 := string_keyed Tryz.underlying22
theorem Tryz.zero40 : (Tryz.prog.info? 63).map (·.zero) = some (some nz.v) := by kernel_rfl
theorem zero32_run (w : World) : (zeroValue 63).run Tryz.prog w = .ok nz.v w := by
 obtain ⟨i, hi, hz⟩ := Option.map_eq_some_iff.1 Tryz.zero40
 simp [zeroValue, typeInfo, hi, hz, go_sem]
theorem key_of (t : List UInt8) (h : t.length ≤ 100000) : keyOf Tryz.prog 22 (.string ⟨t.toArray⟩) = some (.string t) :=
 WideMaps.keyOf_string_mk Tryz.underlying22 (s := ⟨t.toArray⟩) (by show t.length ≤ maxLen; unfold maxLen; omega)
theorem key_inv {v : Value} {kl : Lit} (h : keyOf Tryz.prog 22 v = some kl) : ∃ t : List UInt8, v = .string ⟨t.toArray⟩ ∧ kl = .string t := by
 rw [keyOf_string Tryz.underlying22] at h
 unfold mapKey at h
 rw [Tryz.underlying22] at h
 cases v <;> simp at h
 rename_i s
 exact ⟨s.data.toList, rfl, h.2.symm⟩
structure Om (w : World) (b : Nat) (N : NM) : Prop where
 own : ∃ n D, w.ownsMap Tryz.prog 22 noteR b n D ∧ (∀ t, Maps.has D (.string t) = (N t).isSome) ∧ ∀ t, D.atKey (.string t) nz.d = (nget N t).d
theorem Om.lt {w : World} {b : Nat} {N : NM} (h : Om w b N) : b < w.heap.size := by
 obtain ⟨n, D, h1, _⟩ := h.own
 exact h1.lt
theorem Om.same {w w' : World} {b : Nat} {N : NM} (h : Om w b N) (hb : w'.heap[b]? = w.heap[b]?) : Om w' b N := by
 obtain ⟨n, D, ⟨es, clock, g1, g2⟩, h2, h3⟩ := h.own
 exact ⟨n, D, ⟨es, clock, hb.trans g1, g2⟩, h2, h3⟩
theorem Om.made (w : World) : Om (w.alloc (.map #[] 0)) w.heap.size (fun _ => none) :=
 ⟨0, .map [], World.ownsMap_made w Tryz.prog 22 noteR, fun _ => rfl, fun _ => rfl⟩
theorem Om.look {w : World} {b : Nat} {N : NM} (h : Om w b N) (t : List UInt8) (ht : t.length ≤ 100000) : (Instr.lookup 59 (.map (some b)) (.string ⟨t.toArray⟩) false).run Tryz.prog w = .ok (nget N t).v w := by
 obtain ⟨n, D, h1, h2, h3⟩ := h.own
 obtain ⟨v, ps, hrun, hv⟩ := h1.lookup law22 Tryz.underlying59 (zero32_run w) (noteR_mk nz) (key_of t ht)
 obtain ⟨m, rfl, hm⟩ := noteR_inv hv
 rw [h3 t] at hm
 rw [hrun, Note.d_inj (congrArg Prod.fst hm)]
theorem Om.look_ok {w : World} {b : Nat} {N : NM} (h : Om w b N) (t : List UInt8) (ht : t.length ≤ 100000) : (Instr.lookup 59 (.map (some b)) (.string ⟨t.toArray⟩) true).run Tryz.prog w = .ok (.tuple #[(nget N t).v, .bool (N t).isSome]) w := by
 obtain ⟨n, D, h1, h2, h3⟩ := h.own
 obtain ⟨v, ps, hrun, hv⟩ := h1.look_ok law22 Tryz.underlying59 (zero32_run w) (noteR_mk nz) (key_of t ht)
 obtain ⟨m, rfl, hm⟩ := noteR_inv hv
 rw [h3 t] at hm
 rw [hrun, Note.d_inj (congrArg Prod.fst hm), h2 t]
theorem look_nil (w : World) (t : List UInt8) (ht : t.length ≤ 100000) : (Instr.lookup 59 (.map none) (.string ⟨t.toArray⟩) false).run Tryz.prog w = .ok nz.v w := by
 have := Maps.look_nil (w := w) (P := Tryz.prog) false law22 Tryz.underlying59 (zero32_run w) (key_of t ht)
 simpa using this
theorem look_nil_ok (w : World) (t : List UInt8) (ht : t.length ≤ 100000) : (Instr.lookup 59 (.map none) (.string ⟨t.toArray⟩) true).run Tryz.prog w = .ok (.tuple #[nz.v, .bool false]) w := by
 have := Maps.look_nil (w := w) (P := Tryz.prog) true law22 Tryz.underlying59 (zero32_run w) (key_of t ht)
 simpa using this
theorem length_sub {α : Type} [DecidableEq α] : ∀ {l U : List α}, l.Nodup → (∀ x ∈ l, x ∈ U) → l.length ≤ U.length
 | [], _, _, _ => Nat.zero_le _
 | a :: l, U, hn, hs => by
   obtain ⟨h1, h2⟩ := List.nodup_cons.1 hn
   have ha : a ∈ U := hs a (by simp)
   have := length_sub (l := l) (U := U.erase a) h2 (fun x hx => (List.mem_erase_of_ne (fun e => by subst e; exact h1 hx)).2 (hs x (by simp [hx])))
   rw [List.length_erase_of_mem ha] at this
   have : 0 < U.length := List.length_pos_of_mem ha
   simp only [List.length_cons]
   omega
def txt : Lit → List UInt8
 | .string t => t
 | _ => []
theorem Om.size {w : World} {b n : Nat} {D : DataW Unit} {N : NM} (h1 : w.ownsMap Tryz.prog 22 noteR b n D) (h2 : ∀ t, Maps.has D (.string t) = (N t).isSome) (U : List (List UInt8)) (hU : ∀ t, (N t).isSome = true → t ∈ U) : w.ownsMap Tryz.prog 22 noteR b U.length D := by
 obtain ⟨es, clock, hb, F, hs, rfl⟩ := h1
 refine ⟨es, clock, hb, F, ?_, rfl⟩
 have hk : ∀ x ∈ es.toList, ∃ t, (rg Tryz.prog 22 noteR x).1 = .string t := fun x hx => by
   obtain ⟨y, hy⟩ := F.reads x hx
   obtain ⟨t, _, e⟩ := key_inv (rd_key hy)
   exact ⟨t, by rw [rg_of hy]; exact e⟩
 have hd := Maps.fit_apart law22 F
 have hlen : es.size = ((es.toList.map (rg Tryz.prog 22 noteR)).map fun p => txt p.1).length := by simp
 rw [hlen]
 apply length_sub
 · rw [List.Nodup, List.pairwise_map]
   refine hd.imp_of_mem ?_
   intro p q hp hq hne e
   obtain ⟨x, hx, rfl⟩ := List.mem_map.1 hp
   obtain ⟨y, hy, rfl⟩ := List.mem_map.1 hq
   obtain ⟨t, ht⟩ := hk x hx
   obtain ⟨u, hu⟩ := hk y hy
   rw [ht, hu] at e hne
   exact hne (congrArg Lit.string e)
 · intro t ht
   obtain ⟨p, hp, rfl⟩ := List.mem_map.1 ht
   obtain ⟨x, hx, rfl⟩ := List.mem_map.1 hp
   obtain ⟨t, e⟩ := hk x hx
   apply hU
   rw [← h2, e]
   show Maps.has _ (.string t) = true
   rw [Maps.has_eq]
   refine List.any_eq_true.2 ⟨rg Tryz.prog 22 noteR x, mem_sorted.2 (List.mem_map.2 ⟨x, hx, rfl⟩), ?_⟩
   obtain ⟨y, hy⟩ := F.reads x hx
   rw [← e]
   exact WideAt.sameKey_self (by rw [rg_of hy]; exact law22.key (rd_key hy))
theorem Om.store {w : World} {b : Nat} {N : NM} (h : Om w b N) (U : List (List UInt8)) (hU : ∀ t, (N t).isSome = true → t ∈ U) (hl : U.length < 1000000000000) (t : List UInt8) (ht : t.length ≤ 100000) (m : Note) :
   ∃ w', (Instr.mapUpdate 59 (.map (some b)) (.string ⟨t.toArray⟩) m.v).run Tryz.prog w = .ok () w' ∧ Om w' b (nput N t m) ∧ w.grownBy w' (some b) := by
 obtain ⟨n, D, h1, h2, h3⟩ := h.own
 obtain ⟨w', r1, r2, r3⟩ := (Om.size h1 h2 U hU).update law22 Tryz.underlying59 (by unfold maxLen; omega) (key_of t ht) (noteR_mk m)
 have hT := h1.isMap
 refine ⟨w', r1, ⟨_, _, r2, fun s => ?_, fun s => ?_⟩, r3⟩
 · unfold nput
   by_cases e : s = t
   · subst e; rw [Maps.has_put_same hT (law22.key (key_of s ht))]; simp
   · rw [if_neg e, Maps.has_put_other (fun h => e (by cases h; rfl))]; exact h2 s
 · unfold nput nget
   by_cases e : s = t
   · subst e; rw [Maps.atKey_put_same hT (law22.key (key_of s ht))]; simp
   · simp only [if_neg e]; rw [Maps.atKey_put_other (fun h => e (by cases h; rfl))]; exact h3 s
end Go.Proofs.YtkifchjpgdmcoaaGreatDoor

/- Going over the notes. -/
namespace Go.Proofs.YtkifchjpgdmcoaaGreatDoor
open Go.RowKit Go.Maps Go.WideElems
structure Md (w : World) (p b : Nat) (N : NM) : Prop where
 ptr : w.heap[p]? = some (.cells #[.map (some b)] 61 (0, 0))
 om : Om w b N
structure Over (N : NM) (L : List (Bs × Note)) : Prop where
 nodup : (L.map (·.1)).Nodup
 mem : ∀ t n, (t, n) ∈ L ↔ N t = some n
def heardN (L : List (Bs × Note)) : Nat := (L.filter (·.2.heard)).length
def shutL (L : List (Bs × Note)) : List Bs := (L.filter (fun x => x.2.key != [])).map (·.1)
theorem next_notes {P : Program} (w : World) {ops : Array Oper} {rest : List Oper} {o : Oper} {a : Act} {Q : Exit → Act → World → Prop} (hP : P = Tryz.prog) (hg : o.guard = none) (it : Operand) (hop : o.op = Op.next it false)
   (b r n : Nat) (D : DataW Unit) (left : Lit → Bool) (cnt : Nat) (hit : a.eval it = .pointer (some ⟨r, 0, none⟩)) (h : w.ranges P 22 noteR b r n D left cnt)
   (hDone : cnt = 0 → (∀ kl, left kl = false) → wpList P ops Q rest (a.put o.dst (.tuple #[.bool false])) w)
   (hMore : ∀ (t : Bs) (m : Note) (w' : World) (cnt' : Nat), left (.string t) = true → (∀ zd, D.atKey (.string t) zd = m.d) → w'.ranges P 22 noteR b r n D (fun z => left z && !z.sameKey (.string t)) cnt' → cnt' < cnt →
     w.grownBy w' (some r) → w'.heap.size = w.heap.size → (Instr.entry (.pointer (some ⟨r, 0, none⟩))).run P w' = .ok (.tuple #[St t, m.v]) w' → wpList P ops Q rest (a.put o.dst (.tuple #[.bool true, St t, m.v])) w') :
   wpList P ops Q (o :: rest) a w := by
 subst hP
 refine wpList_next_ranges w hg it hop 22 law22 noteR St Note.v (fun key kl hk => by obtain ⟨t, rfl, _⟩ := key_inv hk; exact ⟨t, rfl⟩) (fun v y hv => by obtain ⟨m, rfl, _⟩ := noteR_inv hv; exact ⟨m, rfl⟩) b r n D left cnt hit h hDone ?_
 intro t m kl y w' cnt' hk hl hv hat h1 h2 h3 h4 h5
 obtain ⟨t', e1, rfl⟩ := key_inv hk
 obtain rfl : t = t' := by have := congrArg (fun v => match v with | Value.string s => s.data.toList | _ => []) e1; simpa using this
 rw [noteR_mk] at hv
 cases hv
 exact hMore t m w' cnt' hl hat h1 h2 h3 h4 h5
theorem lt_of_block {w : World} {b : Nat} {o : Obj} (h : w.heap[b]? = some o) : b < w.heap.size := by
 apply Classical.byContradiction
 intro hn
 rw [Array.getElem?_eq_none (by omega)] at h
 cases h
structure Part (N : NM) (L : List (Bs × Note)) (left : Lit → Bool) : Prop where
 nodup : (L.map (·.1)).Nodup
 mem : ∀ t n, (t, n) ∈ L → N t = some n
 left : ∀ t, left (.string t) = ((N t).isSome && !(L.map (·.1)).contains t)
theorem Part.step {N : NM} {L : List (Bs × Note)} {left : Lit → Bool} (h : Part N L left) {t : Bs} {m : Note} (hl : left (.string t) = true) (hm : N t = some m) : Part N (L ++ [(t, m)]) (fun z => left z && !z.sameKey (.string t)) := by
 have h0 := h.left t
 rw [hl] at h0
 have hn : t ∉ L.map (·.1) := by
   intro hc
   rw [hm] at h0
   simp at h0
   obtain ⟨x, hx, e⟩ := List.mem_map.1 hc
   exact h0 x.2 (by rw [← e]; exact hx)
 refine ⟨?_, ?_, ?_⟩
 · rw [List.map_append, List.nodup_append]
   exact ⟨h.nodup, by simp, fun a ha b hb e => by simp at hb; subst hb; subst e; exact hn ha⟩
 · intro s n hs
   rcases List.mem_append.1 hs with hs | hs
   · exact h.mem s n hs
   · simp at hs; obtain ⟨rfl, rfl⟩ := hs; exact hm
 · intro s
   rw [h.left s]
   by_cases e : s = t
   · subst e
     rw [WideAt.sameKey_self (by trivial)]
     simp
   · rw [Maps.sameKey_ne (fun h => e (by cases h; rfl))]
     have : (List.map (·.1) (L ++ [(t, m)])).contains s = (List.map (·.1) L).contains s := by
       rw [Bool.eq_iff_iff]; simp [e]
     rw [this]; simp
theorem Part.all {N : NM} {L : List (Bs × Note)} {left : Lit → Bool} (h : Part N L left) (hl : ∀ kl, left kl = false) : Over N L := by
 refine ⟨h.nodup, fun t n => ⟨h.mem t n, fun hN => ?_⟩⟩
 have h0 := h.left t
 rw [hl, hN] at h0
 simp at h0
 obtain ⟨m, hm⟩ := h0
 have := h.mem t m hm
 rw [hN] at this
 cases this
 exact hm
theorem Part.len {N : NM} {L : List (Bs × Note)} {left : Lit → Bool} (h : Part N L left) {U : List Bs} (hU : ∀ t, (N t).isSome = true → t ∈ U) : L.length ≤ U.length := by
 have := length_sub h.nodup (fun t ht => hU t (by obtain ⟨x, hx, rfl⟩ := List.mem_map.1 ht; rw [h.mem x.1 x.2 hx]; rfl))
 simpa using this
theorem part_nil (N : NM) (D : DataW Unit) (h2 : ∀ t, Maps.has D (.string t) = (N t).isSome) : Part N [] (Maps.has D) := ⟨by simp, by simp, fun t => by rw [h2 t]; simp⟩
theorem heardN_snoc (L : List (Bs × Note)) (t : Bs) (m : Note) : heardN (L ++ [(t, m)]) = heardN L + (if m.heard then 1 else 0) := by
 unfold heardN; cases h : m.heard <;> simp [h]
theorem shutL_snoc (L : List (Bs × Note)) (t : Bs) (m : Note) : shutL (L ++ [(t, m)]) = shutL L ++ (if m.key = [] then [] else [t]) := by
 unfold shutL; by_cases h : m.key = [] <;> simp [h]
theorem heardN_le (L : List (Bs × Note)) : heardN L ≤ L.length := List.length_filter_le _ _
theorem shutL_le (L : List (Bs × Note)) : (shutL L).length ≤ L.length := by unfold shutL; simp; exact List.length_filter_le _ _
theorem wpList_append_run {P : Program} {w : World} {ops : Array Oper} {rest : List Oper} {o : Oper} {a : Act} {Q : Exit → Act → World → Prop} (hgd : o.guard = none) (s x : Operand) (t : TypeId)
   (ho : o.op = .call { callee := .builtin .append, args := #[s, x], argTypes := #[t, t] }) (v xv v' : Value) (w' : World) (hs : a.eval s = v) (hx : a.eval x = xv)
   (hrun : ∀ ty, (Builtin.append_ #[t, t] ty #[v, xv]).run P w = .ok v' w') (h : wpList P ops Q rest (a.put o.dst v') w') : wpList P ops Q (o :: rest) a w := by
 refine wpList_plain hgd fun K hK => ?_
 unfold Oper.wp
 simp [execOp, ho, resolve, invoke, builtin, hs, hx, hrun, Result.andThen]
 exact hK _ _ h
theorem append_text (W : World) (base : Nat) (v : Value) (l : List Bs) (t : Bs) (hown : W.ownsRow base 22 1 v l.length (l.map St)) (hl : l.length < 1000000000000) (hb : base ≤ W.heap.size) :
   ∃ ao kc w', (∀ ty, (Builtin.append_ #[39, 39] ty #[v, .slice (some ⟨W.heap.size, 0, none⟩) 1 1]).run Tryz.prog (W.alloc (.cells #[St t] 22)) = .ok (.slice ao (l.length + 1) kc) w') ∧ w'.ownsRow base 22 1 (.slice ao (l.length + 1) kc) (l ++ [t]).length ((l ++ [t]).map St) ∧ W.grownBy w' v.ownBlock := by
 obtain ⟨i0, hi, hz0, hz1, hz2⟩ := info_parts Tryz.info22
 obtain ⟨v', w', h1, h2, h3, _⟩ := run_append_own (P := Tryz.prog) (W.alloc (.cells #[St t] 22)) base 39 39 22 i0 _ 1 16 Tryz.underlying39 hi hz0 hz1 hz2 rfl (by decide) v l.length (l.map St) (hown.alloc _) ⟨W.heap.size, 0, none⟩ 1 1 [St t] rfl (cell_one_new W _ _) (fun u hu => by simp at hu; subst hu; rfl) (by unfold maxLen; omega) (by omega) (by simp; omega)
 have h4 : ∃ ao kc, v' = .slice ao (l.length + 1) kc := by
   rcases h2.2 with ⟨_, e⟩ | ⟨g, cap, _, e, _⟩
   · omega
   · exact ⟨_, _, e⟩
 obtain ⟨ao, kc, rfl⟩ := h4
 refine ⟨ao, kc, w', fun ty => h1, by simpa using h2, ⟨h3.os, h3.tape, h3.output, ?_, fun k hk hne => ?_⟩⟩
 · have := h3.size; simp at this; omega
 · rw [h3.block k (by simp; omega) hne]; exact Below.heap_alloc W _ k hk
theorem own_shape {w : World} {base : Nat} {v : Value} {n : Nat} {xs : List Value} (h : w.ownsRow base 22 1 v n xs) : ∃ ao kc, v = .slice ao n kc := by
 rcases h.2 with ⟨h1, h2⟩ | ⟨g, cap, _, h1, _⟩
 · subst h2; exact ⟨_, _, h1⟩
 · exact ⟨_, _, h1⟩
theorem own_ge {w : World} {base : Nat} {v : Value} {n : Nat} {xs : List Value} (h : w.ownsRow base 22 1 v n xs) {g : Nat} (e : v.ownBlock = some g) : base ≤ g ∧ g < w.heap.size := by
 rcases h.2 with ⟨h1, h2⟩ | ⟨k, cap, cur, h1, h2, h3, _⟩
 · subst h1; cases e
 · subst h1; cases e; exact ⟨h2, lt_of_block h3⟩
set_option maxHeartbeats 4000000 in
set_option maxRecDepth 100000 in
theorem look_any (w : World) (p b : Nat) (N : NM) (h : Md w p b N) (U : List Bs) (hU : ∀ t, (N t).isSome = true → t ∈ U) (hUl : U.length < 1000000000000) :
   Calls Tryz.prog 29 #[.pointer (some ⟨p, 0, none⟩)] w fun e w' => ∃ v L, e = .returned (.tuple #[.int .i64 (heardN L : Int), v]) ∧ Over N L ∧ w'.ownsRow w.heap.size 22 1 v (shutL L).length ((shutL L).map St) ∧ Below w.heap.size w w' := by
 have hc := cell_of_heap h.ptr 0
 simp only [List.getElem?_toArray, List.getElem?_cons_zero] at hc
 obtain ⟨n, D, h1, h2, h3⟩ := h.om.own
 have HD2 := hid h2
 have HD3 := hid h3
 have HO := hid h1
 have HBL := hid h.om.lt
 have HU := hid hU
 have HUL := hid hUl
 clear h h1 h2 h3 hU hUl
 obtain ⟨i0, hi, hz0, hz1, hz2⟩ := info_parts Tryz.info22
 go_enter Tryz.func29, Tryz.ntmps29
 go_wp2_with (first
   | (at_range; refine wpList_range_own _ rfl _ 59 rfl 22 63 law22 Tryz.underlying59 _ b n _ rfl HO.out ?_; intro w0 hrg0 hg0 hs0)
   | go_in)
 go_frame
 have HB0 : Hid (Below w.heap.size w w0) := hid ⟨hg0.os, hg0.tape, hg0.output, hg0.size, fun k hk => hg0.block k hk (by simp)⟩
 have HR0 := hid hrg0
 have HS0 := hid hs0
 clear hrg0 hg0 hs0
 go_loopw [4, 5] (fun vh vs wr => ∃ L left cnt ao kc, wr.ranges Tryz.prog 22 noteR b w.heap.size n D left cnt ∧ Part N L left ∧ vh = .int .i64 (heardN L : Int) ∧ vs = .slice ao (shutL L).length kc ∧ wr.ownsRow (w.heap.size + 1) 22 1 (.slice ao (shutL L).length kc) (shutL L).length ((shutL L).map St) ∧ Below w.heap.size w wr ∧ w.heap.size + 1 ≤ wr.heap.size)
   (fun _ _ wr => wr.rangeLeft b w.heap.size)
 case atStart => exact ⟨[], _, _, none, 0, HR0.out, part_nil N D HD2.out, rfl, rfl, World.ownsRow_nil _ _ _ _, HB0.out, by rw [HS0.out]; exact Nat.le_refl _⟩
 case round =>
   clear HB0 HR0 HS0 HO
   obtain ⟨L, left, cnt, ao, kc, hrg, hpt, rfl, rfl, hown, hbel, hsz⟩ := hrel
   have HRG := hid hrg
   have HPT := hid hpt
   have HOW := hid hown
   have HBE := hid hbel
   have HSZ := hid hsz
   clear hrg hpt hown hbel hsz
   go_wp2_with (first
     | (at_next; refine next_notes _ rfl rfl _ rfl b w.heap.size n _ _ _ rfl HRG.out ?_ ?_)
     | go_in)
   · intro _ hl0
     go_wp2_with go_in
     go_ret2
     exact ⟨_, L, rfl, HPT.out.all hl0, ⟨HOW.out.1, HOW.out.2.imp id (fun ⟨g, cap, cur, e1, e2, e3⟩ => ⟨g, cap, cur, e1, by omega, e3⟩)⟩, HBE.out⟩
   · intro t m w1 cnt1 hl hat hrg1 hlt hg1 hs1 hen
     have HM : Hid (N t = some m) := by
       apply hid
       have h0 := HPT.out.left t
       rw [hl] at h0
       obtain ⟨m', hm'⟩ : ∃ m', N t = some m' := Option.isSome_iff_exists.1 (by cases hh : (N t).isSome with | true => rfl | false => rw [hh] at h0; cases h0)
       have h3 := HD3.out t
       rw [hat, nget, hm'] at h3
       rw [hm', Note.d_inj h3]; rfl
     have HPT1 := hid (HPT.out.step hl HM.out)
     have HLN := hid (HPT1.out.len HU.out)
     have HRG1 := hid hrg1
     have HLT := hid hlt
     have HB1 : Hid (Below w.heap.size w w1) := hid ⟨hg1.os.trans HBE.out.os, hg1.tape.trans HBE.out.tape, hg1.output.trans HBE.out.output, by rw [hs1]; exact HBE.out.size, fun k hk => (hg1.block k (Nat.lt_of_lt_of_le hk HBE.out.size) (fun e => by cases e; omega)).trans (HBE.out.block k hk)⟩
     have HOW1 : Hid (w1.ownsRow (w.heap.size + 1) 22 1 (.slice ao (shutL L).length kc) (shutL L).length ((shutL L).map St)) := by
       apply hid
       refine HOW.out.kept hg1 ?_
       cases e : (Value.slice ao (shutL L).length kc).ownBlock with
       | none => exact Or.inl rfl
       | some g => exact Or.inr (fun e2 => by cases e2; have := (own_ge HOW.out e).1; omega)
     have HS1 := hid hs1
     clear hl hat hrg1 hlt hg1 hs1
     have hhb : (heardN L : Int) < 1000000000000 := by have h1 := heardN_le L; have h2 := HLN.out; have h3 := HUL.out; simp at h2; omega
     have hh0 : 0 ≤ (heardN L : Int) := by omega
     have HSN := hid (shutL_snoc L t m)
     have HHN := hid (heardN_snoc L t m)
     have HSB : Hid ((shutL L).length < 1000000000000) := by apply hid; have h1 := shutL_le L; have h2 := HLN.out; have h3 := HUL.out; simp at h2; omega
     obtain ⟨mh, md, mk⟩ := m
     have HOA := hid (HOW1.out.alloc (.cells #[.bool mh, .bool md, .string ⟨mk.toArray⟩] 63))
     have HZA : Hid ((w1.alloc (.cells #[.bool mh, .bool md, .string ⟨mk.toArray⟩] 63)).heap.size = w1.heap.size + 1) := by apply hid; simp
     have HBA : Hid (Below w.heap.size w (w1.alloc (.cells #[.bool mh, .bool md, .string ⟨mk.toArray⟩] 63))) := hid (HB1.out.alloc HB1.out.size _)
     have HRA := hid (HRG1.out.alloc (.cells #[.bool mh, .bool md, .string ⟨mk.toArray⟩] 63))
     by_cases hk : mk = []
     · subst hk
       cases mh
       all_goals
         go_wp2_with go_in
         go_roundw
         case rel => exact ⟨_, _, cnt1, ao, kc, HRA.out, HPT1.out, by rw [HHN.out]; simp, by rw [HSN.out]; simp, by rw [HSN.out]; simpa using HOA.out, HBA.out, by rw [HZA.out, HS1.out]; have := HSZ.out; omega⟩
         case measure => rw [HRA.out.left_eq, HRG.out.left_eq]; exact HLT.out
     · obtain ⟨ao2, kc2, w2, hrun, hown2, hg2⟩ := append_text (w1.alloc (.cells #[.bool mh, .bool md, .string ⟨mk.toArray⟩] 63)) (w.heap.size + 1) (.slice ao (shutL L).length kc) (shutL L) t HOA.out HSB.out (by rw [HZA.out, HS1.out]; have := HSZ.out; omega)
       rw [HZA.out] at hrun
       have HRUN := hid hrun
       have HO2 := hid hown2
       have HNB : Hid (∀ g, g ≤ w.heap.size → some g ≠ (Value.slice ao (shutL L).length kc).ownBlock) := hid (fun g hg e => by have := (own_ge HOW.out e.symm).1; omega)
       have HR2 : Hid (w2.ranges Tryz.prog 22 noteR b w.heap.size n D (fun z => left z && !z.sameKey (.string t)) cnt1) := hid (HRA.out.kept hg2 (HNB.out b (by have := HBL.out; omega)) (HNB.out _ (Nat.le_refl _)))
       have HB2 : Hid (Below w.heap.size w w2) := hid ⟨hg2.os.trans HBA.out.os, hg2.tape.trans HBA.out.tape, hg2.output.trans HBA.out.output, Nat.le_trans HBA.out.size hg2.size, fun k hk => (hg2.block k (Nat.lt_of_lt_of_le hk HBA.out.size) (HNB.out k (by omega))).trans (HBA.out.block k hk)⟩
       have HZ2 : Hid (w.heap.size + 1 ≤ w2.heap.size) := by apply hid; have h1 := hg2.size; rw [HZA.out, HS1.out] at h1; have := HSZ.out; omega
       have hne : (mk == []) = false := by simpa using hk
       have hne2 : mk.isEmpty = false := by simpa using hk
       have HKN := hid hk
       clear hrun hown2 hg2 hk
       cases mh
       all_goals
         go_wp2_with (first | (at_builtin; refine wpList_append_run rfl (.tmp 25) (.tmp 27) 39 rfl (.slice ao (shutL L).length kc) (.slice (some ⟨w1.heap.size + 1, 0, none⟩) 1 1) (.slice ao2 ((shutL L).length + 1) kc2) w2 rfl rfl HRUN.out ?_) | go_in)
         go_roundw
         case rel => exact ⟨_, _, cnt1, ao2, kc2, HR2.out, HPT1.out, by rw [HHN.out]; simp, by rw [HSN.out, if_neg HKN.out, List.length_append]; rfl, by rw [HSN.out, if_neg HKN.out, List.length_append]; simpa using HO2.out, HB2.out, HZ2.out⟩
         case measure => rw [HR2.out.left_eq, HRG.out.left_eq]; exact HLT.out
end Go.Proofs.YtkifchjpgdmcoaaGreatDoor
