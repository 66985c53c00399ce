import Derived.Test.YtdllpklecdmghaaGreatDoorKnAAll
import Derived.Test.YtdllpklecdmghaaGreatDoorLkMr
import Derived.Great.BuildSlice
/- A region whose operations only add: whatever order is drawn, what each brings holds at the end. -/
namespace Go.Proofs.YtdllpklecdmghaaGreatDoor
open Go.RowKit
open Lk (Lt)
structure Adds (D : List Nat) (dst : Nat → Nat) (F : Nat → Value → World → Prop) (N : Nat) (a0 : Act) (w0 : World) (l : Array Bool) (a : Act) (w : World) : Prop where
  size : l.size = N
  off : Off D a0 a
  bel : Below w0.heap.size w0 w
  has : ∀ j, j < N → dn l j → F j (gt a (dst j)) w
theorem region_adds {P : Program} {ops : Array Oper} {Q : Exit → Act → World → Prop} {id : Nat} {a0 : Act} {w0 : World} (D : List Nat) (dst : Nat → Nat) (F : Nat → Value → World → Prop) (hm : P.follows .mixedOrders = true)
    (hb : ∀ (i : Nat) (o : Oper), ops[i]? = some o → ∀ e ∈ o.after, e.on < i)
    (hD : ∀ i, i < ops.size → dst i ∈ D ∧ dst i < a0.tmps.size)
    (hinj : ∀ i j, i < ops.size → j < ops.size → i ≠ j → dst i ≠ dst j)
    (hF : ∀ i v w w', Below w.heap.size w w' → F i v w → F i v w')
    (hs : ∀ (i : Nat) (o : Oper) (a : Act) (w : World), ops[i]? = some o → Off D a0 a → Below w0.heap.size w0 w → (∀ e ∈ o.after, Region.binds .any e = true → F e.on (gt a (dst e.on)) w) → wpOp P ops Q i (fun a' w' => ∃ v, a' = a.put (some (dst i)) v ∧ Below w.heap.size w w' ∧ F i v w') a w)
    (hd : ∀ (a : Act) (w : World), Off D a0 a → Below w0.heap.size w0 w → (∀ i, i < ops.size → F i (gt a (dst i)) w) → Q .normal a w) : (Code.region id ops true).wp P Q a0 w0 := by
  refine region_inv (Adds D dst F ops.size a0 w0) hm hb ⟨by simp, Off.refl _ _, below_dr _, fun j hj hl => ?_⟩ ?_ ?_
  · exfalso
    simp [dn, hj] at hl
  · intro l a w i o hI ho hf ha
    have hi : i < ops.size := (Array.getElem?_eq_some_iff.1 ho).1
    refine wpOp_mono ?_ (hs i o a w ho hI.off hI.bel (fun e he hbd => hI.has e.on (by have := hb i o ho e he; omega) (ha e he hbd)))
    rintro a' w' ⟨v, rfl, hbw, hv⟩
    refine ⟨by simpa using hI.size, hI.off.put (hD i hi).1 v, hI.bel.trans (hbw.mono hI.bel.size), fun j hj hl => ?_⟩
    by_cases e : i = j
    · subst e
      have h2 : gt (a.put (some (dst i)) v) (dst i) = v := get_put_same (by rw [hI.off.size]; exact (hD i hi).2)
      rw [h2]
      exact hv
    · have h2 : gt (a.put (some (dst i)) v) (dst j) = gt a (dst j) := get_put_ne (hinj i j hi hj e)
      rw [h2]
      exact hF j _ w w' hbw (hI.has j hj (dn_set e hl))
  · intro l a w hI hl
    refine hd a w hI.off hI.bel (fun i hi => hI.has i hi ?_)
    have h := hl i
    have hsz : i < l.size := by rw [hI.size]; exact hi
    simpa [dn, hsz] using h
def LkV (L : Lt) (v : Value) (w : World) : Prop := ∃ kv d, v = .agg (lcs L kv) ∧ Lr L ∧ Kd (fun _ => True) w d kv L.kids
def RowV (ks : List Lt) (v : Value) (w : World) : Prop := ∃ d, Kd (fun _ => True) w d v ks
theorem LkV.up {L : Lt} {v : Value} {w w' : World} (h : LkV L v w) (hb : Below w.heap.size w w') : LkV L v w' := by
  obtain ⟨kv, d, h1, h2, h3⟩ := h
  exact ⟨kv, d, h1, h2, h3.low hb⟩
theorem RowV.up {ks : List Lt} {v : Value} {w w' : World} (h : RowV ks v w) (hb : Below w.heap.size w w') : RowV ks v w' := by
  obtain ⟨d, h⟩ := h
  exact ⟨d, h.low hb⟩
theorem LkV.leaf (w : World) (k : Nat) (t : Bs) (n : Int) (h1 : k < 256) (h2 : t.length ≤ 1000) (h3 : -9223372036854775808 ≤ n ∧ n < 9223372036854775808) : LkV (.mk k t n []) (.agg #[.int .u8 (k : Int), St t, .int .i64 n, .slice none 0 0]) w :=
  ⟨.slice none 0 0, 0, rfl, ⟨h1, by show t.length ≤ _; omega, h3⟩, Kd.nil _ _ _⟩
inductive Sq
  | lk (L : Lt)
  | row (ks : List Lt)
  | rowc (ks : List Lt)
  | eq (v : Value)
def Sq.ok : Sq → Value → World → Prop
  | .lk L, v, w => LkV L v w
  | .row ks, v, w => RowV ks v w
  | .rowc ks, v, w => RowV ks v w ∧ ∃ a c, v = .slice a ks.length c ∧ ks.length ≤ c
  | .eq u, v, _ => v = u
theorem Sq.up : ∀ {s : Sq} {v : Value} {w w' : World}, s.ok v w → Below w.heap.size w w' → s.ok v w'
  | .lk _, _, _, _, h, hb => LkV.up h hb
  | .row _, _, _, _, h, hb => RowV.up h hb
  | .rowc _, _, _, _, h, hb => ⟨RowV.up h.1 hb, h.2⟩
  | .eq _, _, _, _, h, _ => h
theorem call_all {ks : List Lt} {v : Value} {w : World} (h : RowV ks v w) (hs : Lk.smalls ks = true) (hl : ks.length ≤ 1000000) : Calls Tryz.prog 23 #[v] w fun e w' => ∃ u, e = .returned u ∧ Sq.ok (.lk (.mk 5 [] 0 ks)) u w' ∧ Below w.heap.size w w' := by
  obtain ⟨d, h⟩ := h
  refine (mk_all d v ks w h hs hl).mono ?_
  rintro e w' ⟨v', h1, h2, h3⟩
  exact ⟨_, h1, ⟨v', d, rfl, ⟨by simp [Lk.Lt.kind], Nat.zero_le _, by show _ ≤ (0 : Int) ∧ (0 : Int) < _; decide⟩, h2.base (fun _ _ => trivial)⟩, h3⟩
theorem call_any {ks : List Lt} {v : Value} {w : World} (h : RowV ks v w) (hs : Lk.smalls ks = true) (hl : ks.length ≤ 1000000) : Calls Tryz.prog 27 #[v] w fun e w' => ∃ u, e = .returned u ∧ Sq.ok (.lk (.mk 6 [] 0 ks)) u w' ∧ Below w.heap.size w w' := by
  obtain ⟨d, h⟩ := h
  refine (mk_any d v ks w h hs hl).mono ?_
  rintro e w' ⟨v', h1, h2, h3⟩
  exact ⟨_, h1, ⟨v', d, rfl, ⟨by simp [Lk.Lt.kind], Nat.zero_le _, by show _ ≤ (0 : Int) ∧ (0 : Int) < _; decide⟩, h2.base (fun _ _ => trivial)⟩, h3⟩
theorem call_deep (n : Nat) (h1 : 1 ≤ n) (hn : n ≤ 1000) (w : World) : Calls Tryz.prog 28 #[.int .i64 (n : Int)] w fun e w' => ∃ u, e = .returned u ∧ Sq.ok (.lk (deepL (n - 1))) u w' ∧ Below w.heap.size w w' :=
  (deepk_any n h1 hn w).mono (fun _ _ ⟨kv, h1, h2, h3⟩ => ⟨_, h1, ⟨kv, n, rfl, deepL_lr _, h2.base (fun _ _ => trivial)⟩, h3⟩)
end Go.Proofs.YtdllpklecdmghaaGreatDoor
/- A row of locks that is written down at once. -/
namespace Go.Proofs.YtdllpklecdmghaaGreatDoor
open Go.RowKit
open Lk (Lt)
abbrev lv (q : Lt × Value) : Value := .agg (lcs q.1 q.2)
theorem flat_lv (l : List (Lt × Value)) : (l.map lv).flatMap (fun v => v.cells.toList) = rcs l := by
  unfold rcs
  rw [List.flatMap_map]
  rfl
theorem ex_row (a : Act) (W : World) (l : List (Lt × Value)) (n : Nat) (parts : Array (Nat × Operand)) (o : Oper) (ho : o.op = .buildSlice 23 n parts) (hn : n = l.length) (h0 : 0 < n) (h1 : n ≤ 1000)
    (hp : (parts.map fun (i, x) => (i, a.eval x)).toList = ((l.map lv).zipIdx 0).map fun x => (x.2, x.1)) :
    (execOp a.eval o).run Tryz.prog W = .ok (.value (.slice (some ⟨W.heap.size, 0, none⟩) n n)) (W.alloc (.cells (rcs l).toArray 25)) := by
  obtain ⟨i0, hi, hz0, hz1, hz2⟩ := info_parts lk_info25
  have hr := run_buildSlice (P := Tryz.prog) W 23 25 n (parts.map fun (i, x) => (i, a.eval x)) (rcs l).toArray i0 _ Tryz.underlying23 hi hz0 (by rw [hz1]; omega) (by rw [hz1]; omega) (by
    rw [hp, hz1, ← flat_lv l]
    exact Go.Great.fill_whole (by decide) (l.map lv) _ (fun v hv => by
      obtain ⟨q, _, rfl⟩ := List.mem_map.1 hv
      rfl) (by simp [hn]))
  unfold execOp
  simp only [ho, Sem.run_bind, hr, Result.andThen_ok]
  rfl
theorem row_new (W : World) (l : List (Lt × Value)) (n c : Nat) (hn : n = l.length) (h1 : n ≤ 1000) (h : ∀ q ∈ l, LkV q.1 (lv q) W) :
    RowV (l.map Prod.fst) (.slice (some ⟨W.heap.size, 0, none⟩) n c) (W.alloc (.cells (rcs l).toArray 25)) := by
  have hall : ∀ m : List (Lt × Value), (∀ q ∈ m, LkV q.1 (lv q) W) → ∃ d, ∀ q ∈ m, Lr q.1 ∧ Kd (fun _ => True) W d q.2 q.1.kids := by
    intro m
    induction m with
    | nil => exact fun _ => ⟨0, fun q hq => absurd hq (by simp)⟩
    | cons q m ih =>
      intro hm
      obtain ⟨d1, h1⟩ := ih (fun x hx => hm x (List.mem_cons_of_mem _ hx))
      obtain ⟨kv, d2, e, h2, h3⟩ := hm q List.mem_cons_self
      have ek : q.2 = kv := by
        have := Value.agg.inj e
        have h4 : (lcs q.1 q.2)[3]? = (lcs q.1 kv)[3]? := by rw [this]
        exact Option.some.inj h4
      subst ek
      refine ⟨max d1 d2, fun x hx => ?_⟩
      rcases List.mem_cons.1 hx with rfl | hx
      · exact ⟨h2, h3.more (Nat.le_max_right _ _)⟩
      · exact ⟨(h1 x hx).1, (h1 x hx).2.more (Nat.le_max_left _ _)⟩
  obtain ⟨d, h⟩ := hall l h
  refine ⟨d + 1, by simp; omega, some ⟨W.heap.size, 0, none⟩, c, by simp [hn], fun _ => ⟨W.heap.size, 0, rfl, trivial, fun i hi => ?_⟩⟩
  have hil : i < l.length := by simpa using hi
  have e : (l.map Prod.fst)[i] = l[i].1 := by simp
  rw [e]
  obtain ⟨h2, h3⟩ := h l[i] (List.getElem_mem hil)
  refine ⟨l[i].2, fun j u hu => ?_, h2, h3.low (below_al W _)⟩
  rw [cell_of_heap (heap_alloc_new W _), Nat.zero_add]
  have := rcs_at l i hil j u hu
  simpa using this
end Go.Proofs.YtdllpklecdmghaaGreatDoor
