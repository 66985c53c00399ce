import Derived.Test.YtdllpklecdmghaaDoorRows
import Derived.Test.YtdllpklecdmghaaDoorCards
import Derived.Test.YtdllpklecdmghaaDoorTie
import Derived.Test.YtdllpklecdmghaaDoorKaAll
import Derived.ProofKit
import Derived.OpenShut
import Derived.Deep.Slices
import Derived.Lib.LaidTab
import Derived.LaidMore
import Derived.Stop.LaidErr
import Derived.Stop.Joined
import Derived.Lay
import Derived.SizedLaws
import Derived.Test.YtdllpklecdmghaaDoorFmt
/- What comes in: locks, rows of locks, witnesses, texts. -/
namespace Go.Proofs.YtdllpklecdmghaaDoor
open Go.ChangeShapes Go.WideShapes Go.ChangeAt Go.RowKit
open Lk (Lt)

theorem own : ownKnob Tryd.prog.godebug = none := by kernel_rfl
theorem laidOut : laidOutB Tryd.prog = true := by kernel_rfl
theorem Tryd.cells5 : Tryd.prog.cellsOf 5 = 1 := by kernel_rfl
theorem Tryd.cells3 : Tryd.prog.cellsOf 3 = 1 := by kernel_rfl
theorem Tryd.cells22 : Tryd.prog.cellsOf 22 = 1 := by kernel_rfl
theorem Tryd.cells23 : Tryd.prog.cellsOf 23 = 1 := by kernel_rfl
theorem Tryd.cells26 : Tryd.prog.cellsOf 26 = 4 := by kernel_rfl
theorem Tryd.cells41 : Tryd.prog.cellsOf 41 = 1 := by kernel_rfl
theorem Tryd.cells43 : Tryd.prog.cellsOf 43 = 2 := by kernel_rfl
theorem Tryd.bytes26 : Tryd.prog.bytesOf 26 = 56 := by kernel_rfl
theorem Tryd.bytes22 : Tryd.prog.bytesOf 22 = 16 := by kernel_rfl
theorem reach_le {n : Nat} (h : n ≤ reachBytes) : n ≤ 140737488355328 := by
  have h2 := reachBytes_lt
  have e3 : (2 : Nat) ^ 47 = 140737488355328 := by decide
  omega
theorem plain_of_cell {w : World} {a : Addr} {v : Value} (h : w.cell? a = some v) : a = ⟨a.block, a.off, none⟩ ∧ a.block < w.heap.size := by
  unfold World.cell? at h
  split at h
  · rename_i c e fr hb
    split at h
    · cases h
    · rename_i hs
      refine ⟨?_, lt_of_block hb⟩
      cases a with
      | mk b o s => cases s with
        | none => rfl
        | some x => simp at hs
  · cases h
theorem weights_all {H : Type} {P : Program} {e : TypeId} {x : Nat} {d : DataW H} : ∀ {l : List (DataW H)}, d ∈ l → x ∈ d.weights P e → x ∈ DataW.weightsAll P e l
  | y :: r, hd, hx => by
    rw [DataW.weightsAll, List.mem_append]
    rcases List.mem_cons.1 hd with rfl | h
    · exact Or.inl hx
    · exact Or.inr (weights_all h hx)
theorem text_of {H : Type} {enc : TypeId × Value → H} {W : World} {sp : Nat → Bool} {held : Bool} {n : Nat} {v : Value} {d : DataW H} {p : List MemPlace} (h : DataW.trod enc Tryd.prog W 0 sp held n 22 [v] = some (d, p)) (hw : ∀ x ∈ d.weights Tryd.prog 22, x ≤ reachBytes) : ∃ l : Bs, v = St l ∧ l.length ≤ 140737488355328 := by
  obtain ⟨s, hs1, hs2, _⟩ := DataW.trod_string Tryd.underlying22 h
  have hD : d = .lit (.string s.data.toList) := (Prod.mk.inj hs2).1
  have hb := hw s.data.toList.length (by rw [hD, DataW.weights]; exact List.mem_cons_self)
  exact ⟨s.data.toList, by simpa using hs1, reach_le hb⟩
theorem size_mem {H : Type} {x : DataW H} {l r : List (DataW H)} (h : x ∈ l) : SizeOf.sizeOf x < SizeOf.sizeOf (DataW.slice l r) := by
  have := List.sizeOf_lt_of_mem h
  simp
  omega
set_option maxRecDepth 100000 in
/-- a row of locks that came in, each lock of it known -/
theorem locks_by {H : Type} {enc : TypeId × Value → H} {W : World} {sp : Nat → Bool} {held : Bool} {k : Nat} (hone : ∀ (n : Nat) (cs : List Value) (d : DataW H) (p : List MemPlace), SizeOf.sizeOf d ≤ k → DataW.trod enc Tryd.prog W 0 sp held n 26 cs = some (d, p) → (∀ x ∈ d.weights Tryd.prog 26, x ≤ reachBytes) → ∃ l kv, cs = (lcs l kv).toList ∧ Lr l ∧ Kd (fun g => g < W.heap.size) W k kv l.kids)
    {n : Nat} {v : Value} {d : DataW H} {p : List MemPlace} (hs : SizeOf.sizeOf d ≤ k + 1) (h : DataW.trod enc Tryd.prog W 0 sp held n 23 [v] = some (d, p)) (hw : ∀ x ∈ d.weights Tryd.prog 23, x ≤ reachBytes) : ∃ ks : List Lt, Kd (fun g => g < W.heap.size) W (k + 1) v ks := by
  rcases Go.Deep.open_slice Tryd.underlying23 h with ⟨hcs, _⟩ | ⟨a, len, cap, m, _, D, Pl, hcs, _, hl, hm, hmm, hx, hel⟩
  · have hv : v = .slice none 0 0 := by simpa using hcs
    subst hv
    exact ⟨[], Kd.nil _ _ _⟩
  · have hv : v = .slice (some a) len cap := by simpa using hcs
    subst hv
    have hlm : len ≤ m := by rw [hmm]; split <;> omega
    have hd : d = .slice ((List.range len).map D) ((List.range (m - len)).map fun j => D (len + j)) := (Prod.mk.inj hx).1
    have hbd : len ≤ 140737488355328 := by
      apply reach_le
      have := hw ((((List.range len).map D).length + ((List.range (m - len)).map fun j => D (len + j)).length) * Tryd.prog.bytesOf 26) (by rw [hd, DataW.weights, Tryd.underlying23]; exact List.mem_cons_self)
      rw [Tryd.bytes26, List.length_map, List.length_range] at this
      omega
    have each : ∀ i : Nat, ∃ x : Lt × Value, i < len → Lr x.1 ∧ Kd (fun g => g < W.heap.size) W k x.2 x.1.kids ∧ ∀ j u, (lcs x.1 x.2)[j]? = some u → W.cell? (a.add (i * 4 + j)) = some u := by
      intro i
      by_cases hi : i < len
      · have hmem : D i ∈ (List.range len).map D := List.mem_map.2 ⟨i, List.mem_range.2 hi, rfl⟩
        obtain ⟨cs', h1, h2⟩ := hel i (by omega)
        obtain ⟨l, kv, hc, hr, hk⟩ := hone _ cs' (D i) (Pl i) (by
          have := size_mem (r := (List.range (m - len)).map fun j => D (len + j)) hmem
          rw [← hd] at this
          omega) h2 (fun y hy => by
          apply hw
          rw [hd, DataW.weights, Tryd.underlying23]
          exact List.mem_cons_of_mem _ (List.mem_append_left _ (weights_all hmem hy)))
        rw [Tryd.cells26] at h1
        obtain ⟨_, hlen, hcell⟩ := World.cells?_some h1
        refine ⟨(l, kv), fun _ => ⟨hr, hk, fun j u hu => ?_⟩⟩
        have hj : j < 4 := by have := (Array.getElem?_eq_some_iff.1 hu).1; exact this
        have := hcell j hj
        rw [Go.Deep.add_add, hc, Array.getElem?_toList] at this
        rw [this]
        exact hu
      · exact ⟨(Lt.zero, .slice none 0 0), fun h => absurd h hi⟩
    obtain ⟨f, hf⟩ := Classical.axiomOfChoice each
    have hlen : ((List.range len).map fun i => (f i).1).length = len := by simp
    refine ⟨(List.range len).map fun i => (f i).1, by rw [hlen]; exact hbd, some a, cap, by rw [hlen], fun h0 => ?_⟩
    rw [hlen] at h0
    have hc0 := (hf 0 h0).2.2 0 _ rfl
    have e0 : a.add (0 * 4 + 0) = a := by simp [Addr.add]
    rw [e0] at hc0
    obtain ⟨ha, hlt⟩ := plain_of_cell hc0
    refine ⟨a.block, a.off, by rw [← ha], hlt, fun i hi => ?_⟩
    have hi' : i < len := by rw [hlen] at hi; exact hi
    have hg : ((List.range len).map fun i => (f i).1)[i] = (f i).1 := by simp
    rw [hg]
    refine ⟨(f i).2, fun j u hu => ?_, (hf i hi').1, (hf i hi').2.1⟩
    have := (hf i hi').2.2 j u hu
    rw [ha, Addr.add_mid] at this
    rw [Nat.add_assoc]
    exact this
set_option maxRecDepth 100000 in
/-- one lock that came in -/
theorem lock_of {H : Type} {enc : TypeId × Value → H} {W : World} {sp : Nat → Bool} {held : Bool} : ∀ (k n : Nat) (cs : List Value) (d : DataW H) (p : List MemPlace), SizeOf.sizeOf d ≤ k → DataW.trod enc Tryd.prog W 0 sp held n 26 cs = some (d, p) → (∀ x ∈ d.weights Tryd.prog 26, x ≤ reachBytes) → ∃ l kv, cs = (lcs l kv).toList ∧ Lr l ∧ Kd (fun g => g < W.heap.size) W k kv l.kids := by
  intro k
  induction k with
  | zero =>
    intro n cs d p hs
    cases d <;> simp at hs
  | succ k ih =>
    intro n cs d p hs h hw
    obtain ⟨xs, _, _, hx, hlen, hxl, hfl⟩ := DataW.trod_struct Tryd.underlying26 h
    rw [Tryd.cells26] at hlen
    match xs, hxl, cs, hlen with
    | [y0, y1, y2, y3], _, [c0, c1, c2, c3], _ =>
      have g0 := hfl 0 _ rfl
      have g1 := hfl 1 _ rfl
      have g2 := hfl 2 _ rfl
      have g3 := hfl 3 _ rfl
      simp [Tryd.cells5, Tryd.cells22, Tryd.cells3, Tryd.cells23] at g0 g1 g2 g3
      have hd : d = .agg [y0.1, y1.1, y2.1, y3.1] := (Prod.mk.inj hx).1
      have hw1 : ∀ x, (x ∈ y1.1.weights Tryd.prog 22 ∨ x ∈ y3.1.weights Tryd.prog 23) → x ≤ reachBytes := fun x hx => by
        apply hw
        rw [hd, DataW.weights, Tryd.underlying26]
        simp only [List.map_cons, DataW.weightsEach, List.mem_append]
        rcases hx with h | h
        · exact Or.inr (Or.inl h)
        · exact Or.inr (Or.inr (Or.inr (Or.inl h)))
      obtain ⟨z0, a0, _, b0⟩ := DataW.trod_int Tryd.underlying5 g0
      obtain ⟨t, e1, l1⟩ := text_of g1 (fun x hx => hw1 x (Or.inl hx))
      obtain ⟨z2, a2, _, b2⟩ := DataW.trod_int Tryd.underlying3 g2
      obtain ⟨ks, hk⟩ := locks_by (k := k) (fun n cs d p a b c => ih n cs d p a b c) (d := y3.1) (p := y3.2) (by
        have e : SizeOf.sizeOf d = SizeOf.sizeOf (DataW.agg [y0.1, y1.1, y2.1, y3.1]) := by rw [hd]
        simp at e
        omega) g3 (fun x hx => hw1 x (Or.inr hx))
      have r0 := bounds_u8 b0
      have r2 := bounds_i64 b2
      have f0 : c0 = .int .u8 z0 := by simpa using a0
      have f2 : c2 = .int .i64 z2 := by simpa using a2
      refine ⟨.mk z0.toNat t z2 ks, c3, ?_, ⟨by show z0.toNat < 256; omega, l1, by show _ ≤ z2 ∧ z2 < _; omega⟩, hk⟩
      show [c0, c1, c2, c3] = [.int .u8 ((z0.toNat : Nat) : Int), St t, .int .i64 z2, c3]
      rw [f0, e1, f2, show ((z0.toNat : Nat) : Int) = z0 by omega]
/-- the terms that came in -/
theorem terms_of {H : Type} {enc : TypeId × Value → H} {W : World} {sp : Nat → Bool} {held : Bool} {n : Nat} {v : Value} {d : DataW H} {p : List MemPlace} (h : DataW.trod enc Tryd.prog W 0 sp held n 41 [v] = some (d, p)) (hw : ∀ x ∈ d.weights Tryd.prog 41, x ≤ reachBytes) :
    ∃ (a : Option Addr) (cap : Nat) (ks : List Bs), v = .slice a ks.length cap ∧ Texts W (.slice a ks.length cap) ks ∧ ks.length ≤ 140737488355328 ∧ ∀ t ∈ ks, t.length ≤ 140737488355328 := by
  rcases Go.Deep.open_slice1 Tryd.underlying41 Tryd.cells22 h with ⟨hcs, _⟩ | ⟨a, len, cap, m, _, V, D, Pl, hcs, _, hl, hm, hmm, hx, hel⟩
  · exact ⟨none, 0, [], by simpa using hcs, texts_nil W, by simp, fun t ht => by cases ht⟩
  · have hlm : len ≤ m := by rw [hmm]; split <;> omega
    have hd : d = .slice ((List.range len).map D) ((List.range (m - len)).map fun j => D (len + j)) := (Prod.mk.inj hx).1
    have hwi : ∀ i, i < len → ∀ x ∈ (D i).weights Tryd.prog 22, x ≤ reachBytes := by
      intro i hi x hxm
      apply hw
      rw [hd, DataW.weights, Tryd.underlying41]
      refine List.mem_cons_of_mem _ (List.mem_append_left _ (weights_all (d := D i) ?_ hxm))
      exact List.mem_map.2 ⟨i, List.mem_range.2 hi, rfl⟩
    have hbd : len ≤ 140737488355328 := by
      apply reach_le
      have := hw ((((List.range len).map D).length + ((List.range (m - len)).map fun j => D (len + j)).length) * Tryd.prog.bytesOf 22) (by rw [hd, DataW.weights, Tryd.underlying41]; exact List.mem_cons_self)
      rw [Tryd.bytes22, List.length_map, List.length_range] at this
      omega
    have each : ∀ i : Nat, ∃ c : Bs, i < len → c.length ≤ 140737488355328 ∧ V i = St c := by
      intro i
      by_cases hi : i < len
      · obtain ⟨c, hc, hl⟩ := text_of (hel i (by omega)).2 (hwi i hi)
        exact ⟨c, fun _ => ⟨hl, hc⟩⟩
      · exact ⟨[], fun h => absurd h hi⟩
    obtain ⟨f, hf⟩ := Classical.axiomOfChoice each
    have hlen : ((List.range len).map f).length = len := by simp
    have hg : ∀ i (h : i < ((List.range len).map f).length), ((List.range len).map f)[i] = f i := by
      intro i hi; simp
    refine ⟨some a, cap, (List.range len).map f, by rw [hlen]; simpa using hcs, ⟨_, _, rfl, fun h0 => ?_⟩, by rw [hlen]; exact hbd, fun t ht => ?_⟩
    · have h0' : 0 < len := by
        apply Nat.pos_of_ne_zero; intro e; apply h0; rw [e]; rfl
      have hc0 := (hel 0 (by omega)).1
      have e0 : a.add 0 = a := by simp [Addr.add]
      rw [e0] at hc0
      obtain ⟨ha, hlt⟩ := plain_of_cell hc0
      refine ⟨a.block, a.off, by rw [← ha], hlt, fun i hi => ?_⟩
      have hi' : i < len := by rw [hlen] at hi; exact hi
      have hc := (hel i (by omega)).1
      rw [ha, add_plain] at hc
      rw [hc, (hf i hi').2, hg i hi]
    · obtain ⟨i, hi, rfl⟩ := List.mem_map.1 ht
      exact (hf i (List.mem_range.1 hi)).1
set_option maxRecDepth 100000 in
theorem text_in {H : Type} {enc : TypeId × Value → H} {W : World} {base : Nat} {v : Value} {d : DataW H} {p : List MemPlace} (hv : Value.okWide Tryd.prog W .any base 22 v) (h : DataW.Trod enc Tryd.prog W 0 (fun _ => true) true 22 v d p) (hw : ∀ x ∈ d.weights Tryd.prog 22, x ≤ reachBytes) : ∃ l : Bs, v = St l ∧ l.length ≤ 140737488355328 := by
  obtain ⟨fuel, hf⟩ := h
  obtain ⟨s, rfl⟩ := okWide_string Tryd.underlying22 hv
  exact text_of (by simpa [Value.cells] using hf) hw
set_option maxRecDepth 100000 in
theorem locks_in {H : Type} {enc : TypeId × Value → H} {W : World} {base : Nat} {v : Value} {d : DataW H} {p : List MemPlace} (hv : Value.okWide Tryd.prog W .any base 23 v) (h : DataW.Trod enc Tryd.prog W 0 (fun _ => true) true 23 v d p) (hw : ∀ x ∈ d.weights Tryd.prog 23, x ≤ reachBytes) : ∃ (k : Nat) (ks : List Lt), Kd (fun g => g < W.heap.size) W k v ks := by
  obtain ⟨fuel, hf⟩ := h
  obtain ⟨a0, len, cap, rfl⟩ := okWide_slice Tryd.underlying23 hv
  obtain ⟨ks, hk⟩ := locks_by (k := SizeOf.sizeOf d) (fun n cs e q a b c => lock_of (SizeOf.sizeOf d) n cs e q a b c) (Nat.le_succ _) (by simpa [Value.cells] using hf) hw
  exact ⟨_, ks, hk⟩
set_option maxRecDepth 100000 in
theorem lock_in {H : Type} {enc : TypeId × Value → H} {W : World} {base : Nat} {v : Value} {d : DataW H} {p : List MemPlace} (hv : Value.okWide Tryd.prog W .any base 26 v) (h : DataW.Trod enc Tryd.prog W 0 (fun _ => true) true 26 v d p) (hw : ∀ x ∈ d.weights Tryd.prog 26, x ≤ reachBytes) : ∃ (k : Nat) (l : Lt) (kv : Value), v = .agg (lcs l kv) ∧ Lr l ∧ Kd (fun g => g < W.heap.size) W k kv l.kids := by
  obtain ⟨fuel, hf⟩ := h
  obtain ⟨vs, rfl, _⟩ := okWide_struct Tryd.underlying26 hv
  obtain ⟨l, kv, hc, hr, hk⟩ := lock_of (SizeOf.sizeOf d) fuel _ d p (Nat.le_refl _) hf hw
  refine ⟨_, l, kv, ?_, hr, hk⟩
  have hc' : vs.toList = (lcs l kv).toList := by simpa [Value.cells] using hc
  rw [Array.toList_inj.1 hc']
set_option maxRecDepth 100000 in
/-- a witness that came in -/
theorem wit_in {H : Type} {enc : TypeId × Value → H} {W : World} {base : Nat} {v : Value} {d : DataW H} {p : List MemPlace} (hv : Value.okWide Tryd.prog W .any base 43 v) (h : DataW.Trod enc Tryd.prog W 0 (fun _ => true) true 43 v d p) (hw : ∀ x ∈ d.weights Tryd.prog 43, x ≤ reachBytes) :
    ∃ (sa : Option Addr) (sc : Nat) (sg : List Bs) (pa : Option Addr) (pc : Nat) (pr : List Bs), v = .agg #[.slice sa sg.length sc, .slice pa pr.length pc] ∧ Texts W (.slice sa sg.length sc) sg ∧ Texts W (.slice pa pr.length pc) pr ∧ sg.length ≤ 140737488355328 ∧ pr.length ≤ 140737488355328 ∧ (∀ t ∈ sg, t.length ≤ 140737488355328) ∧ ∀ t ∈ pr, t.length ≤ 140737488355328 := by
  obtain ⟨fuel, hf⟩ := h
  obtain ⟨vs, rfl, hvs⟩ := okWide_struct Tryd.underlying43 hv
  rw [Tryd.cells43] at hvs
  obtain ⟨c0, c1, rfl⟩ : ∃ c0 c1, vs = #[c0, c1] := by
    match vs, hvs with
    | ⟨[c0, c1]⟩, _ => exact ⟨c0, c1, rfl⟩
  obtain ⟨xs, _, _, hx, _, hxl, hfl⟩ := DataW.trod_struct Tryd.underlying43 hf
  match xs, hxl with
  | [y0, y1], _ =>
    have g0 := hfl 0 _ rfl
    have g1 := hfl 1 _ rfl
    simp [Value.cells, Tryd.cells41] at g0 g1
    have hd : d = .agg [y0.1, y1.1] := (Prod.mk.inj hx).1
    have hw1 : ∀ x, (x ∈ y0.1.weights Tryd.prog 41 ∨ x ∈ y1.1.weights Tryd.prog 41) → x ≤ reachBytes := fun x hx => by
      apply hw
      rw [hd, DataW.weights, Tryd.underlying43]
      simp only [List.map_cons, DataW.weightsEach, List.mem_append]
      rcases hx with h | h
      · exact Or.inl h
      · exact Or.inr (Or.inl h)
    obtain ⟨sa, sc, sg, rfl, t1, l1, m1⟩ := terms_of g0 (fun x hx => hw1 x (Or.inl hx))
    obtain ⟨pa, pc, pr, rfl, t2, l2, m2⟩ := terms_of g1 (fun x hx => hw1 x (Or.inr hx))
    exact ⟨sa, sc, sg, pa, pc, pr, rfl, t1, t2, l1, l2, m1, m2⟩
/-- the listed variables -/
def laid3 : List (String × DataW Unit) := Rows.lockNeedsRow.laid
set_option maxRecDepth 100000 in
theorem door_met (os : Os) (args : Array Value) : laidMetH Tryd.prog laid3 ((World.doorLaid Tryd.prog 400 os).forCall (fun _ _ => 0) ⟨#[], args, []⟩).memory :=
  laidMetH_of_parts3 (fuel := 8) (laidMet_of_run' 8 (by kernel_rfl) (by kernel_rfl)) (by kernel_rfl) (by kernel_rfl)
end Go.Proofs.YtdllpklecdmghaaDoor

/- The table of powers as the program's text lays it. -/
namespace Go.Proofs.YtdllpklecdmghaaDoor
open Go.ChangeShapes Go.WideShapes Go.ChangeAt Go.RowKit

theorem Tryd.cells92 : Tryd.prog.cellsOf 92 = 1 := by kernel_rfl
theorem Tryd.cells106 : Tryd.prog.cellsOf 106 = 20 := by kernel_rfl
theorem Tryd.gPow : Tryd.prog.globalNamed "internal/strconv.uint64pow10" = some 1 := by kernel_rfl
theorem Tryd.gPowType : (Tryd.prog.globals[1]?).map (·.type) = some 106 := by kernel_rfl
theorem pw_of_laid {W : World} (h : laidMetH Tryd.prog laid3 W) : Pw W := by
  have h1 : laidMet Tryd.prog laid3 W := h
  have h2 : laidMet Tryd.prog (("internal/strconv.uint64pow10", Lib.tabData .u64 Lib.pow10Tab) :: []) W := (h1.tail).tail
  exact Lib.tabIs_of_head Tryd.gPow Tryd.gPowType Tryd.underlying106 Tryd.underlying92 Tryd.cells92 Tryd.cells106 h2
end Go.Proofs.YtdllpklecdmghaaDoor
