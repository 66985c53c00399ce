/- Two pairs of stores. -/
import Derived.Test.YtmdiggbbgcjcnaaDoorSdS
import Derived.Test.YtmdiggbbgcjcnaaDoorSdT
namespace Go.Proofs.YtmdiggbbgcjcnaaDoor
open Go.RowKit

/-- the pair that is laid aside: its store, the document's, what this one's row is, and what was heard -/
structure Ot where
  g : Nat
  h : Nat
  v : Value
  H : List Bs
def lp : Option Ot → Value
  | none => .pointer none
  | some o => .pointer (some ⟨o.g, 0, none⟩)
def kp' : Option Ot → Value
  | none => .pointer none
  | some o => .pointer (some ⟨o.h, 0, none⟩)
/-- the pair laid aside lies there, apart from the other one -/
def Oth (w : World) (B g h : Nat) (v : Value) (n : Nat) : Option Ot → Prop
  | none => True
  | some o => StH w o.g o.H ∧ Rst w B o.h o.v o.H ∧ B ≤ o.g ∧ B ≤ o.h ∧ g ≠ o.g ∧ h ≠ o.h ∧ o.H.length ≤ n ∧ ∀ k, v.ownBlock = some k → o.v.ownBlock ≠ some k
/-- both pairs -/
structure Sta (w0 w : World) (g h : Nat) (v : Value) (Hx Hy : List Bs) (n : Nat) (o : Option Ot) : Prop where
  bel : Below w0.heap.size w0 w
  st : StH w g Hx
  rs : Rst w w0.heap.size h v Hy
  bg : w0.heap.size ≤ g
  bh : w0.heap.size ≤ h
  oth : Oth w w0.heap.size g h v n o

theorem StH.typed {w : World} {g : Nat} {H : List Bs} (h : StH w g H) : ∃ cs, w.heap[g]? = some (.cells cs 52 (0, 0)) := by obtain ⟨R, _, h2⟩ := h; exact ⟨_, h2⟩
theorem typed_ne {w : World} {g k : Nat} {cs ds : Array Value} {t u : TypeId} (h1 : w.heap[g]? = some (.cells cs t (0, 0))) (h2 : w.heap[k]? = some (.cells ds u (0, 0))) (hn : t ≠ u) : g ≠ k := by
  rintro rfl
  rw [h1] at h2
  simp at h2
  exact hn h2.2
/-- what isn't a store stays where one is written -/
theorem blk_frx {w w' : World} {g k : Nat} {H : List Bs} {cs : Array Value} {t : TypeId} (hs : StH w g H) (hk : w.heap[k]? = some (.cells cs t (0, 0))) (ht : t ≠ 52) (f : Frx w.heap.size g w w') : w'.heap[k]? = some (.cells cs t (0, 0)) := by
  obtain ⟨ds, hg⟩ := hs.typed
  rw [f.block k (lt_of_block hk) (typed_ne hk hg ht)]; exact hk
theorem blk_frR {w w' : World} {B h k : Nat} {v v' : Value} {H : List Bs} {cs : Array Value} {t : TypeId} (hs : Rst w B h v H) (hk : w.heap[k]? = some (.cells cs t (0, 0))) (ht : t ≠ 34) (hu : t ≠ 22) (f : FrR h v v' w w') : w'.heap[k]? = some (.cells cs t (0, 0)) := by
  rw [f.block k (lt_of_block hk) (typed_ne hk hs.blk ht) (own_ne hs.own hk hu)]; exact hk
theorem sth_frx {w w' : World} {g k : Nat} {K : List Bs} (hk : StH w k K) (hne : k ≠ g) (f : Frx w.heap.size g w w') : StH w' k K := hk.same (f.block k hk.lt hne)
theorem sth_frR {w w' : World} {B h k : Nat} {v v' : Value} {H K : List Bs} (hs : Rst w B h v H) (hk : StH w k K) (f : FrR h v v' w w') : StH w' k K := by
  obtain ⟨cs, hb⟩ := hk.typed
  exact hk.same (f.block k hk.lt (typed_ne hb hs.blk (by decide)) (own_ne hs.own hb (by decide)))
theorem rst_frx {w w' : World} {B g h : Nat} {v : Value} {H K : List Bs} (hs : StH w g K) (hr : Rst w B h v H) (f : Frx w.heap.size g w w') : Rst w' B h v H := by
  obtain ⟨cs, hb⟩ := hs.typed
  exact ⟨blk_frx hs hr.blk (by decide) f, own_frx hr.own f (own_ne hr.own hb (by decide))⟩
theorem rst_frR {w w' : World} {B h k : Nat} {v v' u : Value} {H K : List Bs} (hs : Rst w B h v H) (hr : Rst w B k u K) (hne : k ≠ h) (hv : ∀ j, v.ownBlock = some j → u.ownBlock ≠ some j) (f : FrR h v v' w w') : Rst w' B k u K := by
  refine ⟨?_, ?_⟩
  · rw [f.block k hr.lt hne (own_ne hs.own hr.blk (by decide))]; exact hr.blk
  · obtain ⟨h1, h2⟩ := hr.own
    refine ⟨h1, ?_⟩
    rcases h2 with h2 | ⟨j, cap, cur, e1, e2, e3, e4⟩
    · exact Or.inl h2
    · refine Or.inr ⟨j, cap, cur, e1, e2, ?_, e4⟩
      rw [f.block j (lt_of_block e3) (typed_ne e3 hs.blk (by decide)) (fun e => hv j e (by rw [e1]; rfl))]
      exact e3

theorem Oth.below {w w' : World} {B g h n : Nat} {v : Value} {o : Option Ot} (h1 : Oth w B g h v n o) (hb : Below w.heap.size w w') : Oth w' B g h v n o := by
  cases o with
  | none => trivial
  | some o => obtain ⟨a1, a2, a3, a4, a5, a6, a7, a8⟩ := h1; exact ⟨a1.below hb, a2.below hb, a3, a4, a5, a6, a7, a8⟩
theorem Oth.more {w : World} {B g h n m : Nat} {v : Value} {o : Option Ot} (h1 : Oth w B g h v n o) (hm : n ≤ m) : Oth w B g h v m o := by
  cases o with
  | none => trivial
  | some o => obtain ⟨a1, a2, a3, a4, a5, a6, a7, a8⟩ := h1; exact ⟨a1, a2, a3, a4, a5, a6, by omega, a8⟩
theorem Sta.below {w0 w w' : World} {g h n : Nat} {v : Value} {Hx Hy : List Bs} {o : Option Ot} (s : Sta w0 w g h v Hx Hy n o) (hb : Below w.heap.size w w') : Sta w0 w' g h v Hx Hy n o :=
  ⟨s.bel.trans (hb.mono s.bel.size), s.st.below hb, s.rs.below hb, s.bg, s.bh, s.oth.below hb⟩
theorem Sta.add {w0 w w' : World} {g h n : Nat} {v : Value} {Hx Hy Hz : List Bs} {o : Option Ot} (s : Sta w0 w g h v Hx Hy n o) (hs : StH w' g Hz) (f : Frx w.heap.size g w w') : Sta w0 w' g h v Hz Hy n o := by
  refine ⟨s.bel.trans (frx_of f s.bel.size s.bg), hs, rst_frx s.st s.rs f, s.bg, s.bh, ?_⟩
  cases o with
  | none => trivial
  | some o =>
    obtain ⟨a1, a2, a3, a4, a5, a6, a7, a8⟩ := s.oth
    exact ⟨sth_frx a1 (fun e => a5 e.symm) f, rst_frx s.st a2 f, a3, a4, a5, a6, a7, a8⟩
theorem Sta.radd {w0 w w' : World} {g h n : Nat} {v v' : Value} {Hx Hy Hz : List Bs} {o : Option Ot} (s : Sta w0 w g h v Hx Hy n o) (hs : Rst w' w0.heap.size h v' Hz) (f : FrR h v v' w w') : Sta w0 w' g h v' Hx Hz n o := by
  refine ⟨s.bel.trans (frR_of f s.bel.size s.bh s.rs.own), sth_frR s.rs s.st f, hs, s.bg, s.bh, ?_⟩
  cases o with
  | none => trivial
  | some o =>
    obtain ⟨a1, a2, a3, a4, a5, a6, a7, a8⟩ := s.oth
    refine ⟨sth_frR s.rs a1 f, rst_frR s.rs a2 (fun e => a6 e.symm) a8 f, a3, a4, a5, a6, a7, fun k hk e => ?_⟩
    rcases f.own with q | ⟨j, hj, q⟩
    · exact a8 k (by rw [← q]; exact hk) e
    · rw [q] at hk
      have e5 : j = k := by simpa using hk
      have := (a2.own.lt k e).2
      omega
theorem Sta.texts {w0 w : World} {g h n : Nat} {v : Value} {Hx Hy : List Bs} {o : Option Ot} (s : Sta w0 w g h v Hx Hy n o) : Texts w v Hy := by
  obtain ⟨a, c, rfl⟩ := s.rs.shape
  refine ⟨a, c, rfl, fun hne => ?_⟩
  have hpos := List.length_pos_iff.2 hne
  obtain ⟨k, kc, e1, hk, hc⟩ := own_text s.rs.own hpos
  have e2 : a = some ⟨k, 0, none⟩ := by injection e1
  refine ⟨k, 0, e2, hk, fun i hi => ?_⟩
  rw [Nat.zero_add, hc i hi, List.getD_eq_getElem?_getD, List.getElem?_eq_getElem hi]; rfl
/-- a copy of both is made, and they are laid aside -/
theorem Sta.copy {w0 w w' : World} {g h n g' h' : Nat} {v v' : Value} {H : List Bs} {o : Option Ot} (s : Sta w0 w g h v H H n o) (hb : Below w.heap.size w w') (hl : H.length ≤ n) (hg : StH w' g' H) (hr : Rst w' w.heap.size h' v' H) (hg' : w.heap.size ≤ g') (hh' : w.heap.size ≤ h') :
    Sta w0 w' g' h' v' H H n (some ⟨g, h, v, H⟩) := by
  have hsz := s.bel.size
  have s2 := s.below hb
  refine ⟨s2.bel, hg, ⟨hr.blk, ownsRow_base hr.own hsz⟩, by omega, by omega, s2.st, s2.rs, s.bg, s.bh, ?_, ?_, hl, fun k hk e => ?_⟩
  · have := s.st.lt; show g' ≠ g; omega
  · have := s.rs.lt; show h' ≠ h; omega
  · have h1 := (hr.own.lt k hk).1
    have h2 := (s.rs.own.lt k e).2
    omega
theorem Sta.swap {w0 w : World} {g h n : Nat} {v : Value} {H : List Bs} {o : Ot} (s : Sta w0 w g h v H H n (some o)) (hl : H.length ≤ n) : Sta w0 w o.g o.h o.v o.H o.H n (some ⟨g, h, v, H⟩) := by
  obtain ⟨a1, a2, a3, a4, a5, a6, a7, a8⟩ := s.oth
  exact ⟨s.bel, a1, a2, a3, a4, s.st, s.rs, s.bg, s.bh, fun e => a5 e.symm, fun e => a6 e.symm, hl, fun k hk e => a8 k e hk⟩
theorem addH_len (H : List Bs) (i : Int) (t : Bs) : (addH H i t).2.length ≤ H.length + 1 := by
  unfold addH
  split
  · simp
  · split
    · simp
    · split <;> simp
/-- both pairs stay where a call's own copy is written -/
theorem Sta.own {w0 w w' : World} {g h n C : Nat} {v : Value} {Hx Hy : List Bs} {o : Option Ot} {cs : Array Value} (s : Sta w0 w g h v Hx Hy n o) (hC : w0.heap.size ≤ C) (hk : w.heap[C]? = some (.cells cs 36 (0, 0))) (f : Frx w.heap.size C w w') : Sta w0 w' g h v Hx Hy n o := by
  have st : ∀ {k : Nat} {K : List Bs}, StH w k K → StH w' k K := fun hs => by
    obtain ⟨ds, hb⟩ := hs.typed
    exact hs.same (f.block _ hs.lt (typed_ne hb hk (by decide)))
  have rs : ∀ {k : Nat} {u : Value} {K : List Bs}, Rst w w0.heap.size k u K → Rst w' w0.heap.size k u K := fun hr =>
    ⟨by rw [f.block _ hr.lt (typed_ne hr.blk hk (by decide))]; exact hr.blk, own_frx hr.own f (own_ne hr.own hk (by decide))⟩
  refine ⟨s.bel.trans (frx_of f s.bel.size hC), st s.st, rs s.rs, s.bg, s.bh, ?_⟩
  cases o with
  | none => trivial
  | some o =>
    obtain ⟨a1, a2, a3, a4, a5, a6, a7, a8⟩ := s.oth
    exact ⟨st a1, rs a2, a3, a4, a5, a6, a7, a8⟩
theorem blk_set {w : World} {C : Nat} {cs : Array Value} (hk : w.heap[C]? = some (.cells cs 36 (0, 0))) (j : Nat) (u : Value) : (w.setCell ⟨C, j, none⟩ u).heap[C]? = some (.cells (cs.setIfInBounds j u) 36 (0, 0)) := by
  simp [World.setCell, Array.getElem?_modify, hk]

/-- a call's own copy, and both pairs -/
def Mid (w W : World) (g h C n : Nat) (cs : Array Value) (o : Option Ot) (Hx Hy : List Bs) : Prop := W.heap[C]? = some (.cells cs 36 (0, 0)) ∧ ∃ v, Sta w W g h v Hx Hy n o
theorem Mid.below {w W W' : World} {g h C n : Nat} {cs : Array Value} {o : Option Ot} {Hx Hy : List Bs} (m : Mid w W g h C n cs o Hx Hy) (hb : Below W.heap.size W W') : Mid w W' g h C n cs o Hx Hy := by
  obtain ⟨m1, v, m2⟩ := m
  exact ⟨(hb.block C (lt_of_block m1)).trans m1, v, m2.below hb⟩
theorem mid_add {w : World} (hp : Pw w) (hz : Tz w) {W : World} {g h C n : Nat} {cs : Array Value} {o : Option Ot} {Hx Hy : List Bs} (i : Int) (t : Bs) (m : Mid w W g h C n cs o Hx Hy) :
    Calls Tryd.prog 13 #[.pointer (some ⟨g, 0, none⟩), .int .i64 i, St t] W fun e w' => e = .returned (.int .i64 ((addH Hx i t).1 : Int)) ∧ Mid w w' g h C n cs o (addH Hx i t).2 Hy := by
  obtain ⟨m1, v, m2⟩ := m
  exact (addHA i t m2.st (hp.below m2.bel) (hz.below m2.bel)).mono (fun e w' ⟨q1, q2, q3⟩ => ⟨q1, blk_frx m2.st m1 (by decide) q3, v, m2.add q2 q3⟩)
theorem mid_radd {w W : World} {g h C n : Nat} {cs : Array Value} {o : Option Ot} {Hx Hy : List Bs} (i : Int) (t : Bs) (m : Mid w W g h C n cs o Hx Hy) (hl : Hy.length < 90) :
    Calls Tryd.prog 14 #[.pointer (some ⟨h, 0, none⟩), .int .i64 i, St t] W fun e w' => e = .returned (.int .i64 ((addH Hy i t).1 : Int)) ∧ Mid w w' g h C n cs o Hx (addH Hy i t).2 := by
  obtain ⟨m1, v, m2⟩ := m
  exact (radd_any i t m2.rs hl m2.bel.size).mono (fun e w' ⟨q1, v', q2, q3⟩ => ⟨q1, blk_frR m2.rs m1 (by decide) (by decide) q3, v', m2.radd q2 q3⟩)
end Go.Proofs.YtmdiggbbgcjcnaaDoor
