import Derived.Test.YtfnnhekjeobicaaGreatDoorLook
import Derived.Test.YtfnnhekjeobicaaGreatDoorMakesC
import Derived.Test.YtfnnhekjeobicaaGreatDoorMi
import Derived.Shelf.SlMaps.Clone
import Derived.Test.YtfnnhekjeobicaaGreatDoorMoreM
import Derived.Test.YtfnnhekjeobicaaGreatDoorFreshL
import Derived.Deep.RegionHeld3
/- A row of truth values of one's own. -/
namespace Go.Proofs.YtfnnhekjeobicaaGreatDoor
open Go.RowKit Go.Maps Go.WideElems

/-- the row holds these -/
def Kw (w : World) (base : Nat) (v : Value) (bs : List Bool) : Prop := w.ownsRow base 4 1 v bs.length (bs.map Value.bool)
theorem Kw.nil (w : World) (base : Nat) : Kw w base (.slice none 0 0) [] := World.ownsRow_nil _ _ _ _
theorem Kw.ge {w : World} {base : Nat} {v : Value} {bs : List Bool} (h : Kw w base v bs) {g : Nat} (e : v.ownBlock = some g) : base ≤ g ∧ g < w.heap.size := h.lt g e
theorem Kw.stay {w w' : World} {base : Nat} {v : Value} {bs : List Bool} (h : Kw w base v bs) (hb : ∀ i, v.ownBlock = some i → w'.heap[i]? = w.heap[i]?) : Kw w' base v bs := by
  obtain ⟨h1, h2⟩ := h
  refine ⟨h1, ?_⟩
  rcases h2 with h2 | ⟨g, cap, cur, hv, h3, h4, h5⟩
  · exact Or.inl h2
  · exact Or.inr ⟨g, cap, cur, hv, h3, (hb g (by rw [hv]; rfl)).trans h4, h5⟩
theorem Kw.below {w w' : World} {base : Nat} {v : Value} {bs : List Bool} (h : Kw w base v bs) (hb : Below w.heap.size w w') : Kw w' base v bs := h.stay fun i e => hb.block i (h.ge e).2
theorem Kw.cells {w : World} {base : Nat} {v : Value} {bs : List Bool} (h : Kw w base v bs) (h0 : 0 < bs.length) :
    ∃ g kc, v = .slice (some ⟨g, 0, none⟩) bs.length kc ∧ base ≤ g ∧ g < w.heap.size ∧ ∀ i (hi : i < bs.length), w.cell? ⟨g, i, none⟩ = some (.bool bs[i]) := by
  rcases h.2 with ⟨h1, h2⟩ | ⟨g, cap, cur, hv, hb, hg, hc⟩
  · omega
  · subst hv
    refine ⟨g, cap, rfl, hb, lt_of_block hg, fun i hi => ?_⟩
    have := World.ownsRow.cellAt (show w.ownsRow base 4 1 (.slice (some ⟨g, 0, none⟩) bs.length cap) bs.length (bs.map Value.bool) from h) i (by omega)
    rw [this, List.getElem?_map, List.getElem?_eq_getElem hi]
    rfl
theorem Kw.shape {w : World} {base : Nat} {v : Value} {bs : List Bool} (h : Kw w base v bs) : ∃ ao kc, v = .slice ao bs.length kc := by
  rcases h.2 with ⟨h1, h2⟩ | ⟨g, cap, _, h1, _⟩
  · exact ⟨_, _, by rw [h2]; exact h1⟩
  · exact ⟨_, _, h1⟩
theorem Tryz.info4 : (Tryz.prog.info? 4).map (fun i => (i.zero, i.size, i.bytes)) = some (some (.bool false), 1, 1) := by kernel_rfl
/-- one more -/
theorem append_bool (W : World) (base : Nat) (v : Value) (l : List Bool) (t : Bool) (hown : Kw W base v l) (hl : l.length < 1000000000000) (hb : base ≤ W.heap.size) :
    ∃ ao kc w', (∀ ty, (Builtin.append_ #[27, 27] ty #[v, .slice (some ⟨W.heap.size, 0, none⟩) 1 1]).run Tryz.prog (W.alloc (.cells #[.bool t] 4)) = .ok (.slice ao (l.length + 1) kc) w') ∧ Kw w' base (.slice ao (l.length + 1) kc) (l ++ [t]) ∧ W.grownBy w' v.ownBlock := by
  obtain ⟨i0, hi, hz0, hz1, hz2⟩ := info_parts Tryz.info4
  obtain ⟨v', w', h1, h2, h3, _⟩ := run_append_own (P := Tryz.prog) (W.alloc (.cells #[.bool t] 4)) base 27 27 4 i0 _ 1 1 Tryz.underlying27 hi hz0 hz1 hz2 rfl (by decide) v l.length (l.map Value.bool) (hown.alloc _) ⟨W.heap.size, 0, none⟩ 1 1 [.bool t] rfl (cell_one_new W _ _) (fun u hu => by simp at hu; subst hu; rfl) (by unfold maxLen; omega) (by omega) (by simp; omega)
  have h4 : ∃ ao kc, v' = .slice ao (l.length + 1) kc := by
    rcases h2.2 with ⟨_, e⟩ | ⟨g, cap, _, e, _⟩
    · omega
    · exact ⟨_, _, e⟩
  obtain ⟨ao, kc, rfl⟩ := h4
  refine ⟨ao, kc, w', fun ty => h1, by unfold Kw; simpa using h2, ⟨h3.os, h3.tape, h3.output, ?_, fun k hk hne => ?_⟩⟩
  · have := h3.size; simp at this; omega
  · rw [h3.block k (by simp; omega) hne]; exact Below.heap_alloc W _ k hk
end Go.Proofs.YtfnnhekjeobicaaGreatDoor

/- A mind is copied. -/
namespace Go.Proofs.YtfnnhekjeobicaaGreatDoor
open Go.RowKit Go.Maps Go.WideElems

set_option maxRecDepth 100000 in
set_option maxHeartbeats 2000000 in
theorem clone_some (b : Nat) (es : Array MapEntry) (clock : Nat) (w : World) (hb : w.heap[b]? = some (.map es clock)) :
    Calls Tryz.prog 27 #[.map (some b)] w fun e w' => e = .returned (.map (some w.heap.size)) ∧ w' = w.alloc (.map es clock) := by
  have hq := fun w => run_eql_map_nil_sl (P := Tryz.prog) w 48 _ _ (some b) Tryz.underlying48
  go_enter Tryz.func27, Tryz.ntmps27
  go_wp2
  rw [run_callFunc_extern Tryz.func52 (by kernel_rfl) (by kernel_rfl) (by kernel_rfl) (e := Extern.MapsClone.clone) (by kernel_rfl), run_maps_clone_sl w 48 hb]
  simp only [Result.andThen]
  rw [Oper.upon_value]
  go_wp2
  rw [run_typeAssert_map_sl _ 48 20 _ _ _ Tryz.underlying48]
  simp only [Result.andThen]
  rw [Oper.upon_value]
  go_wp2
  go_ret
  exact ⟨rfl, rfl⟩
set_option maxRecDepth 100000 in
set_option maxHeartbeats 2000000 in
theorem clone_none (w : World) : Calls Tryz.prog 27 #[.map none] w fun e w' => e = .returned (.map none) ∧ w' = w := by
  have hq := fun w => run_eql_map_nil_sl (P := Tryz.prog) w 48 _ _ none Tryz.underlying48
  go_enter Tryz.func27, Tryz.ntmps27
  go_wp2
  go_ret
  exact ⟨rfl, rfl⟩
/-- what a copy leaves: another mind with the same notes, in memory of its own -/
def Cp (w : World) (N : NM) (p' : Nat) (w' : World) : Prop := ∃ o', Rm w' p' o' N ∧ w.heap.size ≤ p' ∧ (∀ b, o' = some b → w.heap.size ≤ b) ∧ Below w.heap.size w w'
set_option maxRecDepth 100000 in
set_option maxHeartbeats 2000000 in
theorem copy_any (w : World) (p : Nat) (o : Option Nat) (N : NM) (h : Rm w p o N) :
    Calls Tryz.prog 10 #[.pointer (some ⟨p, 0, none⟩)] w fun e w' => ∃ p', e = .returned (.pointer (some ⟨p', 0, none⟩)) ∧ Cp w N p' w' := by
  have hc := h.cell
  cases o with
  | none =>
    have HC := hid (clone_none w)
    have HR := hid h
    clear h
    go_enter Tryz.func10, Tryz.ntmps10
    go_wp2_with (first | (go_at_call 27; refine HC.out.mono ?_; rintro e w1 ⟨rfl, hw1⟩; obtain rfl := hw1.symm))
    go_ret
    refine ⟨w.heap.size, rfl, none, ⟨heap_alloc_new w _, HR.out.om⟩, Nat.le_refl _, fun b e => (by cases e), (Below.refl _ _).alloc (Nat.le_refl _) _⟩
  | some b =>
    obtain ⟨n, D, ⟨es, clock, g1, g2⟩, h2, h3⟩ := (show Om w b N from h.om).own
    have HC := hid (clone_some b es clock w g1)
    have HO : Hid (Om (w.alloc (.map es clock)) w.heap.size N) := hid ⟨n, D, ⟨es, clock, heap_alloc_new w _, g2⟩, h2, h3⟩
    clear h g1 g2 h2 h3
    go_enter Tryz.func10, Tryz.ntmps10
    go_wp2_with (first | (go_at_call 27; refine HC.out.mono ?_; rintro e w1 ⟨rfl, hw1⟩; have HO1 : Hid (Om w1 w.heap.size N) := (by rw [hw1]; exact HO); have HB1 : Hid (Below w.heap.size w w1) := (by apply hid; rw [hw1]; exact (Below.refl _ _).alloc (Nat.le_refl _) _); clear hw1))
    go_ret
    refine ⟨w1.heap.size, rfl, some w.heap.size, ⟨heap_alloc_new w1 _, ?_⟩, HB1.out.size, fun b e => (by cases e; exact Nat.le_refl _), HB1.out.alloc HB1.out.size _⟩
    exact HO1.out.same (Below.heap_alloc w1 _ _ HO1.out.lt)
/-- a copy of a mind that has heard l -/
theorem Mi.copy {U l : List Bs} {w w' : World} {p p' : Nat} {o : Option Nat} {N : NM} (h : Mi U l w p o N) (hc : Cp w N p' w') : ∃ o', Mi U l w' p' o' N ∧ w.heap.size ≤ p' ∧ (∀ b, o' = some b → w.heap.size ≤ b) ∧ Below w.heap.size w w' := by
  obtain ⟨o', h1, h2, h3, h4⟩ := hc
  exact ⟨o', ⟨h1, h.ok, h.mind, h.g0.below h4, h.loc⟩, h2, h3, h4⟩
end Go.Proofs.YtfnnhekjeobicaaGreatDoor

/- law03.makes: a mind knows all that is made of two that it knows. -/
namespace Go.Proofs.YtfnnhekjeobicaaGreatDoor
open Go.RowKit Go.Maps Go.WideElems

theorem lawcells (w : World) (L : List (Bs × Nat)) (W : World) (hb : Below ((w.alloc (.cells (L.map fun r => St r.1).toArray 29)).alloc (.cells (L.map fun r => Value.int .i64 (r.2 : Int)).toArray 31)).heap.size ((w.alloc (.cells (L.map fun r => St r.1).toArray 29)).alloc (.cells (L.map fun r => Value.int .i64 (r.2 : Int)).toArray 31)) W) (i : Nat) (h : i < L.length) :
    W.cell? ⟨w.heap.size, i, none⟩ = some (St L[i].1) ∧ W.cell? ⟨w.heap.size + 1, i, none⟩ = some (.int .i64 (L[i].2 : Int)) := by
  have e1 : (w.alloc (.cells (L.map fun r => St r.1).toArray 29)).heap.size = w.heap.size + 1 := by simp
  have h1 := heap_alloc_new w (.cells (L.map fun r => St r.1).toArray 29)
  have h2 := heap_alloc_new (w.alloc (.cells (L.map fun r => St r.1).toArray 29)) (.cells (L.map fun r => Value.int .i64 (r.2 : Int)).toArray 31)
  rw [e1] at h2
  have h3 := (Below.heap_alloc (w.alloc (.cells (L.map fun r => St r.1).toArray 29)) (.cells (L.map fun r => Value.int .i64 (r.2 : Int)).toArray 31) w.heap.size (by rw [e1]; omega)).trans h1
  have h4 := (hb.block w.heap.size (by simp; omega)).trans h3
  have h5 := (hb.block (w.heap.size + 1) (by simp)).trans h2
  refine ⟨?_, ?_⟩
  · rw [cell_of_heap h4]; simp [h]
  · rw [cell_of_heap h5]; simp [h]
set_option maxRecDepth 100000 in
set_option maxHeartbeats 8000000 in
theorem lawmakes_any (w : World) (hP : Pw w) (p : Nat) (o : Option Nat) (N : NM) (hR : Rm w p o N) (a b : Bs) (hm : ∀ r ∈ madeL a b, r.2 = 0 → mkF N r.1 = true ∧ r.1.length ≤ 16384) (hu : (unboxRes a b).2 = true → mkF N (unboxRes a b).1 = true ∧ (unboxRes a b).1.length ≤ 16384) :
    Calls Tryz.prog 12 #[.pointer (some ⟨p, 0, none⟩), St a, St b] w fun e w' => e = .returned (.bool true) ∧ Below w.heap.size w w' := by
  have H0 := hid (fun W => hash_any a W)
  have H1 := hid (fun W => sign_any a b W)
  have H2 := hid (fun W => box_any a b W)
  have H3 := hid (fun W => child_any a b W)
  have H4 := hid (fun W => join_any a b W)
  have H5 := hid (fun W => bind_any a b W)
  have H6 := hid (fun W => pubs_any a W)
  have H7 := hid (fun W => joints_any a b W)
  have H8 := hid (fun W => bounds_any a b W)
  have H9 := hid (fun W => tagree_any a b W)
  have H10 := hid (fun W (hb : Below w.heap.size w W) => mktuple_any [a, b] _ (W.alloc (.cells #[St a, St b] 29)) (texts_two W a b) (by simp) (hP.below (hb.alloc hb.size _)))
  have H11 := hid (fun W => unbox_any a b W)
  have HK := hid (fun W (hb : Below w.heap.size w W) t (ht : t.length ≤ 100000) => knows_any W p o N t (hR.below hb) ht)
  have HM := hid hm
  have HU := hid hu
  clear hm hu hP hR
  unfold madeL at HM
  generalize bRes 72 [] [a] = r0 at H0 HM
  generalize bRes 83 [] [a, b] = r1 at H1 HM
  generalize bRes 66 [] [a, b] = r2 at H2 HM
  generalize bRes 68 [] [a, b] = r3 at H3 HM
  generalize bRes 86 [] [a, b] = r4 at H4 HM
  generalize bRes 75 [] [a, b] = r5 at H5 HM
  generalize pubRes a = r6 at H6 HM
  generalize jointRes a b = r7 at H7 HM
  generalize boundRes a b = r8 at H8 HM
  generalize agreeRes a b = r9 at H9 HM
  generalize tupRes [a, b] = r10 at H10 HM
  generalize unboxRes a b = ru at H11 HU
  go_enter Tryz.func12, Tryz.ntmps12
  go_wp2_with fail
  refine (H0.out _).mono ?_
  rintro e w0 ⟨rfl, hb0⟩
  have HB0 := hid hb0
  clear hb0
  go_wp2_with fail
  refine (H1.out _).mono ?_
  rintro e w1 ⟨rfl, hb1⟩
  have HB1 := hid (two_below HB0.out hb1)
  clear hb1
  go_wp2_with fail
  refine (H2.out _).mono ?_
  rintro e w2 ⟨rfl, hb2⟩
  have HB2 := hid (two_below HB1.out hb2)
  clear hb2
  go_wp2_with fail
  refine (H3.out _).mono ?_
  rintro e w3 ⟨rfl, hb3⟩
  have HB3 := hid (two_below HB2.out hb3)
  clear hb3
  go_wp2_with fail
  refine (H4.out _).mono ?_
  rintro e w4 ⟨rfl, hb4⟩
  have HB4 := hid (two_below HB3.out hb4)
  clear hb4
  go_wp2_with fail
  refine (H5.out _).mono ?_
  rintro e w5 ⟨rfl, hb5⟩
  have HB5 := hid (two_below HB4.out hb5)
  clear hb5
  go_wp2_with fail
  refine (H6.out _).mono ?_
  rintro e w6 ⟨rfl, hb6⟩
  have HB6 := hid (two_below HB5.out hb6)
  clear hb6
  go_wp2_with fail
  refine (H7.out _).mono ?_
  rintro e w7 ⟨rfl, hb7⟩
  have HB7 := hid (two_below HB6.out hb7)
  clear hb7
  go_wp2_with fail
  refine (H8.out _).mono ?_
  rintro e w8 ⟨rfl, hb8⟩
  have HB8 := hid (two_below HB7.out hb8)
  clear hb8
  go_wp2_with fail
  refine (H9.out _).mono ?_
  rintro e w9 ⟨rfl, hb9⟩
  have HB9 := hid (two_below HB8.out hb9)
  clear hb9
  go_wp2_with fail
  refine (H10.out w9 HB9.out).mono ?_
  rintro e w10 ⟨rfl, hb10⟩
  have HB10 := hid (two_below (HB9.out.alloc HB9.out.size _) hb10)
  clear hb10 HB0 HB1 HB2 HB3 HB4 HB5 HB6 HB7 HB8 H0 H1 H2 H3 H4 H5 H6 H7 H8 H9 H10
  go_wp2_with fail
  have HCT := hid (fun W hb i h => lawcells w10 [r0, r1, r2, r3, r4, r5, r6, r7, r8, r9, r10] W hb i h)
  have HB11 : Hid (Below w.heap.size w ((w10.alloc (.cells ([r0, r1, r2, r3, r4, r5, r6, r7, r8, r9, r10].map fun r => St r.1).toArray 29)).alloc (.cells ([r0, r1, r2, r3, r4, r5, r6, r7, r8, r9, r10].map fun r => Value.int .i64 (r.2 : Int)).toArray 31))) := hid ((HB10.out.alloc HB10.out.size _).alloc (HB10.out.alloc HB10.out.size _).size _)
  simp only [List.map_cons, List.map_nil] at HCT HB11
  generalize hW0 : World.alloc (World.alloc w10 _) _ = W0 at HCT HB11 ⊢
  clear hW0
  obtain ⟨L, hL⟩ : ∃ L, L = [r0, r1, r2, r3, r4, r5, r6, r7, r8, r9, r10] := ⟨_, rfl⟩
  rw [← hL] at HCT HM
  have HLL : Hid (L.length = 11) := hid (by rw [hL]; rfl)
  clear hL
  go_loopg [30, 31, 124] 11 (fun gg _v30 _v31 v124 wr => ∃ i : Nat, i ≤ 11 ∧ gg = 11 - i ∧ v124 = .int .i64 (i : Int) ∧ Below W0.heap.size W0 wr)
  case atStart => exact ⟨0, by omega, rfl, rfl, Below.refl _ _⟩
  case round =>
    obtain ⟨i, hi, rfl, rfl, hbel⟩ := hrel
    have HBE := hid hbel
    clear hbel
    by_cases hil : i < 11
    · have hi1 : (i : Int) < 11 := by omega
      have hik : i < L.length := by rw [HLL.out]; exact hil
      obtain ⟨hc1, hc2⟩ := HCT.out wr HBE.out i hik
      have HMI := hid (HM.out L[i] (List.getElem_mem hik))
      generalize L[i] = r at hc1 hc2 HMI
      obtain ⟨t, n⟩ := r
      simp only [] at hc1 hc2 HMI
      by_cases hn : n = 0
      · subst hn
        have HKN := hid (HK.out wr (two_below HB11.out HBE.out) t (by have := (HMI.out rfl).2; omega))
        rw [(HMI.out rfl).1] at HKN
        go_wp2_with (first | (go_at_call 9; refine HKN.out.mono ?_; rintro e w12 ⟨rfl, hb12⟩; have HB12 := hid (two_below HBE.out hb12); clear hb12))
        go_roundg (11 - (i + 1))
        case measure => omega
        case rel => exact ⟨i + 1, by omega, rfl, by go_num, HB12.out⟩
      · have hn1 : ¬ (n : Int) = 0 := by omega
        have hn2 : ((n : Int) == 0) = false := by simpa using hn1
        go_wp2_with fail
        go_roundg (11 - (i + 1))
        case measure => omega
        case rel => exact ⟨i + 1, by omega, rfl, by go_num, HBE.out⟩
    · have hi1 : ¬ (i : Int) < 11 := by omega
      obtain ⟨t, yes⟩ := ru
      simp only [] at HU H11
      go_wp2_with fail
      refine (H11.out _).mono ?_
      rintro e w13 ⟨rfl, hb13⟩
      have HB13 := hid (two_below HBE.out hb13)
      clear hb13
      cases yes
      · go_wp2_with fail
        go_ret
        exact ⟨rfl, two_below HB11.out HB13.out⟩
      · have HKN := hid (HK.out w13 (two_below HB11.out HB13.out) t (by have := (HU.out rfl).2; omega))
        rw [(HU.out rfl).1] at HKN
        go_wp2_with (first | (go_at_call 9; refine HKN.out.mono ?_; rintro e w14 ⟨rfl, hb14⟩; have HB14 := hid (two_below HB13.out hb14); clear hb14))
        go_ret
        exact ⟨rfl, two_below HB11.out HB14.out⟩
end Go.Proofs.YtfnnhekjeobicaaGreatDoor

/- The law DeduceMore. -/
namespace Go.Proofs.YtfnnhekjeobicaaGreatDoor
open Go.RowKit Go.Maps Go.WideElems

/-- the copy: it has heard what the first one had, and so many more that this one can make -/
structure Ag (U hd : List Bs) (w4 : World) (p2 i : Nat) (wr : World) : Prop where
  mi : ∃ o2 N2 hl, Mi U hl wr p2 o2 N2 ∧ (∀ b, o2 = some b → w4.heap.size ≤ b) ∧ hl.length ≤ hd.length + i ∧ (∀ t ∈ hd, t ∈ hl) ∧ ∀ t ∈ hl, Can (fun x => x ∈ hd) t
  low : w4.heap.size ≤ p2
  bel : Below w4.heap.size w4 wr
theorem Ag.below {U hd : List Bs} {w4 : World} {p2 i : Nat} {wr w' : World} (h : Ag U hd w4 p2 i wr) (hb : Below wr.heap.size wr w') : Ag U hd w4 p2 i w' := by
  obtain ⟨o2, N2, hl, h1, h2, h3⟩ := h.mi
  exact ⟨⟨o2, N2, hl, h1.below hb, h2, h3⟩, h.low, below_two h.bel (below_low hb h.bel.size)⟩
theorem Ag.more {U hd : List Bs} {w4 : World} {p2 i : Nat} {wr : World} (h : Ag U hd w4 p2 i wr) : Ag U hd w4 p2 (i + 1) wr := by
  obtain ⟨o2, N2, hl, h1, h2, h3, h4⟩ := h.mi
  exact ⟨⟨o2, N2, hl, h1, h2, by omega, h4⟩, h.low, h.bel⟩
theorem Lf.below_of {w4 wr w' : World} {p2 : Nat} {o2 : Option Nat} (hb : Below w4.heap.size w4 wr) (h : Lf wr w' p2 o2) (hp : w4.heap.size ≤ p2) (ho : ∀ b, o2 = some b → w4.heap.size ≤ b) : Below w4.heap.size w4 w' := by
  refine ⟨h.os.trans hb.os, h.tape.trans hb.tape, h.output.trans hb.output, Nat.le_trans hb.size h.size, fun k hk => (h.block k (Nat.lt_of_lt_of_le hk hb.size) (by omega) (fun e => ?_)).trans (hb.block k hk)⟩
  have := ho k e.symm
  omega
/-- the copy hears what the first one can make -/
theorem Ag.learn {U hd : List Bs} (hU : Uni U) {w4 : World} {p2 i : Nat} {wr : World} (h : Ag U hd w4 p2 i wr) {t : Bs} (ht : t ∈ U) (hc : Can (fun x => x ∈ hd) t) (hl : hd.length + i < 1024) :
    Calls Tryz.prog 11 #[.pointer (some ⟨p2, 0, none⟩), St t] wr fun e w' => e = .returned (.int .i64 0) ∧ Ag U hd w4 p2 (i + 1) w' := by
  obtain ⟨o2, N2, hl2, h1, h2, h3, h4, h5⟩ := h.mi
  refine (learn_mind hU h1 ht (by omega)).mono ?_
  rintro e w' ⟨rfl, o', N', hm, hlf, ho⟩
  refine ⟨rfl, ⟨o', N', t :: hl2, hm, fun b e => ?_, by simp; omega, fun x hx => by simp [h4 x hx], fun x hx => ?_⟩, h.low, hlf.below_of h.bel h.low h2⟩
  · rcases ho with ho | ⟨b', ho, hb'⟩
    · exact h2 b (by rw [← ho]; exact e)
    · rw [ho] at e; cases e; exact Nat.le_trans h.bel.size hb'
  · rcases List.mem_cons.1 hx with rfl | hx
    · exact hc
    · exact h5 x hx
theorem Ag.knows {U hd : List Bs} {w4 : World} {p2 i : Nat} {wr : World} (h : Ag U hd w4 p2 i wr) {N : NM} (hN : ∀ t, mkF N t = true ↔ Can (fun x => x ∈ hd) t) (t : Bs) (htl : t.length ≤ 100000) :
    Calls Tryz.prog 9 #[.pointer (some ⟨p2, 0, none⟩), St t] wr fun e w' => e = .returned (.bool (mkF N t)) ∧ Below wr.heap.size wr w' := by
  obtain ⟨o2, N2, hl2, h1, h2, h3, h4, h5⟩ := h.mi
  have e : mkF N2 t = mkF N t := by
    rw [Bool.eq_iff_iff, h1.knows t, hN t]
    exact ⟨fun c => can_cut h5 c, fun c => c.mono h4⟩
  rw [← e]
  exact knows_any wr p2 o2 N2 t h1.rm htl
/-- the first one, as it hears more -/
structure Fs (U hd : List Bs) (w : World) (p base : Nat) (v : Value) (bs : List Bool) (i : Nat) (wr : World) : Prop where
  mi : ∃ o N hl, Mi U hl wr p o N ∧ (∀ b, o = some b → w.heap.size ≤ b) ∧ hl.length ≤ hd.length + i ∧ (∀ t ∈ hd, t ∈ hl) ∧ ∀ k, v.ownBlock = some k → k ≠ p ∧ some k ≠ o
  low : w.heap.size ≤ p
  row : Kw wr base v bs
  bel : Below w.heap.size w wr
theorem Fs.below {U hd : List Bs} {w : World} {p base : Nat} {v : Value} {bs : List Bool} {i : Nat} {wr w' : World} (h : Fs U hd w p base v bs i wr) (hb : Below wr.heap.size wr w') : Fs U hd w p base v bs i w' := by
  obtain ⟨o, N, hl, h1, h2⟩ := h.mi
  exact ⟨⟨o, N, hl, h1.below hb, h2⟩, h.low, h.row.below hb, below_two h.bel (below_low hb h.bel.size)⟩
theorem Fs.more {U hd : List Bs} {w : World} {p base : Nat} {v : Value} {bs : List Bool} {i : Nat} {wr : World} (h : Fs U hd w p base v bs i wr) : Fs U hd w p base v bs (i + 1) wr := by
  obtain ⟨o, N, hl, h1, h2, h3, h4⟩ := h.mi
  exact ⟨⟨o, N, hl, h1, h2, by omega, h4⟩, h.low, h.row, h.bel⟩
theorem Fs.learn {U hd : List Bs} (hU : Uni U) {w : World} {p base : Nat} {v : Value} {bs : List Bool} {i : Nat} {wr : World} (h : Fs U hd w p base v bs i wr) {t : Bs} (ht : Tm.deep t ≠ 0 → t ∈ U) (hl : hd.length + i < 1024) :
    Calls Tryz.prog 11 #[.pointer (some ⟨p, 0, none⟩), St t] wr fun e w' => (∃ n : Int, e = .returned (.int .i64 n)) ∧ Fs U hd w p base v bs (i + 1) w' := by
  by_cases hd0 : Tm.deep t = 0
  · refine (learn_wrong wr p t hd0).mono ?_
    rintro e w' ⟨rfl, hb⟩
    exact ⟨⟨_, rfl⟩, (h.below hb).more⟩
  · obtain ⟨o, N, hl2, h1, h2, h3, h4, h5⟩ := h.mi
    refine (learn_mind hU h1 (ht hd0) (by omega)).mono ?_
    rintro e w' ⟨rfl, o', N', hm, hlf, ho⟩
    refine ⟨⟨_, rfl⟩, ⟨o', N', t :: hl2, hm, fun b e => ?_, by simp; omega, fun x hx => by simp [h4 x hx], fun k hk => ⟨(h5 k hk).1, fun e => ?_⟩⟩, h.low, h.row.stay (fun k hk => hlf.block k (h.row.ge hk).2 (h5 k hk).1 (h5 k hk).2), hlf.below_of h.bel h.low h2⟩
    · rcases ho with ho | ⟨b', ho, hb'⟩
      · exact h2 b (by rw [← ho]; exact e)
      · rw [ho] at e; cases e; exact Nat.le_trans h.bel.size hb'
    · rcases ho with ho | ⟨b', ho, hb'⟩
      · exact (h5 k hk).2 (by rw [← ho]; exact e)
      · rw [ho] at e
        cases e
        have := (h.row.ge hk).2
        omega
theorem Fs.knows {U hd : List Bs} {w : World} {p base : Nat} {v : Value} {bs : List Bool} {i : Nat} {wr : World} (h : Fs U hd w p base v bs i wr) {t : Bs} (hc : Can (fun x => x ∈ hd) t) (htl : t.length ≤ 100000) :
    Calls Tryz.prog 9 #[.pointer (some ⟨p, 0, none⟩), St t] wr fun e w' => e = .returned (.bool true) ∧ Below wr.heap.size wr w' := by
  obtain ⟨o, N, hl2, h1, h2, h3, h4, h5⟩ := h.mi
  have e : mkF N t = true := (h1.knows t).2 (hc.mono h4)
  rw [← e]
  exact knows_any wr p o N t h1.rm htl
/-- what may be noted where three lists are heard -/
theorem uni_three (l more ask : List Bs) (h1 : lens l ≤ 700) (h2 : lens more ≤ 700) (h3 : lens ask ≤ 700) : ∃ U, Uni U ∧ (∀ t ∈ l, Tm.deep t ≠ 0 → t ∈ U) ∧ (∀ t ∈ more, Tm.deep t ≠ 0 → t ∈ U) ∧ (∀ t ∈ ask, Tm.deep t ≠ 0 → t ∈ U) := by
  have hR : ∀ t ∈ rights l ++ rights more ++ rights ask, Tm.deep t ≠ 0 := fun t ht => by
    have : ∀ k : List Bs, t ∈ rights k → Tm.deep t ≠ 0 := fun k hk => by
      have := (List.mem_filter.1 hk).2
      simpa using this
    simp only [List.mem_append] at ht
    rcases ht with (ht | ht) | ht
    · exact this _ ht
    · exact this _ ht
    · exact this _ ht
  obtain ⟨hU, hlU⟩ := uni_of hR (by
    have a1 := lens_rights l
    have a2 := lens_rights more
    have a3 := lens_rights ask
    unfold lens at a1 a2 a3 h1 h2 h3
    rw [List.map_append, List.map_append, List.sum_append, List.sum_append]
    omega)
  refine ⟨_, hU, fun t ht hd => hlU t ?_, fun t ht hd => hlU t ?_, fun t ht hd => hlU t ?_⟩
  · simp only [List.mem_append]; exact Or.inl (Or.inl (List.mem_filter.2 ⟨ht, by simpa using hd⟩))
  · simp only [List.mem_append]; exact Or.inl (Or.inr (List.mem_filter.2 ⟨ht, by simpa using hd⟩))
  · simp only [List.mem_append]; exact Or.inr (List.mem_filter.2 ⟨ht, by simpa using hd⟩)
end Go.Proofs.YtfnnhekjeobicaaGreatDoor

/- The law DeduceMore. -/
namespace Go.Proofs.YtfnnhekjeobicaaGreatDoor
open Go.RowKit Go.Maps Go.WideElems

set_option maxRecDepth 100000 in
set_option maxHeartbeats 16000000 in
theorem more_main (w : World) (hG : G0 w) (hP : Pw w) (al am aa : Option Addr) (cl cm ca : Nat) (l more ask : List Bs) (hk : Texts w (.slice al l.length cl) l) (hkm : Texts w (.slice am more.length cm) more) (ha : Texts w (.slice aa ask.length ca) ask) (hl : smallB l = true) (hml : smallB more = true) (hal : smallB ask = true) (hs : ∀ i (h : i < l.length), l[i].length ≤ 140737488355328) (hsm : ∀ i (h : i < more.length), more[i].length ≤ 140737488355328) (hsa : ∀ i (h : i < ask.length), ask[i].length ≤ 140737488355328) :
    Calls Tryz.prog 3 #[.slice al l.length cl, .slice am more.length cm, .slice aa ask.length ca] w fun e w' => e = .returned (.bool true) ∧ Below w.heap.size w w' := by
  have HLS := hid (smallB_of hl)
  have HMS := hid (smallB_of hml)
  have HAS := hid (smallB_of hal)
  obtain ⟨U, hU, hUl, hUm, hUa⟩ := uni_three l more ask HLS.out.2 HMS.out.2 HAS.out.2
  have HS1 := hid (small_any w al cl l hk (by have := HLS.out.1; unfold maxLen; omega) hs)
  have HS2 := hid (small_any w am cm more hkm (by have := HMS.out.1; unfold maxLen; omega) hsm)
  have HS3 := hid (small_any w aa ca ask ha (by have := HAS.out.1; unfold maxLen; omega) hsa)
  rw [hl] at HS1
  rw [hml] at HS2
  rw [hal] at HS3
  have HMD := hid (mind_ml hU w hG al cl l hk HLS.out.1 hUl)
  have HUN := hid hU
  have HUM := hid hUm
  have HUA := hid hUa
  have HWK := hid (fun W (hb : Below w.heap.size w W) => works_any W (hG.below hb))
  have HPW := hid (fun W (hb : Below w.heap.size w W) => hP.below hb)
  have HAC : Hid (∀ i (h : i < ask.length), ∃ g o, aa = some ⟨g, o, none⟩ ∧ ∀ W, Below w.heap.size w W → W.cell? ⟨g, o + i, none⟩ = some (St ask[i])) := hid (fun i h => by
    obtain ⟨ao', cap', he, ht⟩ := ha
    cases he
    obtain ⟨g, o, e, hg, hc⟩ := ht (fun e => by rw [e] at h; simp at h)
    exact ⟨g, o, e, fun W hb => by rw [← hc i h]; exact World.cell?_of_block (hb.block g hg)⟩)
  have HMC : Hid (∀ i (h : i < more.length), ∃ g o, am = some ⟨g, o, none⟩ ∧ ∀ W, Below w.heap.size w W → W.cell? ⟨g, o + i, none⟩ = some (St more[i])) := hid (fun i h => by
    obtain ⟨ao', cap', he, ht⟩ := hkm
    cases he
    obtain ⟨g, o, e, hg, hc⟩ := ht (fun e => by rw [e] at h; simp at h)
    exact ⟨g, o, e, fun W hb => by rw [← hc i h]; exact World.cell?_of_block (hb.block g hg)⟩)
  have HAL : Hid (∀ i (h : i < ask.length), ask[i].length ≤ 700) := hid (fun i h => by have h1 := lens_mem (List.getElem_mem h); have h2 := HAS.out.2; omega)
  have HHL : Hid ((rights l).length ≤ 40) := hid (Nat.le_trans (List.length_filter_le _ _) HLS.out.1)
  clear hU hUl hUm hUa hG hP hk hkm ha hl hml hal hs hsm hsa
  generalize rights l = hr at HMD HHL
  obtain ⟨q, hq⟩ : ∃ q, q = ask.length := ⟨_, rfl⟩
  obtain ⟨m, hm⟩ : ∃ m, m = more.length := ⟨_, rfl⟩
  have HQ := hid hq
  have HM := hid hm
  have hqb : q ≤ 40 := by have := HAS.out.1; omega
  have hmb : m ≤ 40 := by have := HMS.out.1; omega
  rw [← hq, ← hm]
  rw [← hq] at HS3
  rw [← hm] at HS2
  clear hq hm HLS HMS HAS
  go_enter Tryz.func3, Tryz.ntmps3
  go_wp2_with fail
  refine HS1.out.mono ?_
  rintro e w1 ⟨rfl, hw1⟩
  obtain rfl := hw1.symm
  go_wp2_with fail
  refine HS2.out.mono ?_
  rintro e w1 ⟨rfl, hw1⟩
  obtain rfl := hw1.symm
  go_wp2_with fail
  refine HS3.out.mono ?_
  rintro e w1 ⟨rfl, hw1⟩
  obtain rfl := hw1.symm
  clear HS1 HS2 HS3
  go_wp2_with fail
  refine HMD.out.mono ?_
  rintro e w2 ⟨v, rfl, hml⟩
  have HML := hid hml
  clear hml HMD
  obtain ⟨p, hp⟩ : ∃ p, p = w.heap.size := ⟨_, rfl⟩
  rw [← hp]
  have HPP := hid hp
  clear hp
  obtain ⟨hd, hhd⟩ : ∃ hd, hd = hr.reverse := ⟨_, rfl⟩
  have HHD : Hid (hd.length ≤ 40) := hid (by rw [hhd]; simpa using HHL.out)
  have HMI : Hid (∃ o N, Mi U hd w2 p o N ∧ ∀ b, o = some b → w.heap.size ≤ b) := hid (by rw [hhd, HPP.out]; exact HML.out.mi)
  have HB2 := hid HML.out.bel
  clear HML hhd HHL
  obtain ⟨o, N, hmi, ho⟩ := HMI.out
  have HM2 := hid hmi
  have HO := hid ho
  clear hmi ho HMI
  have HPO : Hid (p < w2.heap.size ∧ ∀ b, o = some b → b < w2.heap.size) := hid ⟨HM2.out.rm.lt, fun b e => by
    have h := HM2.out.rm.om
    rw [e] at h
    exact Om.lt h⟩
  obtain ⟨KN, hKN⟩ : ∃ KN, KN = ask.map (mkF N) := ⟨_, rfl⟩
  have HKL : Hid (KN.length = q) := hid (by rw [hKN, HQ.out]; simp)
  have HKE : Hid (∀ i (h : i < ask.length) (h' : i < KN.length), KN[i] = mkF N ask[i]) := hid (fun i h h' => by subst hKN; simp)
  clear hKN
  have HKS : Hid (∀ i (h : i < ask.length) (h' : i < KN.length), KN.take (i + 1) = KN.take i ++ [mkF N ask[i]]) := hid (fun i h h' => by rw [List.take_succ_eq_append_getElem h', HKE.out i h h'])
  have HKT : Hid (∀ i, i ≤ q → (KN.take i).length = i) := hid (fun i h => by rw [List.length_take, HKL.out]; omega)
  go_wp2_with fail
  go_loopg [9, 10] q (fun gg v9 v10 wr => ∃ (i : Nat) (ao : Option Addr) (kc : Nat), i ≤ q ∧ gg = q - i ∧ v9 = .slice ao i kc ∧ v10 = .int .i64 (i : Int) ∧ Below w2.heap.size w2 wr ∧ Kw wr w2.heap.size (.slice ao i kc) (KN.take i))
  case atStart => exact ⟨0, none, 0, by omega, rfl, rfl, rfl, Below.refl _ _, Kw.nil _ _⟩
  case round =>
    obtain ⟨i, ao, kc, hi, rfl, rfl, rfl, hbel, hkw⟩ := hrel
    have HBE := hid hbel
    have HKW := hid hkw
    clear hbel hkw
    by_cases hil : i < q
    · have hi1 : (i : Int) < (q : Int) := by omega
      have hia : i < ask.length := by rw [← HQ.out]; exact hil
      have hik : i < KN.length := by rw [HKL.out]; exact hil
      obtain ⟨ga, oa, haa, hce⟩ := HAC.out i hia
      subst haa
      have hc1 := hce wr (two_below HB2.out HBE.out)
      clear hce
      have HKN := hid (knows_any wr p o N ask[i] (HM2.out.rm.below HBE.out) (by have := HAL.out i hia; omega))
      have HST := hid (HKS.out i hia hik)
      generalize ask[i] = t at hc1 HKN HST
      generalize mkF N t = bb at HKN HST
      go_wp2_with fail
      refine HKN.out.mono ?_
      rintro e w3 ⟨rfl, hb3⟩
      have HB3 := hid (two_below HBE.out hb3)
      have HK3 := hid (HKW.out.below hb3)
      clear hb3 HKN HKW
      have HT := hid (HKT.out i (by omega))
      obtain ⟨ao2, kc2, w4, hrun, hown4, hg4⟩ := append_bool w3 w2.heap.size (.slice ao i kc) (KN.take i) bb HK3.out (by rw [HT.out]; omega) HB3.out.size
      rw [HT.out] at hrun hown4
      have HRUN := hid hrun
      have HK4 : Hid (Kw w4 w2.heap.size (.slice ao2 (i + 1) kc2) (KN.take (i + 1))) := hid (by rw [HST.out]; exact hown4)
      have HB4 := hid (HB3.out.grown hg4 HB3.out.size (fun k hk => (HK3.out.ge hk).1))
      clear hrun hown4 hg4
      go_wp2_with (first | (at_builtin; refine wpList_append_run rfl (.tmp 43) (.tmp 50) 27 rfl (.slice ao i kc) (.slice (some ⟨w3.heap.size, 0, none⟩) 1 1) (.slice ao2 (i + 1) kc2) w4 rfl rfl HRUN.out ?_) | fail)
      go_roundg (q - (i + 1))
      case measure => omega
      case rel => exact ⟨i + 1, ao2, kc2, by omega, rfl, rfl, by go_num, HB4.out, HK4.out⟩
    · have hi1 : ¬ (i : Int) < (q : Int) := by omega
      obtain rfl : i = q := by omega
      have HKW2 : Hid (Kw wr w2.heap.size (.slice ao i kc) KN) := hid (by have h := HKW.out; rw [List.take_of_length_le (by rw [HKL.out]; exact Nat.le_refl _)] at h; exact h)
      have HM4 := hid (HM2.out.below HBE.out)
      have HB4 := hid (two_below HB2.out HBE.out)
      have HCP := hid (copy_any wr p o N HM4.out.rm)
      clear HKW HKS HKT HBE HM2 hi
      obtain ⟨w4, rfl⟩ : ∃ w4, w4 = wr := ⟨_, rfl⟩
      have HKC : Hid (∀ j (h : j < KN.length), ∃ gk, ao = some ⟨gk, 0, none⟩ ∧ gk < w4.heap.size ∧ w4.cell? ⟨gk, j, none⟩ = some (.bool KN[j])) := hid (fun j h => by
        obtain ⟨gk, kc', hv, h1, h2, h3⟩ := HKW2.out.cells (by omega)
        cases hv
        exact ⟨gk, rfl, h2, h3 j h⟩)
      go_wp2_with fail
      refine HCP.out.mono ?_
      rintro e w5 ⟨p2, rfl, hcp⟩
      obtain ⟨o2, hmi2, hlow, ho2, hb5⟩ := HM4.out.copy hcp
      have HAG : Hid (Ag U hd w4 p2 0 w5) := hid ⟨⟨o2, N, hd, hmi2, ho2, Nat.le_refl _, fun t h => h, fun t h => .heard h⟩, hlow, hb5⟩
      clear HCP hcp hmi2 hlow ho2 hb5
      go_wp2_with fail
      go_loopg [12] i (fun gg v12 wr => ∃ j : Nat, j ≤ i ∧ gg = i - j ∧ v12 = .int .i64 (j : Int) ∧ Ag U hd w4 p2 j wr)
      case atStart => exact ⟨0, by omega, rfl, rfl, HAG.out⟩
      case round =>
        clear HAG
        obtain ⟨j, hj, rfl, rfl, hag⟩ := hrel
        have HAG := hid hag
        clear hag
        by_cases hjl : j < i
        · have hj1 : (j : Int) < (i : Int) := by omega
          have hja : j < ask.length := by rw [← HQ.out]; exact hjl
          have hjk : j < KN.length := by rw [HKL.out]; exact hjl
          obtain ⟨ga, oa, haa, hce⟩ := HAC.out j hja
          subst haa
          have hc1 := hce wr (two_below HB4.out HAG.out.bel)
          obtain ⟨gk, hao, hgk, hck⟩ := HKC.out j hjk
          subst hao
          have hc2 := (HAG.out.bel.cell (p := ⟨gk, j, none⟩) hgk).trans hck
          clear hce hck hgk
          have HKJ := hid (HKE.out j hja hjk)
          have HUJ := hid (HUA.out ask[j] (List.getElem_mem hja))
          generalize ask[j] = t at hc1 HKJ HUJ
          generalize KN[j] = bb at hc2 HKJ
          cases bb
          · go_wp2_with fail
            go_roundg (i - (j + 1))
            case measure => omega
            case rel => exact ⟨j + 1, by omega, rfl, by go_num, HAG.out.more⟩
          · have HCN := hid ((HM4.out.knows t).1 HKJ.out.symm)
            have HLE := hid (HAG.out.learn HUN.out (HUJ.out (HM4.out.mind.full.mk_right HKJ.out.symm)) HCN.out (by have := HHD.out; omega))
            go_wp2_with (first | (go_at_call 11; refine HLE.out.mono ?_; rintro e w6 ⟨rfl, hag6⟩; have HAG6 := hid hag6; clear hag6))
            go_roundg (i - (j + 1))
            case measure => omega
            case rel => exact ⟨j + 1, by omega, rfl, by go_num, HAG6.out⟩
        · have hj1 : ¬ (j : Int) < (i : Int) := by omega
          obtain rfl : j = i := by omega
          obtain ⟨w6, rfl⟩ : ∃ w6, w6 = wr := ⟨_, rfl⟩
          clear hj
          go_wp2_with fail
          go_loopg [13] j (fun gg v13 wr => ∃ k : Nat, k ≤ j ∧ gg = j - k ∧ v13 = .int .i64 (k : Int) ∧ Ag U hd w4 p2 j wr)
          case atStart => exact ⟨0, by omega, rfl, rfl, HAG.out⟩
          case round =>
            clear HAG
            obtain ⟨k, hk, rfl, rfl, hag⟩ := hrel
            have HAG := hid hag
            clear hag
            by_cases hkl : k < j
            · have hk1 : (k : Int) < (j : Int) := by omega
              have hka : k < ask.length := by rw [← HQ.out]; exact hkl
              have hkk : k < KN.length := by rw [HKL.out]; exact hkl
              obtain ⟨ga, oa, haa, hce⟩ := HAC.out k hka
              subst haa
              obtain ⟨gk, hao, hgk, hck⟩ := HKC.out k hkk
              subst hao
              have HS : Hid (∀ W, Below w4.heap.size w4 W → W.cell? ⟨ga, oa + k, none⟩ = some (St ask[k]) ∧ W.cell? ⟨gk, k, none⟩ = some (.bool KN[k])) := hid (fun W hb => ⟨hce W (two_below HB4.out hb), (hb.cell (p := ⟨gk, k, none⟩) hgk).trans hck⟩)
              clear hce hck hgk
              have HKJ := hid (HKE.out k hka hkk)
              have HTL : Hid (ask[k].length ≤ 100000) := hid (by have := HAL.out k hka; omega)
              generalize ask[k] = t at HS HKJ HTL
              generalize KN[k] = bb at HS HKJ
              cases bb
              · have HKN := hid ((HAG.out.below (Below.refl _ _).drew).knows HM4.out.knows t HTL.out)
                rw [← HKJ.out] at HKN
                have S0 := hid (HS.out wr HAG.out.bel)
                have hc1 := S0.out.1
                have hc2 := S0.out.2
                go_wp2_with fail
                go_region_held3 (fun wx => wx.cell? ⟨ga, oa + k, none⟩ = some (St t) ∧ wx.cell? ⟨gk, k, none⟩ = some (.bool false)) (first | exact S0.out | exact S1.out) (first | (go_at_call 9; refine HKN.out.mono ?_; rintro e w7 ⟨rfl, hb7⟩; have HA7 := hid ((HAG.out.below (Below.refl _ _).drew).below hb7); have S1 := hid (HS.out w7 HA7.out.bel); clear hb7))
                go_wp2_with fail
                go_roundg (j - (k + 1))
                case measure => omega
                case rel => exact ⟨k + 1, by omega, rfl, by go_num, HA7.out⟩
              · have HKN := hid ((HAG.out.below (Below.refl _ _).drew).knows HM4.out.knows t HTL.out)
                rw [← HKJ.out] at HKN
                have S0 := hid (HS.out wr HAG.out.bel)
                have hc1 := S0.out.1
                have hc2 := S0.out.2
                go_wp2_with fail
                go_region_held3 (fun wx => wx.cell? ⟨ga, oa + k, none⟩ = some (St t) ∧ wx.cell? ⟨gk, k, none⟩ = some (.bool true)) (first | exact S0.out | exact S1.out) (first | (go_at_call 9; refine HKN.out.mono ?_; rintro e w7 ⟨rfl, hb7⟩; have HA7 := hid ((HAG.out.below (Below.refl _ _).drew).below hb7); have S1 := hid (HS.out w7 HA7.out.bel); clear hb7))
                go_wp2_with fail
                go_roundg (j - (k + 1))
                case measure => omega
                case rel => exact ⟨k + 1, by omega, rfl, by go_num, HA7.out⟩
            · have hk1 : ¬ (k : Int) < (j : Int) := by omega
              obtain ⟨w7, rfl⟩ : ∃ w7, w7 = wr := ⟨_, rfl⟩
              clear hk
              have HB7 := hid (two_below HB4.out HAG.out.bel)
              have HM7 := hid (HM4.out.below HAG.out.bel)
              have HK7 := hid (HKW2.out.below HAG.out.bel)
              clear HAG HM4 HB4 HKW2
              have HKC7 : Hid (∀ j (h : j < KN.length), ∃ gk, ao = some ⟨gk, 0, none⟩ ∧ gk < w7.heap.size ∧ w7.cell? ⟨gk, j, none⟩ = some (.bool KN[j])) := hid (fun j h => by
                obtain ⟨gk, kc', hv, h1, h2, h3⟩ := HK7.out.cells (by omega)
                cases hv
                exact ⟨gk, rfl, h2, h3 j h⟩)
              clear HKC
              go_wp2_with fail
              clear hkl hk1
              go_loopg [14] j (fun gg v14 wr => ∃ k : Nat, k ≤ j ∧ gg = j - k ∧ v14 = .int .i64 (k : Int) ∧ Below w7.heap.size w7 wr)
              case atStart => exact ⟨0, by omega, rfl, rfl, Below.refl _ _⟩
              case round =>
                obtain ⟨k, hk, rfl, rfl, hbel⟩ := hrel
                have HBE := hid hbel
                clear hbel
                by_cases hkl : k + 1 < j
                · have hk1 : (k : Int) + 1 < (j : Int) := by omega
                  have hka : k < ask.length := by rw [← HQ.out]; omega
                  have hkk : k < KN.length := by rw [HKL.out]; omega
                  have hka2 : k + 1 < ask.length := by rw [← HQ.out]; omega
                  have hkk2 : k + 1 < KN.length := by rw [HKL.out]; omega
                  obtain ⟨ga, oa, haa, hce⟩ := HAC.out k hka
                  obtain ⟨ga2, oa2, haa2, hce2⟩ := HAC.out (k + 1) hka2
                  rw [haa] at haa2
                  cases haa2
                  subst haa
                  obtain ⟨gk, hao, hgk, hck⟩ := HKC7.out k hkk
                  obtain ⟨gk2, hao2, hgk2, hck2⟩ := HKC7.out (k + 1) hkk2
                  rw [hao] at hao2
                  cases hao2
                  subst hao
                  have HS : Hid (∀ W, Below w7.heap.size w7 W → W.cell? ⟨ga, oa + k, none⟩ = some (St ask[k]) ∧ W.cell? ⟨ga, oa + (k + 1), none⟩ = some (St ask[k + 1]) ∧ W.cell? ⟨gk, k, none⟩ = some (.bool KN[k]) ∧ W.cell? ⟨gk, k + 1, none⟩ = some (.bool KN[k + 1])) := hid (fun W hb => ⟨hce W (two_below HB7.out hb), hce2 W (two_below HB7.out hb), (hb.cell (p := ⟨gk, k, none⟩) hgk).trans hck, (hb.cell (p := ⟨gk, k + 1, none⟩) hgk).trans hck2⟩)
                  clear hce hce2 hck hck2 hgk hgk2
                  have HKJ := hid (HKE.out k hka hkk)
                  have HKJ2 := hid (HKE.out (k + 1) hka2 hkk2)
                  generalize ask[k] = t at HS HKJ
                  generalize ask[k + 1] = t2 at HS HKJ2
                  generalize KN[k] = bb at HS HKJ
                  generalize KN[k + 1] = bb2 at HS HKJ2
                  have S0 := hid (HS.out wr HBE.out)
                  obtain ⟨hc1, hc2, hc3, hc4⟩ := S0.out
                  have hb0 : (0 : Int) ≤ (k : Int) := by omega
                  have hb1 : (k : Int) < (j : Int) := by omega
                  have hb2 : IntKind.i64.wrap ((k : Int) + 1) = (k : Int) + 1 := by rw [IntKind.wrap_i64]; omega
                  have hb3 : (0 : Int) ≤ (k : Int) + 1 := by omega
                  cases bb
                  · go_wp2_with fail
                    go_quiet (fail)
                    go_wp2_with fail
                    go_roundg (j - (k + 1))
                    case measure => omega
                    case rel => exact ⟨k + 1, by omega, rfl, by go_num, HBE.out.trans ⟨rfl, rfl, rfl, Nat.le_refl _, fun _ _ => rfl⟩⟩
                  · cases bb2
                    · go_wp2_with fail
                      go_quiet (fail)
                      go_wp2_with fail
                      go_roundg (j - (k + 1))
                      case measure => omega
                      case rel => exact ⟨k + 1, by omega, rfl, by go_num, HBE.out.trans ⟨rfl, rfl, rfl, Nat.le_refl _, fun _ _ => rfl⟩⟩
                    · have HCA := hid ((HM7.out.knows t).1 HKJ.out.symm)
                      have HCB := hid ((HM7.out.knows t2).1 HKJ2.out.symm)
                      have HLM := hid (fun W (hb : Below w7.heap.size w7 W) => lawmakes_any W (HPW.out W (two_below HB7.out hb)) p o N (HM7.out.rm.below hb) t t2 (fun r hr h0 => ⟨(HM7.out.knows r.1).2 (made_can HCA.out HCB.out r hr h0).1, (made_can HCA.out HCB.out r hr h0).2⟩) (fun h => ⟨(HM7.out.knows _).2 (unbox_can HCA.out HCB.out h).1, (unbox_can HCA.out HCB.out h).2⟩))
                      go_wp2_with fail
                      go_region_held3 (fun wx => wx.cell? ⟨ga, oa + k, none⟩ = some (St t) ∧ wx.cell? ⟨ga, oa + (k + 1), none⟩ = some (St t2) ∧ wx.cell? ⟨gk, k, none⟩ = some (.bool true) ∧ wx.cell? ⟨gk, k + 1, none⟩ = some (.bool true)) (first | exact S0.out | exact S1.out) (first | (go_at_call 12; refine (HLM.out _ HBE.out.drew).mono ?_; rintro e w8 ⟨rfl, hb8⟩; have HB8 := hid (two_below HBE.out.drew hb8); have S1 := hid (HS.out w8 HB8.out); clear hb8))
                      go_wp2_with fail
                      go_roundg (j - (k + 1))
                      case measure => omega
                      case rel => exact ⟨k + 1, by omega, rfl, by go_num, HB8.out⟩
                · have hk1 : ¬ (k : Int) + 1 < (j : Int) := by omega
                  obtain ⟨w8, rfl⟩ : ∃ w8, w8 = wr := ⟨_, rfl⟩
                  have HFS : Hid (Fs U hd w p w2.heap.size (.slice ao j kc) KN 0 w8) := hid ⟨⟨o, N, hd, HM7.out.below HBE.out, HO.out, Nat.le_refl _, fun t h => h, fun k hk => (by have h1 := (HK7.out.ge hk).1; have h2 := HPO.out.1; exact ⟨by omega, fun e => by have := HPO.out.2 k e.symm; omega⟩)⟩, by rw [HPP.out]; exact Nat.le_refl _, HK7.out.below HBE.out, two_below HB7.out HBE.out⟩
                  have HCN : Hid (∀ k (h : k < ask.length) (h' : k < KN.length), KN[k] = true → Can (fun x => x ∈ hd) ask[k]) := hid (fun k h h' e => (HM7.out.knows _).1 (by rw [← HKE.out k h h']; exact e))
                  clear HK7 HBE HB7 HKC7 HM7
                  go_wp2_with fail
                  clear hk hkl hk1
                  go_loopg [15] m (fun gg v15 wr => ∃ k : Nat, k ≤ m ∧ gg = m - k ∧ v15 = .int .i64 (k : Int) ∧ Fs U hd w p w2.heap.size (.slice ao j kc) KN k wr)
                  case atStart => exact ⟨0, by omega, rfl, rfl, HFS.out⟩
                  case round =>
                    clear HFS
                    obtain ⟨k, hk, rfl, rfl, hfs⟩ := hrel
                    have HFS := hid hfs
                    clear hfs
                    by_cases hkl : k < m
                    · have hk1 : (k : Int) < (m : Int) := by omega
                      have hka : k < more.length := by rw [← HM.out]; exact hkl
                      obtain ⟨ga, oa, haa, hce⟩ := HMC.out k hka
                      subst haa
                      have hc1 := hce wr HFS.out.bel
                      clear hce
                      have HLE := hid (HFS.out.learn HUN.out (t := more[k]) (HUM.out more[k] (List.getElem_mem hka)) (by have := HHD.out; omega))
                      generalize more[k] = t at hc1 HLE
                      go_wp2_with (first | (go_at_call 11; refine HLE.out.mono ?_; rintro e w9 ⟨⟨n, rfl⟩, hfs9⟩; have HFS9 := hid hfs9; clear hfs9))
                      go_roundg (m - (k + 1))
                      case measure => omega
                      case rel => exact ⟨k + 1, by omega, rfl, by go_num, HFS9.out⟩
                    · have hk1 : ¬ (k : Int) < (m : Int) := by omega
                      obtain ⟨w9, rfl⟩ : ∃ w9, w9 = wr := ⟨_, rfl⟩
                      go_wp2_with fail
                      go_loopg [16] j (fun gg v16 wr => ∃ x : Nat, x ≤ j ∧ gg = j - x ∧ v16 = .int .i64 (x : Int) ∧ Fs U hd w p w2.heap.size (.slice ao j kc) KN k wr)
                      case atStart => exact ⟨0, by omega, rfl, rfl, HFS.out⟩
                      case round =>
                        clear HFS
                        obtain ⟨x, hx, rfl, rfl, hfs⟩ := hrel
                        have HFS := hid hfs
                        clear hfs
                        by_cases hxl : x < j
                        · have hx1 : (x : Int) < (j : Int) := by omega
                          have hxa : x < ask.length := by rw [← HQ.out]; exact hxl
                          have hxk : x < KN.length := by rw [HKL.out]; exact hxl
                          obtain ⟨ga, oa, haa, hce⟩ := HAC.out x hxa
                          subst haa
                          have hc1 := hce wr HFS.out.bel
                          obtain ⟨gk, kc', hv, h1, h2, h3⟩ := HFS.out.row.cells (by omega)
                          injection hv with e1 e2 e3
                          subst e1
                          clear e2 e3
                          have hc2 := h3 x hxk
                          clear hce h1 h2 h3
                          have HCX := hid (HCN.out x hxa hxk)
                          have HTL : Hid (ask[x].length ≤ 100000) := hid (by have := HAL.out x hxa; omega)
                          generalize ask[x] = t at hc1 HCX HTL
                          generalize KN[x] = bb at hc2 HCX
                          cases bb
                          · go_wp2_with fail
                            go_roundg (j - (x + 1))
                            case measure => omega
                            case rel => exact ⟨x + 1, by omega, rfl, by go_num, HFS.out⟩
                          · have HKN := hid (HFS.out.knows (HCX.out rfl) HTL.out)
                            go_wp2_with (first | (go_at_call 9; refine HKN.out.mono ?_; rintro e w10 ⟨rfl, hb10⟩; have HFS10 := hid (HFS.out.below hb10); clear hb10))
                            go_roundg (j - (x + 1))
                            case measure => omega
                            case rel => exact ⟨x + 1, by omega, rfl, by go_num, HFS10.out⟩
                        · have hx1 : ¬ (x : Int) < (j : Int) := by omega
                          have HWW := hid (HWK.out wr HFS.out.bel)
                          go_wp2_with (first | (go_at_call 13; refine HWW.out.mono ?_; rintro e w11 ⟨rfl, hb11⟩; have HB11 := hid (two_below HFS.out.bel hb11); clear hb11))
                          go_ret
                          exact ⟨rfl, HB11.out⟩

set_option maxRecDepth 100000 in
set_option maxHeartbeats 1000000 in
theorem morelaw_any (w : World) (hG : G0 w) (hP : Pw w) (al am aa : Option Addr) (cl cm ca : Nat) (l more ask : List Bs) (hk : Texts w (.slice al l.length cl) l) (hkm : Texts w (.slice am more.length cm) more) (ha : Texts w (.slice aa ask.length ca) ask) (hm : l.length ≤ maxLen) (hmm : more.length ≤ maxLen) (hma : ask.length ≤ maxLen) (hs : ∀ i (h : i < l.length), l[i].length ≤ 140737488355328) (hsm : ∀ i (h : i < more.length), more[i].length ≤ 140737488355328) (hsa : ∀ i (h : i < ask.length), ask[i].length ≤ 140737488355328) :
    Calls Tryz.prog 3 #[.slice al l.length cl, .slice am more.length cm, .slice aa ask.length ca] w fun e w' => e = .returned (.bool true) ∧ Below w.heap.size w w' := by
  have HS1 := hid (small_any w al cl l hk hm hs)
  have HS2 := hid (small_any w am cm more hkm hmm hsm)
  have HS3 := hid (small_any w aa ca ask ha hma hsa)
  cases h1 : smallB l with
  | false =>
    rw [h1] at HS1
    clear hG hP hk hkm ha hm hmm hma hs hsm hsa h1 HS2 HS3
    go_enter Tryz.func3, Tryz.ntmps3
    go_wp2_with fail
    refine HS1.out.mono ?_
    rintro e w1 ⟨rfl, hw1⟩
    obtain rfl := hw1.symm
    go_wp2_with fail
    go_ret
    exact ⟨rfl, Below.refl _ _⟩
  | true =>
    cases h2 : smallB more with
    | false =>
      rw [h1] at HS1
      rw [h2] at HS2
      clear hG hP hk hkm ha hm hmm hma hs hsm hsa h1 h2 HS3
      go_enter Tryz.func3, Tryz.ntmps3
      go_wp2_with fail
      refine HS1.out.mono ?_
      rintro e w1 ⟨rfl, hw1⟩
      obtain rfl := hw1.symm
      go_wp2_with fail
      refine HS2.out.mono ?_
      rintro e w1 ⟨rfl, hw1⟩
      obtain rfl := hw1.symm
      go_wp2_with fail
      go_ret
      exact ⟨rfl, Below.refl _ _⟩
    | true =>
      cases h3 : smallB ask with
      | true => exact more_main w hG hP al am aa cl cm ca l more ask hk hkm ha h1 h2 h3 hs hsm hsa
      | false =>
        rw [h1] at HS1
        rw [h2] at HS2
        rw [h3] at HS3
        clear hG hP hk hkm ha hm hmm hma hs hsm hsa h1 h2 h3
        go_enter Tryz.func3, Tryz.ntmps3
        go_wp2_with fail
        refine HS1.out.mono ?_
        rintro e w1 ⟨rfl, hw1⟩
        obtain rfl := hw1.symm
        go_wp2_with fail
        refine HS2.out.mono ?_
        rintro e w1 ⟨rfl, hw1⟩
        obtain rfl := hw1.symm
        go_wp2_with fail
        refine HS3.out.mono ?_
        rintro e w1 ⟨rfl, hw1⟩
        obtain rfl := hw1.symm
        go_wp2_with fail
        go_ret
        exact ⟨rfl, Below.refl _ _⟩
end Go.Proofs.YtfnnhekjeobicaaGreatDoor
