/- The reader of a message: bytes are taken, counted, told. -/
import Derived.Test.YtdhmmllpioppfaaWEncE
import Derived.Test.YtdhmmllpioppfaaClone
namespace Go.Proofs.Ytdhmmllpioppfaa.V
open Go.RowKit

abbrev i64s (l : List Int) : List Value := l.map (Value.int .i64)
/-- the reader at r has b left, and has told m so far (but for its records) -/
structure Wd (w0 K : World) (r : Nat) (b : Bs) (m : Msg) (w : World) : Prop where
  lo : w0.heap.size ≤ r
  blk : ∃ lv nv tv, w.heap[r]? = some (.cells #[lv, .int .u16 (m.k : Int), St m.ch, nv, tv, St m.tx, .slice none 0 0] 54 (0, 0)) ∧ Sl w0 lv b ∧ w.ownsRow w0.heap.size 2 1 nv m.ns.length (i64s m.ns) ∧ w.ownsRow w0.heap.size 46 1 tv m.ts.length (m.ts.map St)
  bel : Below w0.heap.size w0 w
  kp : ∀ (g : Nat) (cs : Array Value), K.heap[g]? = some (.cells cs 30 (0, 0)) → w.heap[g]? = some (.cells cs 30 (0, 0))
theorem Wd.lt {w0 K : World} {r : Nat} {b : Bs} {m : Msg} {w : World} (h : Wd w0 K r b m w) : r < w.heap.size := by
  obtain ⟨_, _, _, h1, _⟩ := h.blk
  exact lt_of_block h1
theorem Wd.below {w0 K : World} {r : Nat} {b : Bs} {m : Msg} {w w' : World} (h : Wd w0 K r b m w) (hb : Below w.heap.size w w') : Wd w0 K r b m w' := by
  obtain ⟨lv, nv, tv, h1, h2, h3, h4⟩ := h.blk
  exact ⟨h.lo, ⟨lv, nv, tv, (hb.block r (lt_of_block h1)).trans h1, h2, ownsRow_same h3 (fun g e => hb.block g (h3.lt g e).2), ownsRow_same h4 (fun g e => hb.block g (h4.lt g e).2)⟩, h.bel.trans (hb.mono h.bel.size), fun g cs hk => (hb.block g (lt_of_block (h.kp g cs hk))).trans (h.kp g cs hk)⟩
/-- a row of another type is not the reader's block -/
theorem own_apart {w : World} {B r : Nat} {e : TypeId} {sz : Nat} {v : Value} {n : Nat} {xs : List Value} {cs : Array Value} (h : w.heap[r]? = some (.cells cs 54 (0, 0))) (ho : w.ownsRow B e sz v n xs) (he : e ≠ 54) : ∀ g, v.ownBlock = some g → g ≠ r := by
  intro g hg hr
  subst hr
  rcases ho.2 with ⟨h3, _⟩ | ⟨g', cap, cur, h3, h4, h5, _⟩
  · rw [h3] at hg; cases hg
  · rw [h3] at hg
    cases hg
    rw [h] at h5
    cases h5
    exact he rfl
/-- a row of functions is not the reader's block, nor a row's of another type -/
theorem fn_apart {w : World} {g r : Nat} {cs ds : Array Value} (h : w.heap[r]? = some (.cells cs 54 (0, 0))) (hg : w.heap[g]? = some (.cells ds 30 (0, 0))) : g ≠ r := by
  intro e
  subst e
  rw [h] at hg
  cases hg
theorem fn_own {w : World} {B g : Nat} {e : TypeId} {sz : Nat} {v : Value} {n : Nat} {xs : List Value} {ds : Array Value} (ho : w.ownsRow B e sz v n xs) (hg : w.heap[g]? = some (.cells ds 30 (0, 0))) (he : e ≠ 30) : some g ≠ v.ownBlock := by
  intro e2
  rcases ho.2 with ⟨h3, _⟩ | ⟨g', cap, cur, h3, h4, h5, _⟩
  · rw [h3] at e2; cases e2
  · rw [h3] at e2
    cases e2
    rw [hg] at h5
    cases h5
    exact he rfl
/-- what is left changes -/
theorem Wd.left {w0 K : World} {r : Nat} {b b' : Bs} {m : Msg} {w : World} {lv' : Value} (h : Wd w0 K r b m w) (hs : Sl w0 lv' b') : Wd w0 K r b' m (w.setCell ⟨r, 0, none⟩ lv') := by
  obtain ⟨lv, nv, tv, h1, h2, h3, h4⟩ := h.blk
  refine ⟨h.lo, ⟨lv', nv, tv, by rw [heap_setCell_same h1]; rfl, hs, ownsRow_same h3 (fun g e => Below.heap_setCell _ _ _ _ (own_apart h1 h3 (by decide) g e)), ownsRow_same h4 (fun g e => Below.heap_setCell _ _ _ _ (own_apart h1 h4 (by decide) g e))⟩, ?_, fun g cs hk => ?_⟩
  · exact ⟨h.bel.os, h.bel.tape, h.bel.output, by simpa [World.setCell] using h.bel.size, fun k hk => by rw [Below.heap_setCell _ _ _ _ (by show k ≠ r; have := h.lo; omega)]; exact h.bel.block k hk⟩
  · exact (Below.heap_setCell _ _ _ _ (fn_apart h1 (h.kp g cs hk))).trans (h.kp g cs hk)
theorem Wd.cell0 {w0 K : World} {r : Nat} {b : Bs} {m : Msg} {w : World} (h : Wd w0 K r b m w) : ∃ ao cap, w.cell? ⟨r, 0, none⟩ = some (.slice ao b.length cap) ∧ Sl w0 (.slice ao b.length cap) b ∧ w.frozen? ⟨r, 0, none⟩ = false := by
  obtain ⟨lv, nv, tv, h1, h2, h3, h4⟩ := h.blk
  obtain ⟨ao, cap, rfl⟩ := h2.shape
  exact ⟨ao, cap, by rw [cell_of_heap h1]; rfl, h2, frozen_of_heap h1 0⟩
set_option maxRecDepth 100000 in
set_option maxHeartbeats 2000000 in
theorem take_no (w0 K w : World) (r : Nat) (b : Bs) (m : Msg) (n : Nat) (h : Wd w0 K r b m w) (hb : b.length ≤ 40000) (hl : ¬ n ≤ b.length) :
    Calls Try.prog 58 #[.pointer (some ⟨r, 0, none⟩), .int .u64 (n : Int)] w fun e w' => e = .returned (.tuple #[.slice none 0 0, .bool false]) ∧ w' = w := by
  obtain ⟨ao, cap, hc, hs, hf⟩ := h.cell0
  obtain ⟨q, hq⟩ : ∃ q, q = b.length := ⟨_, rfl⟩
  rw [← hq] at hc hb hl
  have hw : IntKind.u64.wrap (q : Int) = (q : Int) := by rw [IntKind.wrap_u64]; omega
  have h1 : (q : Int) < (n : Int) := by omega
  clear h hs hf hq hl hb
  go_enter Try.func58, Try.ntmps58
  go_wp2_with fail
  go_ret2
  exact ⟨rfl, rfl⟩
set_option maxRecDepth 100000 in
set_option maxHeartbeats 2000000 in
theorem take_yes (w0 K w : World) (r : Nat) (b : Bs) (m : Msg) (n : Nat) (h : Wd w0 K r b m w) (hb : b.length ≤ 40000) (hl : n ≤ b.length) :
    Calls Try.prog 58 #[.pointer (some ⟨r, 0, none⟩), .int .u64 (n : Int)] w fun e w' => ∃ ao cap, e = .returned (.tuple #[.slice ao n cap, .bool true]) ∧ Sl w0 (.slice ao n cap) (b.take n) ∧ Wd w0 K r (b.drop n) m w' := by
  obtain ⟨ao, cap, hc, hs, hf⟩ := h.cell0
  obtain ⟨q, hq⟩ : ∃ q, q = b.length := ⟨_, rfl⟩
  obtain ⟨hr1, hx1⟩ := hs.takeRun n hl rfl
  obtain ⟨a1, c1, hr2, hx2⟩ := cutRun ao b.length cap b n hl rfl
  have HX1 := hid hx1
  have HWD : Hid (Wd w0 K r (b.drop n) m (w.setCell ⟨r, 0, none⟩ (.slice a1 (b.length - n) c1))) := hid (h.left (hx2 w0 hs))
  rw [← hq] at hc hb hl hr1 hr2 HWD
  have hw : IntKind.u64.wrap (q : Int) = (q : Int) := by rw [IntKind.wrap_u64]; omega
  have h1 : ¬ (q : Int) < (n : Int) := by omega
  clear h hs hq hb hx1 hx2
  go_enter Try.func58, Try.ntmps58
  go_wp2_with fail
  go_ret2
  exact ⟨ao, cap, rfl, HX1.out, HWD.out⟩
set_option maxRecDepth 100000 in
set_option maxHeartbeats 2000000 in
theorem count_any (w0 K w : World) (r : Nat) (b : Bs) (m : Msg) (h : Wd w0 K r b m w) (hb : b.length ≤ 40000) :
    Calls Try.prog 59 #[.pointer (some ⟨r, 0, none⟩)] w fun e w' => (∃ n b', rCount b = some (n, b') ∧ e = .returned (.tuple #[.int .u64 (n : Int), .bool true]) ∧ Wd w0 K r b' m w') ∨ (rCount b = none ∧ ∃ u : Int, e = .returned (.tuple #[.int .u64 u, .bool false]) ∧ Wd w0 K r b m w') := by
  obtain ⟨ao, cap, hc, hs, hf⟩ := h.cell0
  have HG := hid (get_any b w (.slice ao b.length cap) (hs.below h.bel) (by omega))
  have HGK : Hid ((getB b).2.1 ≤ b.length ∧ ((getB b).2.2 ≠ 0 → (getB b).2.1 = 0)) := hid (by
    cases b with
    | nil => exact ⟨by simp [getB], fun _ => rfl⟩
    | cons c l =>
      rw [getB_cons]
      split
      · exact ⟨by simp, fun _ => rfl⟩
      · split
        · exact ⟨by simp, fun _ => rfl⟩
        · rename_i h1 _
          exact ⟨by simp; omega, fun h => absurd rfl h⟩)
  have HRC : Hid (rCount b = if (getB b).2.2 = 0 then some ((getB b).1, b.drop (getB b).2.1) else none) := hid rfl
  obtain ⟨a1, c1, hr2, hx2⟩ := cutRun ao b.length cap b (getB b).2.1 HGK.out.1 rfl
  have HWD : Hid (Wd w0 K r (b.drop (getB b).2.1) m (w.setCell ⟨r, 0, none⟩ (.slice a1 (b.length - (getB b).2.1) c1))) := hid (h.left (hx2 w0 hs))
  have HW0 : Hid (Wd w0 K r b m (w.setCell ⟨r, 0, none⟩ (.slice ao b.length cap))) := hid (h.left hs)
  have hkl := HGK.out.1
  generalize getB b = gb at HG HGK HRC hr2 HWD hkl
  obtain ⟨n, k, e⟩ := gb
  simp only at HGK HRC hr2 HWD hkl
  clear h hs hx2
  obtain ⟨q, hq⟩ : ∃ q, q = b.length := ⟨_, rfl⟩
  rw [← hq] at hc hb hr2 HWD HG hkl HW0
  clear hq
  by_cases he : e = 0
  · subst he
    rw [if_pos rfl] at HRC
    go_enter Try.func59, Try.ntmps59
    go_wp2_with fail
    refine HG.out.mono ?_
    rintro e w1 ⟨rfl, hw1⟩
    obtain rfl := hw1.symm
    go_wp2_with fail
    go_ret2
    exact Or.inl ⟨n, _, HRC.out, rfl, HWD.out⟩
  · rw [if_neg he] at HRC
    have hk0 : k = 0 := HGK.out.2 he
    subst hk0
    clear HWD
    have he1 : ((e : Int) == 0) = false := by simpa using he
    have he2 : ¬ (e : Int) = 0 := by omega
    go_enter Try.func59, Try.ntmps59
    go_wp2_with fail
    refine HG.out.mono ?_
    rintro e w1 ⟨rfl, hw1⟩
    obtain rfl := hw1.symm
    go_wp2_with fail
    go_ret2
    exact Or.inr ⟨HRC.out, _, rfl, HW0.out⟩
end Go.Proofs.Ytdhmmllpioppfaa.V
