import Derived.Test.YtdhmmllpioppfaaGreatWEncE
import Derived.Test.YtdhmmllpioppfaaGreatClone
/- The reader of a message: bytes are taken, counted, told. -/
namespace Go.Proofs.YtdhmmllpioppfaaGreat.V
open Go.RowKit

abbrev i64s (l : List Int) : List Value := l.map (Value.int .i64)
/-- the reader at r has b left, and has told m so far (but for its records) -/
structure Wd (w0 K : World) (r : Nat) (b : Bs) (m : Msg) (w : World) : Prop where
  lo : w0.heap.size ≤ r
  blk : ∃ lv nv tv, w.heap[r]? = some (.cells #[lv, .int .u16 (m.k : Int), St m.ch, nv, tv, St m.tx, .slice none 0 0] 69 (0, 0)) ∧ Sl w0 lv b ∧ w.ownsRow w0.heap.size 2 1 nv m.ns.length (i64s m.ns) ∧ w.ownsRow w0.heap.size 46 1 tv m.ts.length (m.ts.map St)
  bel : Below w0.heap.size w0 w
  kp : ∀ (g : Nat) (cs : Array Value), K.heap[g]? = some (.cells cs 29 (0, 0)) → w.heap[g]? = some (.cells cs 29 (0, 0))
theorem Wd.lt {w0 K : World} {r : Nat} {b : Bs} {m : Msg} {w : World} (h : Wd w0 K r b m w) : r < w.heap.size := by
  obtain ⟨_, _, _, h1, _⟩ := h.blk
  exact lt_of_block h1
theorem Wd.below {w0 K : World} {r : Nat} {b : Bs} {m : Msg} {w w' : World} (h : Wd w0 K r b m w) (hb : Below w.heap.size w w') : Wd w0 K r b m w' := by
  obtain ⟨lv, nv, tv, h1, h2, h3, h4⟩ := h.blk
  exact ⟨h.lo, ⟨lv, nv, tv, (hb.block r (lt_of_block h1)).trans h1, h2, ownsRow_same h3 (fun g e => hb.block g (h3.lt g e).2), ownsRow_same h4 (fun g e => hb.block g (h4.lt g e).2)⟩, h.bel.trans (hb.mono h.bel.size), fun g cs hk => (hb.block g (lt_of_block (h.kp g cs hk))).trans (h.kp g cs hk)⟩
/-- a row of another type is not the reader's block -/
theorem own_apart {w : World} {B r : Nat} {e : TypeId} {sz : Nat} {v : Value} {n : Nat} {xs : List Value} {cs : Array Value} (h : w.heap[r]? = some (.cells cs 69 (0, 0))) (ho : w.ownsRow B e sz v n xs) (he : e ≠ 69) : ∀ g, v.ownBlock = some g → g ≠ r := by
  intro g hg hr
  subst hr
  rcases ho.2 with ⟨h3, _⟩ | ⟨g', cap, cur, h3, h4, h5, _⟩
  · rw [h3] at hg; cases hg
  · rw [h3] at hg
    cases hg
    rw [h] at h5
    cases h5
    exact he rfl
/-- a row of functions is not the reader's block, nor a row's of another type -/
theorem fn_apart {w : World} {g r : Nat} {cs ds : Array Value} (h : w.heap[r]? = some (.cells cs 69 (0, 0))) (hg : w.heap[g]? = some (.cells ds 29 (0, 0))) : g ≠ r := by
  intro e
  subst e
  rw [h] at hg
  cases hg
theorem fn_own {w : World} {B g : Nat} {e : TypeId} {sz : Nat} {v : Value} {n : Nat} {xs : List Value} {ds : Array Value} (ho : w.ownsRow B e sz v n xs) (hg : w.heap[g]? = some (.cells ds 29 (0, 0))) (he : e ≠ 29) : some g ≠ v.ownBlock := by
  intro e2
  rcases ho.2 with ⟨h3, _⟩ | ⟨g', cap, cur, h3, h4, h5, _⟩
  · rw [h3] at e2; cases e2
  · rw [h3] at e2
    cases e2
    rw [hg] at h5
    cases h5
    exact he rfl
/-- what is left changes -/
theorem Wd.left {w0 K : World} {r : Nat} {b b' : Bs} {m : Msg} {w : World} {lv' : Value} (h : Wd w0 K r b m w) (hs : Sl w0 lv' b') : Wd w0 K r b' m (w.setCell ⟨r, 0, none⟩ lv') := by
  obtain ⟨lv, nv, tv, h1, h2, h3, h4⟩ := h.blk
  refine ⟨h.lo, ⟨lv', nv, tv, by rw [heap_setCell_same h1]; rfl, hs, ownsRow_same h3 (fun g e => Below.heap_setCell _ _ _ _ (own_apart h1 h3 (by decide) g e)), ownsRow_same h4 (fun g e => Below.heap_setCell _ _ _ _ (own_apart h1 h4 (by decide) g e))⟩, ?_, fun g cs hk => ?_⟩
  · exact ⟨h.bel.os, h.bel.tape, h.bel.output, by simpa [World.setCell] using h.bel.size, fun k hk => by rw [Below.heap_setCell _ _ _ _ (by show k ≠ r; have := h.lo; omega)]; exact h.bel.block k hk⟩
  · exact (Below.heap_setCell _ _ _ _ (fn_apart h1 (h.kp g cs hk))).trans (h.kp g cs hk)
theorem Wd.cell0 {w0 K : World} {r : Nat} {b : Bs} {m : Msg} {w : World} (h : Wd w0 K r b m w) : ∃ ao cap, w.cell? ⟨r, 0, none⟩ = some (.slice ao b.length cap) ∧ Sl w0 (.slice ao b.length cap) b ∧ w.frozen? ⟨r, 0, none⟩ = false := by
  obtain ⟨lv, nv, tv, h1, h2, h3, h4⟩ := h.blk
  obtain ⟨ao, cap, rfl⟩ := h2.shape
  exact ⟨ao, cap, by rw [cell_of_heap h1]; rfl, h2, frozen_of_heap h1 0⟩
set_option maxRecDepth 100000 in
set_option maxHeartbeats 2000000 in
theorem take_no (w0 K w : World) (r : Nat) (b : Bs) (m : Msg) (n : Nat) (h : Wd w0 K r b m w) (hb : b.length ≤ 40000) (hl : ¬ n ≤ b.length) :
    Calls Tryz.prog 77 #[.pointer (some ⟨r, 0, none⟩), .int .u64 (n : Int)] w fun e w' => e = .returned (.tuple #[.slice none 0 0, .bool false]) ∧ w' = w := by
  obtain ⟨ao, cap, hc, hs, hf⟩ := h.cell0
  obtain ⟨q, hq⟩ : ∃ q, q = b.length := ⟨_, rfl⟩
  rw [← hq] at hc hb hl
  have hw : IntKind.u64.wrap (q : Int) = (q : Int) := by rw [IntKind.wrap_u64]; omega
  have h1 : (q : Int) < (n : Int) := by omega
  clear h hs hf hq hl hb
  go_enter Tryz.func77, Tryz.ntmps77
  go_wp2_with fail
  go_ret2
  exact ⟨rfl, rfl⟩
set_option maxRecDepth 100000 in
set_option maxHeartbeats 2000000 in
theorem take_yes (w0 K w : World) (r : Nat) (b : Bs) (m : Msg) (n : Nat) (h : Wd w0 K r b m w) (hb : b.length ≤ 40000) (hl : n ≤ b.length) :
    Calls Tryz.prog 77 #[.pointer (some ⟨r, 0, none⟩), .int .u64 (n : Int)] w fun e w' => ∃ ao cap, e = .returned (.tuple #[.slice ao n cap, .bool true]) ∧ Sl w0 (.slice ao n cap) (b.take n) ∧ Wd w0 K r (b.drop n) m w' := by
  obtain ⟨ao, cap, hc, hs, hf⟩ := h.cell0
  obtain ⟨q, hq⟩ : ∃ q, q = b.length := ⟨_, rfl⟩
  obtain ⟨hr1, hx1⟩ := hs.takeRun n hl rfl
  obtain ⟨a1, c1, hr2, hx2⟩ := cutRun ao b.length cap b n hl rfl
  have HX1 := hid hx1
  have HWD : Hid (Wd w0 K r (b.drop n) m (w.setCell ⟨r, 0, none⟩ (.slice a1 (b.length - n) c1))) := hid (h.left (hx2 w0 hs))
  rw [← hq] at hc hb hl hr1 hr2 HWD
  have hw : IntKind.u64.wrap (q : Int) = (q : Int) := by rw [IntKind.wrap_u64]; omega
  have h1 : ¬ (q : Int) < (n : Int) := by omega
  clear h hs hq hb hx1 hx2
  go_enter Tryz.func77, Tryz.ntmps77
  go_wp2_with fail
  go_ret2
  exact ⟨ao, cap, rfl, HX1.out, HWD.out⟩
set_option maxRecDepth 100000 in
set_option maxHeartbeats 2000000 in
theorem count_any (w0 K w : World) (r : Nat) (b : Bs) (m : Msg) (h : Wd w0 K r b m w) (hb : b.length ≤ 40000) :
    Calls Tryz.prog 78 #[.pointer (some ⟨r, 0, none⟩)] w fun e w' => (∃ n b', rCount b = some (n, b') ∧ e = .returned (.tuple #[.int .u64 (n : Int), .bool true]) ∧ Wd w0 K r b' m w') ∨ (rCount b = none ∧ ∃ u : Int, e = .returned (.tuple #[.int .u64 u, .bool false]) ∧ Wd w0 K r b m w') := by
  obtain ⟨ao, cap, hc, hs, hf⟩ := h.cell0
  have HG := hid (get_any b w (.slice ao b.length cap) (hs.below h.bel) (by omega))
  have HGK : Hid ((getB b).2.1 ≤ b.length ∧ ((getB b).2.2 ≠ 0 → (getB b).2.1 = 0)) := hid (by
    cases b with
    | nil => exact ⟨by simp [getB], fun _ => rfl⟩
    | cons c l =>
      rw [getB_cons]
      split
      · exact ⟨by simp, fun _ => rfl⟩
      · split
        · exact ⟨by simp, fun _ => rfl⟩
        · rename_i h1 _
          exact ⟨by simp; omega, fun h => absurd rfl h⟩)
  have HRC : Hid (rCount b = if (getB b).2.2 = 0 then some ((getB b).1, b.drop (getB b).2.1) else none) := hid rfl
  obtain ⟨a1, c1, hr2, hx2⟩ := cutRun ao b.length cap b (getB b).2.1 HGK.out.1 rfl
  have HWD : Hid (Wd w0 K r (b.drop (getB b).2.1) m (w.setCell ⟨r, 0, none⟩ (.slice a1 (b.length - (getB b).2.1) c1))) := hid (h.left (hx2 w0 hs))
  have HW0 : Hid (Wd w0 K r b m (w.setCell ⟨r, 0, none⟩ (.slice ao b.length cap))) := hid (h.left hs)
  have hkl := HGK.out.1
  generalize getB b = gb at HG HGK HRC hr2 HWD hkl
  obtain ⟨n, k, e⟩ := gb
  simp only at HGK HRC hr2 HWD hkl
  clear h hs hx2
  obtain ⟨q, hq⟩ : ∃ q, q = b.length := ⟨_, rfl⟩
  rw [← hq] at hc hb hr2 HWD HG hkl HW0
  clear hq
  by_cases he : e = 0
  · subst he
    rw [if_pos rfl] at HRC
    go_enter Tryz.func78, Tryz.ntmps78
    go_wp2_with fail
    refine HG.out.mono ?_
    rintro e w1 ⟨rfl, hw1⟩
    obtain rfl := hw1.symm
    go_wp2_with fail
    go_ret2
    exact Or.inl ⟨n, _, HRC.out, rfl, HWD.out⟩
  · rw [if_neg he] at HRC
    have hk0 : k = 0 := HGK.out.2 he
    subst hk0
    clear HWD
    have he1 : ((e : Int) == 0) = false := by simpa using he
    have he2 : ¬ (e : Int) = 0 := by omega
    go_enter Tryz.func78, Tryz.ntmps78
    go_wp2_with fail
    refine HG.out.mono ?_
    rintro e w1 ⟨rfl, hw1⟩
    obtain rfl := hw1.symm
    go_wp2_with fail
    go_ret2
    exact Or.inr ⟨HRC.out, _, rfl, HW0.out⟩
end Go.Proofs.YtdhmmllpioppfaaGreat.V

/- The reader's parts. -/
namespace Go.Proofs.YtdhmmllpioppfaaGreat.V
open Go.RowKit

set_option maxRecDepth 100000 in
set_option maxHeartbeats 2000000 in
theorem wide_no (w0 K w : World) (r : Nat) (b : Bs) (m : Msg) (n : Nat) (h : Wd w0 K r b m w) (hb : b.length ≤ 40000) (hl : ¬ n ≤ b.length) :
    Calls Tryz.prog 60 #[.pointer (some ⟨r, 0, none⟩), .int .u64 (n : Int)] w fun e w' => e = .returned (.tuple #[.int .u64 0, .bool false]) ∧ w' = w := by
  have HT := hid (take_no w0 K w r b m n h hb hl)
  clear h hb hl
  go_enter Tryz.func60, Tryz.ntmps60
  go_wp2_with fail
  refine HT.out.mono ?_
  rintro e w1 ⟨rfl, hw1⟩
  obtain rfl := hw1.symm
  go_wp2_with fail
  refine wp_loop_rounds 1 ?_
  rw [rounds_succ]
  go_wp2_with fail
  go_ret2
  exact ⟨rfl, rfl⟩
set_option maxRecDepth 100000 in
set_option maxHeartbeats 2000000 in
theorem wide_yes (w0 K w : World) (r : Nat) (b : Bs) (m : Msg) (n : Nat) (h : Wd w0 K r b m w) (hb : b.length ≤ 40000) (hn : n ≤ 8) (hl : n ≤ b.length) :
    Calls Tryz.prog 60 #[.pointer (some ⟨r, 0, none⟩), .int .u64 (n : Int)] w fun e w' => e = .returned (.tuple #[.int .u64 (numOf 0 (b.take n) : Int), .bool true]) ∧ Wd w0 K r (b.drop n) m w' := by
  have HT := hid (take_yes w0 K w r b m n h hb hl)
  have HLN : Hid ((b.take n).length = n) := hid (by rw [List.length_take]; omega)
  clear h hb hl
  generalize b.take n = x at HT HLN ⊢
  go_enter Tryz.func60, Tryz.ntmps60
  go_wp2_with fail
  refine HT.out.mono ?_
  rintro e w1 ⟨ao, cap, rfl, hsl, hwd⟩
  have HWD := hid hwd
  have HC : Hid (∀ i (h : i < x.length), ∃ g o, ao = some ⟨g, o, none⟩ ∧ w1.cell? ⟨g, o + i, none⟩ = some (.int .u8 (x[i].toNat : Int))) := hid (fun i hi => by
    obtain ⟨g, o, e, _, _, _, hc⟩ := (hsl.below hwd.bel).at (fun e => by subst e; simp at hi)
    exact ⟨g, o, e, hc i hi⟩)
  clear hsl hwd HT
  go_wp2_with fail
  go_loopg [8, 10, 19] n (fun gg v8 _v10 v19 wr => wr = w1 ∧ ∃ i : Nat, i ≤ n ∧ gg = n - i ∧ v19 = .int .i64 (i : Int) ∧ v8 = .int .u64 (numOf 0 (x.take i) : Int))
  case atStart => exact ⟨rfl, 0, by omega, by omega, rfl, rfl⟩
  case round =>
    obtain ⟨hwr, i, hi, rfl, rfl, rfl⟩ := hrel
    subst hwr
    by_cases hil : i < n
    · have hi1 : (i : Int) < (n : Int) := by omega
      have hir : i < x.length := by rw [HLN.out]; exact hil
      obtain ⟨g, o, hao, hci⟩ := HC.out i hir
      subst hao
      have hx := x[i].toNat_lt
      have HST : Hid (numOf 0 (x.take (i + 1)) = 256 * numOf 0 (x.take i) + x[i].toNat) := hid (by
        rw [List.take_succ_eq_append_getElem hir, numOf_app]; rfl)
      have ha : numOf 0 (x.take i) < 72057594037927936 := by
        have h1 := numOf_lt (x.take i)
        have h2 : 256 ^ (x.take i).length ≤ 256 ^ 7 := Nat.pow_le_pow_right (by decide) (by simp; omega)
        have h3 : (256 : Nat) ^ 7 = 72057594037927936 := by decide
        omega
      generalize numOf 0 (x.take i) = a at *
      generalize x[i].toNat = y at *
      have HOR := hid (or_byte a y ha hx)
      go_wp2_with fail
      go_roundg (n - (i + 1))
      case measure => omega
      case rel => exact ⟨rfl, i + 1, by omega, rfl, by go_num, by rw [HST.out, HOR.out]⟩
    · have hi1 : ¬ (i : Int) < (n : Int) := by omega
      have HE : Hid (x.take i = x) := hid (List.take_of_length_le (by rw [HLN.out]; omega))
      go_wp2_with fail
      go_ret2
      exact ⟨by rw [HE.out]; rfl, HWD.out⟩
set_option maxRecDepth 100000 in
set_option maxHeartbeats 2000000 in
theorem bytes_any (w0 K w : World) (r : Nat) (b : Bs) (m : Msg) (h : Wd w0 K r b m w) (hb : b.length ≤ 40000) :
    Calls Tryz.prog 61 #[.pointer (some ⟨r, 0, none⟩)] w fun e w' => (∃ s b', rText b = some (s, b') ∧ e = .returned (.tuple #[St s, .bool true]) ∧ Wd w0 K r b' m w') ∨ (rText b = none ∧ ∃ s b', e = .returned (.tuple #[St s, .bool false]) ∧ Wd w0 K r b' m w') := by
  have HC := hid (count_any w0 K w r b m h hb)
  have HB := hid hb
  clear h hb
  go_enter Tryz.func61, Tryz.ntmps61
  go_wp2_with fail
  refine HC.out.mono ?_
  rintro e w1 (⟨n, b', hrc, rfl, hwd⟩ | ⟨hrc, u, rfl, hwd⟩)
  · have hlb : b'.length ≤ 40000 ∧ n < 18446744073709551616 := by
      obtain ⟨e1, e2⟩ := rCount_ok hrc
      have := HB.out
      rw [e1, List.length_append] at this
      exact ⟨by omega, e2⟩
    by_cases hl : n ≤ b'.length
    · have HT := hid (take_yes w0 K w1 r b' m n hwd hlb.1 hl)
      have HRT : Hid (rText b = some (b'.take n, b'.drop n)) := hid (by unfold rText rTake; rw [hrc]; simp [hl])
      have HCL : Hid (∀ W, Calls Tryz.prog 79 #[St (b'.take n)] W fun e w' => e = .returned (St (b'.take n)) ∧ Below W.heap.size W w') := hid (fun W => Go.Proofs.YtdhmmllpioppfaaGreat.clone_any ⟨(b'.take n).toArray⟩ W (by
        show (b'.take n).toArray.size ≤ 40000
        rw [List.size_toArray, List.length_take]
        omega))
      clear hrc hwd hlb hl HC
      generalize b'.take n = x at HT HRT HCL
      go_wp2_with fail
      refine HT.out.mono ?_
      rintro e w2 ⟨ao, cap, rfl, hsl, hwd⟩
      have hcv := (hsl.below hwd.bel).string
      have HWD := hid hwd
      clear hsl hwd HT
      go_wp2_with fail
      refine (HCL.out _).mono ?_
      rintro e w3 ⟨rfl, hb3⟩
      have HW3 := hid (HWD.out.below hb3)
      clear hb3 hcv
      go_wp2_with fail
      go_ret2
      exact Or.inl ⟨_, _, HRT.out, rfl, HW3.out⟩
    · have HT := hid (take_no w0 K w1 r b' m n hwd hlb.1 hl)
      have HRT : Hid (rText b = none) := hid (by unfold rText rTake; rw [hrc]; simp [hl])
      have HWD := hid hwd
      have HCL : Hid (∀ W, Calls Tryz.prog 79 #[St []] W fun e w' => e = .returned (St []) ∧ Below W.heap.size W w') := hid (fun W => Go.Proofs.YtdhmmllpioppfaaGreat.clone_any ⟨#[]⟩ W (by decide))
      have hcv := fun W : World => nil_string' W
      clear hrc hwd hlb hl HC
      go_wp2_with fail
      refine HT.out.mono ?_
      rintro e w2 ⟨rfl, hw2⟩
      obtain rfl := hw2.symm
      go_wp2_with fail
      refine (HCL.out _).mono ?_
      rintro e w3 ⟨rfl, hb3⟩
      have HW3 := hid (HWD.out.below hb3)
      clear hb3
      go_wp2_with fail
      go_ret2
      exact Or.inr ⟨HRT.out, [], _, rfl, HW3.out⟩
  · have HRT : Hid (rText b = none) := hid (by unfold rText; rw [hrc]; rfl)
    have HWD := hid hwd
    clear hrc hwd HC
    go_wp2_with fail
    go_ret2
    exact Or.inr ⟨HRT.out, [], _, rfl, HWD.out⟩
/-- what was told changes -/
theorem Wd.tell {w0 K : World} {r : Nat} {b : Bs} {m m' : Msg} {w : World} {j : Nat} {v : Value} (h : Wd w0 K r b m w) (hn : m'.ns = m.ns) (ht : m'.ts = m.ts) (hj : ∀ lv nv tv, (#[lv, .int .u16 (m.k : Int), St m.ch, nv, tv, St m.tx, .slice none 0 0] : Array Value).setIfInBounds j v = #[lv, .int .u16 (m'.k : Int), St m'.ch, nv, tv, St m'.tx, .slice none 0 0]) : Wd w0 K r b m' (w.setCell ⟨r, j, none⟩ v) := by
  obtain ⟨lv, nv, tv, h1, h2, h3, h4⟩ := h.blk
  refine ⟨h.lo, ⟨lv, nv, tv, by rw [heap_setCell_same h1, hj], h2, by rw [hn]; exact ownsRow_same h3 (fun g e => Below.heap_setCell _ _ _ _ (own_apart h1 h3 (by decide) g e)), by rw [ht]; exact ownsRow_same h4 (fun g e => Below.heap_setCell _ _ _ _ (own_apart h1 h4 (by decide) g e))⟩, ?_, fun g cs hk => ?_⟩
  · exact ⟨h.bel.os, h.bel.tape, h.bel.output, by simpa [World.setCell] using h.bel.size, fun k hk => by rw [Below.heap_setCell _ _ _ _ (by show k ≠ r; have := h.lo; omega)]; exact h.bel.block k hk⟩
  · exact (Below.heap_setCell _ _ _ _ (fn_apart h1 (h.kp g cs hk))).trans (h.kp g cs hk)
theorem Wd.cells {w0 K : World} {r : Nat} {b : Bs} {m : Msg} {w : World} (h : Wd w0 K r b m w) : w.cell? ⟨r, 1, none⟩ = some (.int .u16 (m.k : Int)) ∧ w.cell? ⟨r, 2, none⟩ = some (St m.ch) ∧ w.cell? ⟨r, 5, none⟩ = some (St m.tx) ∧ ∀ o, w.frozen? ⟨r, o, none⟩ = false := by
  obtain ⟨lv, nv, tv, h1, _⟩ := h.blk
  exact ⟨by rw [cell_of_heap h1]; rfl, by rw [cell_of_heap h1]; rfl, by rw [cell_of_heap h1]; rfl, fun o => frozen_of_heap h1 o⟩
/-- what a part answers: it was read, and is told, or it can't be read -/
def Part {α : Type} (w0 K : World) (r : Nat) (f : Bs → Option (α × Bs)) (add : Msg → α → Msg) (b : Bs) (m : Msg) (e : Ending) (w' : World) : Prop :=
  (∃ a b', f b = some (a, b') ∧ e = .returned (.bool true) ∧ Wd w0 K r b' (add m a) w') ∨ (f b = none ∧ e = .returned (.bool false) ∧ ∃ b' m', Wd w0 K r b' m' w')
set_option maxRecDepth 100000 in
set_option maxHeartbeats 2000000 in
theorem kind_any (w0 K w : World) (r : Nat) (b : Bs) (m : Msg) (h : Wd w0 K r b m w) (hb : b.length ≤ 40000) :
    Calls Tryz.prog 43 #[.pointer (some ⟨r, 0, none⟩)] w (Part w0 K r (rWide 2) (fun m k => { m with k := k }) b m) := by
  by_cases hl : 2 ≤ b.length
  · have HT := hid (wide_yes w0 K w r b m 2 h hb (by decide) hl)
    have HR : Hid (rWide 2 b = some (numOf 0 (b.take 2), b.drop 2)) := hid (by unfold rWide rTake; rw [if_pos hl]; rfl)
    have hlt : numOf 0 (b.take 2) < 65536 := by
      have := numOf_lt (b.take 2)
      rw [List.length_take, Nat.min_eq_left hl] at this
      exact this
    clear h hb hl
    generalize numOf 0 (b.take 2) = u at HT HR hlt
    have hw : IntKind.u16.wrap (u : Int) = (u : Int) := by rw [IntKind.wrap_u16]; omega
    go_enter Tryz.func43, Tryz.ntmps43
    go_wp2_with fail
    refine HT.out.mono ?_
    rintro e w1 ⟨rfl, hwd⟩
    have HWD : Hid (Wd w0 K r (b.drop 2) { m with k := u } (w1.setCell ⟨r, 1, none⟩ (.int .u16 (u : Int)))) := hid (hwd.tell rfl rfl (fun _ _ _ => rfl))
    obtain ⟨c1, _, _, hf⟩ := hwd.cells
    have hf1 := hf 1
    clear hwd hf HT
    go_wp2_with fail
    go_ret
    exact Or.inl ⟨u, _, HR.out, rfl, HWD.out⟩
  · have HT := hid (wide_no w0 K w r b m 2 h hb hl)
    have HR : Hid (rWide 2 b = none) := hid (by unfold rWide rTake; rw [if_neg hl]; rfl)
    have HWD : Hid (Wd w0 K r b { m with k := 0 } (w.setCell ⟨r, 1, none⟩ (.int .u16 0))) := hid (h.tell rfl rfl (fun _ _ _ => rfl))
    obtain ⟨c1, _, _, hf⟩ := h.cells
    have hf1 := hf 1
    clear h hb hl hf
    go_enter Tryz.func43, Tryz.ntmps43
    go_wp2_with fail
    refine HT.out.mono ?_
    rintro e w1 ⟨rfl, hw1⟩
    obtain rfl := hw1.symm
    go_wp2_with fail
    go_ret
    exact Or.inr ⟨HR.out, rfl, _, _, HWD.out⟩
set_option maxRecDepth 100000 in
set_option maxHeartbeats 2000000 in
theorem channel_any (w0 K w : World) (r : Nat) (b : Bs) (m : Msg) (h : Wd w0 K r b m w) (hb : b.length ≤ 40000) :
    Calls Tryz.prog 44 #[.pointer (some ⟨r, 0, none⟩)] w (Part w0 K r rText (fun m s => { m with ch := s }) b m) := by
  have HT := hid (bytes_any w0 K w r b m h hb)
  clear h hb
  go_enter Tryz.func44, Tryz.ntmps44
  go_wp2_with fail
  refine HT.out.mono ?_
  rintro e w1 (⟨s, b', hr, rfl, hwd⟩ | ⟨hr, s, b', rfl, hwd⟩)
  all_goals
    have HR := hid hr
    have HWD : Hid (Wd w0 K r b' { m with ch := s } (w1.setCell ⟨r, 2, none⟩ (St s))) := hid (hwd.tell rfl rfl (fun _ _ _ => rfl))
    obtain ⟨_, c2, c5, hf⟩ := hwd.cells
    have hf1 := hf 2
    clear hwd hf hr HT
    go_wp2_with fail
    go_ret
    first
      | exact Or.inl ⟨s, _, HR.out, rfl, HWD.out⟩
      | exact Or.inr ⟨HR.out, rfl, _, _, HWD.out⟩
set_option maxRecDepth 100000 in
set_option maxHeartbeats 2000000 in
theorem text_any (w0 K w : World) (r : Nat) (b : Bs) (m : Msg) (h : Wd w0 K r b m w) (hb : b.length ≤ 40000) :
    Calls Tryz.prog 47 #[.pointer (some ⟨r, 0, none⟩)] w (Part w0 K r rText (fun m s => { m with tx := s }) b m) := by
  have HT := hid (bytes_any w0 K w r b m h hb)
  clear h hb
  go_enter Tryz.func47, Tryz.ntmps47
  go_wp2_with fail
  refine HT.out.mono ?_
  rintro e w1 (⟨s, b', hr, rfl, hwd⟩ | ⟨hr, s, b', rfl, hwd⟩)
  all_goals
    have HR := hid hr
    have HWD : Hid (Wd w0 K r b' { m with tx := s } (w1.setCell ⟨r, 5, none⟩ (St s))) := hid (hwd.tell rfl rfl (fun _ _ _ => rfl))
    obtain ⟨_, c2, c5, hf⟩ := hwd.cells
    have hf1 := hf 5
    clear hwd hf hr HT
    go_wp2_with fail
    go_ret
    first
      | exact Or.inl ⟨s, _, HR.out, rfl, HWD.out⟩
      | exact Or.inr ⟨HR.out, rfl, _, _, HWD.out⟩
end Go.Proofs.YtdhmmllpioppfaaGreat.V

/- The reader's lists. -/
namespace Go.Proofs.YtdhmmllpioppfaaGreat.V
open Go.RowKit

theorem Tryz.info2 : (Tryz.prog.info? 2).map (fun i => (i.zero, i.size, i.bytes)) = some (some (.int .i64 0), 1, 8) := by kernel_rfl
theorem Tryz.info46 : (Tryz.prog.info? 46).map (fun i => (i.zero, i.size, i.bytes)) = some (some (.string ByteArray.empty), 1, 16) := by kernel_rfl
theorem cell_new_num (W : World) (x : Int) (j : Nat) (u : Value) (hu : [.int .i64 x][j]? = some u) : (W.alloc (.cells #[.int .i64 x] 2)).cell? ((⟨W.heap.size, 0, none⟩ : Addr).add j) = some u := by
  have hj : j = 0 := by
    apply Classical.byContradiction
    intro hn
    rw [List.getElem?_eq_none (by simp; omega)] at hu
    cases hu
  subst hj
  rw [add_plain, cell_of_heap (heap_alloc_new W _)]
  simpa using hu
theorem append_num (W : World) (B : Nat) (v : Value) (l : List Int) (x : Int) (hown : W.ownsRow B 2 1 v l.length (i64s l)) (hl : l.length < 1000000000000) (hB : B ≤ W.heap.size) :
    ∃ ao kc w', (∀ t, (Builtin.append_ #[23, 23] t #[v, .slice (some ⟨W.heap.size, 0, none⟩) 1 1]).run Tryz.prog (W.alloc (.cells #[.int .i64 x] 2)) = .ok (.slice ao (l.length + 1) kc) w') ∧ w'.ownsRow B 2 1 (.slice ao (l.length + 1) kc) (l ++ [x]).length (i64s (l ++ [x])) ∧ (W.alloc (.cells #[.int .i64 x] 2)).grownBy w' v.ownBlock := by
  obtain ⟨i0, hi, hz0, hz1, hz2⟩ := info_get Tryz.info2
  obtain ⟨v', w', h1, h2, h3, _⟩ := run_append_own (P := Tryz.prog) (W.alloc (.cells #[.int .i64 x] 2)) B 23 23 2 i0 _ 1 8 Tryz.underlying23 hi hz0 hz1 hz2 rfl (by decide) v l.length (i64s l) (hown.alloc _) ⟨W.heap.size, 0, none⟩ 1 1 [.int .i64 x] rfl (fun j u hu => cell_new_num W x j u hu) (fun u hu => by simp at hu; subst hu; rfl) (by unfold maxLen; omega) (by omega) (by simp; omega)
  have h4 : ∃ ao kc, v' = .slice ao (l.length + 1) kc := by
    rcases h2.2 with ⟨_, e⟩ | ⟨g, cap, _, e, _⟩
    · omega
    · exact ⟨_, _, e⟩
  obtain ⟨ao, kc, rfl⟩ := h4
  exact ⟨ao, kc, w', fun t => h1, by simpa using h2, h3⟩
theorem cell_new_term (W : World) (x : Bs) (j : Nat) (u : Value) (hu : [St x][j]? = some u) : (W.alloc (.cells #[St x] 46)).cell? ((⟨W.heap.size, 0, none⟩ : Addr).add j) = some u := by
  have hj : j = 0 := by
    apply Classical.byContradiction
    intro hn
    rw [List.getElem?_eq_none (by simp; omega)] at hu
    cases hu
  subst hj
  rw [add_plain, cell_of_heap (heap_alloc_new W _)]
  simpa using hu
theorem append_term (W : World) (B : Nat) (v : Value) (l : List Bs) (x : Bs) (hown : W.ownsRow B 46 1 v l.length (l.map St)) (hl : l.length < 1000000000000) (hB : B ≤ W.heap.size) :
    ∃ ao kc w', (∀ t, (Builtin.append_ #[24, 24] t #[v, .slice (some ⟨W.heap.size, 0, none⟩) 1 1]).run Tryz.prog (W.alloc (.cells #[St x] 46)) = .ok (.slice ao (l.length + 1) kc) w') ∧ w'.ownsRow B 46 1 (.slice ao (l.length + 1) kc) (l ++ [x]).length ((l ++ [x]).map St) ∧ (W.alloc (.cells #[St x] 46)).grownBy w' v.ownBlock := by
  obtain ⟨i0, hi, hz0, hz1, hz2⟩ := info_get Tryz.info46
  obtain ⟨v', w', h1, h2, h3, _⟩ := run_append_own (P := Tryz.prog) (W.alloc (.cells #[St x] 46)) B 24 24 46 i0 _ 1 16 Tryz.underlying24 hi hz0 hz1 hz2 rfl (by decide) v l.length (l.map St) (hown.alloc _) ⟨W.heap.size, 0, none⟩ 1 1 [St x] rfl (fun j u hu => cell_new_term W x j u hu) (fun u hu => by simp at hu; subst hu; rfl) (by unfold maxLen; omega) (by omega) (by simp; omega)
  have h4 : ∃ ao kc, v' = .slice ao (l.length + 1) kc := by
    rcases h2.2 with ⟨_, e⟩ | ⟨g, cap, _, e, _⟩
    · omega
    · exact ⟨_, _, e⟩
  obtain ⟨ao, kc, rfl⟩ := h4
  exact ⟨ao, kc, w', fun t => h1, by simpa using h2, h3⟩
/-- one more is told -/
theorem Wd.add_num {w0 K : World} {r : Nat} {b : Bs} {m : Msg} {w : World} (h : Wd w0 K r b m w) (x : Int) (hl : m.ns.length < 1000000) :
    ∃ ao cap a1 c1 w1, w.cell? ⟨r, 3, none⟩ = some (.slice ao m.ns.length cap) ∧ (∀ t, (Builtin.append_ #[23, 23] t #[.slice ao m.ns.length cap, .slice (some ⟨w.heap.size, 0, none⟩) 1 1]).run Tryz.prog (w.alloc (.cells #[.int .i64 x] 2)) = .ok (.slice a1 (m.ns.length + 1) c1) w1) ∧ w1.cell? ⟨r, 3, none⟩ = some (.slice ao m.ns.length cap) ∧ w1.frozen? ⟨r, 3, none⟩ = false ∧ Wd w0 K r b { m with ns := m.ns ++ [x] } (w1.setCell ⟨r, 3, none⟩ (.slice a1 (m.ns.length + 1) c1)) := by
  obtain ⟨lv, nv, tv, h1, h2, h3, h4⟩ := h.blk
  have hsz := h.bel.size
  have hlt := lt_of_block h1
  obtain ⟨a1, c1, w1, hrun, hown, hg⟩ := append_num w w0.heap.size nv m.ns x h3 (by omega) hsz
  have hr : w1.heap[r]? = some (.cells #[lv, .int .u16 (m.k : Int), St m.ch, nv, tv, St m.tx, .slice none 0 0] 69 (0, 0)) := by
    rw [hg.block r (by simp; omega) (fun e => own_apart h1 h3 (by decide) r e.symm rfl), Below.heap_alloc w _ r hlt]
    exact h1
  have hother : w1.ownsRow w0.heap.size 46 1 tv m.ts.length (m.ts.map St) := ownsRow_same h4 (fun g e => by
    have hgl := (h4.lt g e).2
    rw [hg.block g (by simp; omega) (ne_of_type h4 h3 (by decide) e)]
    exact Below.heap_alloc w _ g hgl)
  obtain ⟨ao, cap, hv⟩ : ∃ ao cap, nv = .slice ao m.ns.length cap := by
    rcases h3.2 with ⟨h5, h6⟩ | ⟨g, cap, _, h5, _⟩
    · rw [h6]; exact ⟨_, _, h5⟩
    · exact ⟨_, _, h5⟩
  subst hv
  refine ⟨ao, cap, a1, c1, w1, by rw [cell_of_heap h1]; rfl, hrun, by rw [cell_of_heap hr]; rfl, frozen_of_heap hr 3, h.lo, ⟨lv, .slice a1 (m.ns.length + 1) c1, tv, by rw [heap_setCell_same hr]; rfl, h2, ?_, ?_⟩, ?_, fun g cs hk => ?_⟩
  · exact ownsRow_same hown (fun g e => Below.heap_setCell _ _ _ _ (own_apart hr hown (by decide) g e))
  · exact ownsRow_same hother (fun g e => Below.heap_setCell _ _ _ _ (own_apart hr hother (by decide) g e))
  · have hb1 : Below w0.heap.size w w1 := ⟨hg.os, hg.tape, hg.output, by have := hg.size; simp at this; omega, fun k hk => by
      rw [hg.block k (by simp; omega) (fun e => by have := (h3.lt k e.symm).1; omega)]
      exact Below.heap_alloc w _ k (by omega)⟩
    have hb2 := h.bel.trans hb1
    exact ⟨hb2.os, hb2.tape, hb2.output, by simpa [World.setCell] using hb2.size, fun k hk => by rw [Below.heap_setCell _ _ _ _ (by show k ≠ r; have := h.lo; omega)]; exact hb2.block k hk⟩
  · have hk0 := h.kp g cs hk
    have hk1 : w1.heap[g]? = some (.cells cs 29 (0, 0)) := by
      rw [hg.block g (by have := lt_of_block hk0; simp; omega) (fn_own h3 hk0 (by decide)), Below.heap_alloc w _ g (lt_of_block hk0)]
      exact hk0
    exact (Below.heap_setCell _ _ _ _ (fn_apart hr hk1)).trans hk1
/-- one more is told -/
theorem Wd.add_term {w0 K : World} {r : Nat} {b : Bs} {m : Msg} {w : World} (h : Wd w0 K r b m w) (x : Bs) (hl : m.ts.length < 1000000) :
    ∃ ao cap a1 c1 w1, w.cell? ⟨r, 4, none⟩ = some (.slice ao m.ts.length cap) ∧ (∀ t, (Builtin.append_ #[24, 24] t #[.slice ao m.ts.length cap, .slice (some ⟨w.heap.size, 0, none⟩) 1 1]).run Tryz.prog (w.alloc (.cells #[St x] 46)) = .ok (.slice a1 (m.ts.length + 1) c1) w1) ∧ w1.cell? ⟨r, 4, none⟩ = some (.slice ao m.ts.length cap) ∧ w1.frozen? ⟨r, 4, none⟩ = false ∧ Wd w0 K r b { m with ts := m.ts ++ [x] } (w1.setCell ⟨r, 4, none⟩ (.slice a1 (m.ts.length + 1) c1)) := by
  obtain ⟨lv, nv, tv, h1, h2, h3, h4⟩ := h.blk
  have hsz := h.bel.size
  have hlt := lt_of_block h1
  obtain ⟨a1, c1, w1, hrun, hown, hg⟩ := append_term w w0.heap.size tv m.ts x h4 (by omega) hsz
  have hr : w1.heap[r]? = some (.cells #[lv, .int .u16 (m.k : Int), St m.ch, nv, tv, St m.tx, .slice none 0 0] 69 (0, 0)) := by
    rw [hg.block r (by simp; omega) (fun e => own_apart h1 h4 (by decide) r e.symm rfl), Below.heap_alloc w _ r hlt]
    exact h1
  have hother : w1.ownsRow w0.heap.size 2 1 nv m.ns.length (i64s m.ns) := ownsRow_same h3 (fun g e => by
    have hgl := (h3.lt g e).2
    rw [hg.block g (by simp; omega) (ne_of_type h3 h4 (by decide) e)]
    exact Below.heap_alloc w _ g hgl)
  obtain ⟨ao, cap, hv⟩ : ∃ ao cap, tv = .slice ao m.ts.length cap := by
    rcases h4.2 with ⟨h5, h6⟩ | ⟨g, cap, _, h5, _⟩
    · rw [h6]; exact ⟨_, _, h5⟩
    · exact ⟨_, _, h5⟩
  subst hv
  refine ⟨ao, cap, a1, c1, w1, by rw [cell_of_heap h1]; rfl, hrun, by rw [cell_of_heap hr]; rfl, frozen_of_heap hr 4, h.lo, ⟨lv, nv, .slice a1 (m.ts.length + 1) c1, by rw [heap_setCell_same hr]; rfl, h2, ?_, ?_⟩, ?_, fun g cs hk => ?_⟩
  · exact ownsRow_same hother (fun g e => Below.heap_setCell _ _ _ _ (own_apart hr hother (by decide) g e))
  · exact ownsRow_same hown (fun g e => Below.heap_setCell _ _ _ _ (own_apart hr hown (by decide) g e))
  · have hb1 : Below w0.heap.size w w1 := ⟨hg.os, hg.tape, hg.output, by have := hg.size; simp at this; omega, fun k hk => by
      rw [hg.block k (by simp; omega) (fun e => by have := (h4.lt k e.symm).1; omega)]
      exact Below.heap_alloc w _ k (by omega)⟩
    have hb2 := h.bel.trans hb1
    exact ⟨hb2.os, hb2.tape, hb2.output, by simpa [World.setCell] using hb2.size, fun k hk => by rw [Below.heap_setCell _ _ _ _ (by show k ≠ r; have := h.lo; omega)]; exact hb2.block k hk⟩
  · have hk0 := h.kp g cs hk
    have hk1 : w1.heap[g]? = some (.cells cs 29 (0, 0)) := by
      rw [hg.block g (by have := lt_of_block hk0; simp; omega) (fn_own h4 hk0 (by decide)), Below.heap_alloc w _ g (lt_of_block hk0)]
      exact hk0
    exact (Below.heap_setCell _ _ _ _ (fn_apart hr hk1)).trans hk1
set_option maxRecDepth 100000 in
set_option maxHeartbeats 2000000 in
theorem num_any (w0 K w : World) (r : Nat) (b : Bs) (m : Msg) (h : Wd w0 K r b m w) (hb : b.length ≤ 40000) (hl : m.ns.length < 1000000) :
    Calls Tryz.prog 63 #[.pointer (some ⟨r, 0, none⟩)] w (Part w0 K r rNum (fun m n => { m with ns := m.ns ++ [n] }) b m) := by
  by_cases h8 : 8 ≤ b.length
  · have HT := hid (wide_yes w0 K w r b m 8 h hb (by decide) h8)
    have HR : Hid (rNum b = some (s64 (numOf 0 (b.take 8)), b.drop 8)) := hid (by unfold rNum rWide rTake; rw [if_pos h8]; rfl)
    have hlt : numOf 0 (b.take 8) < 18446744073709551616 := by
      have := numOf_lt (b.take 8)
      rw [List.length_take, Nat.min_eq_left h8] at this
      exact this
    have HLT := hid hlt
    clear h hb h8
    generalize numOf 0 (b.take 8) = u at HT HR hlt HLT
    have hw : IntKind.i64.wrap (u : Int) = s64 u := by rw [IntKind.wrap_i64]; unfold s64; split <;> omega
    go_enter Tryz.func63, Tryz.ntmps63
    go_wp2_with fail
    refine HT.out.mono ?_
    rintro e w1 ⟨rfl, hwd⟩
    obtain ⟨ao, cap, a1, c1, w2, hc0, hrun, hc1, hf1, hwd2⟩ := hwd.add_num (s64 u) hl
    have HRUN := hid hrun
    have HWD := hid hwd2
    clear hwd hrun hwd2 HT hlt
    generalize s64 u = y at hw HRUN HWD HR
    generalize m.ns.length = q at hc0 HRUN hc1 HWD
    go_wp2_with (first | (at_builtin; refine wpList_append_run rfl (.tmp 15) (.tmp 18) 23 rfl (.slice ao q cap) (.slice (some ⟨w1.heap.size, 0, none⟩) 1 1) (.slice a1 (q + 1) c1) w2 rfl rfl HRUN.out ?_) | fail)
    go_ret
    exact Or.inl ⟨y, _, HR.out, rfl, HWD.out⟩
  · have HT := hid (wide_no w0 K w r b m 8 h hb h8)
    have HR : Hid (rNum b = none) := hid (by unfold rNum rWide rTake; rw [if_neg h8]; rfl)
    obtain ⟨ao, cap, a1, c1, w2, hc0, hrun, hc1, hf1, hwd2⟩ := h.add_num 0 hl
    have HRUN := hid hrun
    have HWD := hid hwd2
    clear h hb h8 hrun hwd2 hl
    generalize m.ns.length = q at hc0 HRUN hc1 HWD
    go_enter Tryz.func63, Tryz.ntmps63
    go_wp2_with fail
    refine HT.out.mono ?_
    rintro e w1 ⟨rfl, hw1⟩
    obtain rfl := hw1.symm
    go_wp2_with (first | (at_builtin; refine wpList_append_run rfl (.tmp 15) (.tmp 18) 23 rfl (.slice ao q cap) (.slice (some ⟨w.heap.size, 0, none⟩) 1 1) (.slice a1 (q + 1) c1) w2 rfl rfl HRUN.out ?_) | fail)
    go_ret
    exact Or.inr ⟨HR.out, rfl, _, _, HWD.out⟩
set_option maxRecDepth 100000 in
set_option maxHeartbeats 2000000 in
theorem term_any (w0 K w : World) (r : Nat) (b : Bs) (m : Msg) (h : Wd w0 K r b m w) (hb : b.length ≤ 40000) (hl : m.ts.length < 1000000) :
    Calls Tryz.prog 64 #[.pointer (some ⟨r, 0, none⟩)] w (Part w0 K r rText (fun m t => { m with ts := m.ts ++ [t] }) b m) := by
  have HT := hid (bytes_any w0 K w r b m h hb)
  clear h hb
  go_enter Tryz.func64, Tryz.ntmps64
  go_wp2_with fail
  refine HT.out.mono ?_
  rintro e w1 (⟨s, b', hr, rfl, hwd⟩ | ⟨hr, s, b', rfl, hwd⟩)
  all_goals
    have HR := hid hr
    obtain ⟨ao, cap, a1, c1, w2, hc0, hrun, hc1, hf1, hwd2⟩ := hwd.add_term s hl
    have HRUN := hid hrun
    have HWD := hid hwd2
    clear hwd hrun hwd2 HT hr
    generalize m.ts.length = q at hc0 HRUN hc1 HWD
    go_wp2_with (first | (at_builtin; refine wpList_append_run rfl (.tmp 15) (.tmp 17) 24 rfl (.slice ao q cap) (.slice (some ⟨w1.heap.size, 0, none⟩) 1 1) (.slice a1 (q + 1) c1) w2 rfl rfl HRUN.out ?_) | fail)
    go_ret
    first
      | exact Or.inl ⟨s, _, HR.out, rfl, HWD.out⟩
      | exact Or.inr ⟨HR.out, rfl, _, _, HWD.out⟩
theorem rMany_add {α : Type} (f : Bs → Option (α × Bs)) : ∀ (i : Nat) (b : Bs), rMany f (i + 1) b = (rMany f i b).bind fun x => (f x.2).map fun y => (x.1 ++ [y.1], y.2)
  | 0, b => by
    simp only [rMany, Option.bind_some]
    cases f b <;> rfl
  | i + 1, b => by
    rw [rMany, rMany]
    cases hq : f b with
    | none => rfl
    | some x =>
      simp only [Option.bind_some]
      rw [rMany_add f i x.2]
      cases rMany f i x.2 with
      | none => rfl
      | some y =>
        simp only [Option.bind_some, Option.map_some]
        cases f y.2 <;> rfl
theorem rMany_none {α : Type} {f : Bs → Option (α × Bs)} {i : Nat} {b : Bs} (h : rMany f i b = none) : ∀ n, i ≤ n → rMany f n b = none := by
  intro n hn
  induction n with
  | zero => rw [show i = 0 by omega] at h; exact h
  | succ n ih =>
    by_cases e : i = n + 1
    · rw [← e]; exact h
    · rw [rMany_add, ih (by omega)]
      rfl
theorem rMany_len {α : Type} {f : Bs → Option (α × Bs)} : ∀ {n : Nat} {b : Bs} {l : List α} {x : Bs}, rMany f n b = some (l, x) → l.length = n
  | 0, b, l, x, h => by rw [rMany] at h; cases h; rfl
  | n + 1, b, l, x, h => by
    rw [rMany] at h
    obtain ⟨a, _, h2⟩ := Option.bind_eq_some_iff.1 h
    obtain ⟨y, h3, h4⟩ := Option.map_eq_some_iff.1 h2
    cases h4
    simp [rMany_len h3]
set_option maxRecDepth 100000 in
set_option maxHeartbeats 4000000 in
/-- a list of parts is read -/
theorem list_any {α : Type} (w0 K w : World) (r g : Nat) (f : Bs → Option (α × Bs)) (add : Msg → List α → Msg) (b : Bs) (m : Msg) (h : Wd w0 K r b m w) (hb : b.length ≤ 40000)
    (eg : ∀ args w, (callFunc g args).run Tryz.prog w = .ok (.enter g args) w) (h0 : add m [] = m)
    (hp : ∀ W b' l, Wd w0 K r b' (add m l) W → b'.length ≤ 40000 → l.length < 33 → Calls Tryz.prog g #[.pointer (some ⟨r, 0, none⟩)] W (Part w0 K r f (fun _ a => add m (l ++ [a])) b' (add m l))) (hs : ∀ b a x, f b = some (a, x) → x.length ≤ b.length) :
    Calls Tryz.prog 62 #[.pointer (some ⟨r, 0, none⟩), .func (.func g) #[.pointer (some ⟨r, 0, none⟩)] #[]] w (Part w0 K r (rList f) add b m) := by
  have HC := hid (count_any w0 K w r b m h hb)
  have HB := hid hb
  have HP := hid hp
  have HS := hid hs
  have H0 := hid h0
  clear h hb hp hs h0
  go_enter Tryz.func62, Tryz.ntmps62
  go_wp2_with fail
  refine HC.out.mono ?_
  rintro e w1 (⟨n, b', hrc, rfl, hwd⟩ | ⟨hrc, u, rfl, hwd⟩)
  · have hlb : b'.length ≤ 40000 := by
      obtain ⟨e1, e2⟩ := rCount_ok hrc
      have := HB.out
      rw [e1, List.length_append] at this
      omega
    have HLB := hid hlb
    have HWD := hid hwd
    have HRL : Hid (rList f b = if 32 < n then none else rMany f n b') := hid (by unfold rList; rw [hrc]; rfl)
    clear hrc hwd HC hlb
    by_cases hn : 32 < n
    · have hn1 : (32 : Int) < (n : Int) := by omega
      have HN : Hid (rList f b = none) := hid (by rw [HRL.out, if_pos hn])
      clear hn
      go_wp2_with fail
      go_ret
      exact Or.inr ⟨HN.out, rfl, _, _, HWD.out⟩
    · have hn1 : ¬ (32 : Int) < (n : Int) := by omega
      have HN : Hid (rList f b = rMany f n b') := hid (by rw [HRL.out, if_neg hn])
      have hn32 : n ≤ 32 := by omega
      clear hn HRL
      go_wp2_with fail
      go_loopg [19] n (fun gg s19 wr => ∃ (i : Nat) (l : List α) (b2 : Bs), i ≤ n ∧ gg = n - i ∧ s19 = .int .u64 (i : Int) ∧ rMany f i b' = some (l, b2) ∧ b2.length ≤ 40000 ∧ Wd w0 K r b2 (add m l) wr)
      case atStart => exact ⟨0, [], b', by omega, by omega, rfl, rfl, HLB.out, by rw [H0.out]; exact HWD.out⟩
      case round =>
        clear HWD
        obtain ⟨i, l, b2, hi, rfl, rfl, hrm, hb2, hwd⟩ := hrel
        have HRM := hid hrm
        have HB2 := hid hb2
        have HWD := hid hwd
        clear hrm hb2 hwd
        by_cases hil : i < n
        · have hi1 : (i : Int) < (n : Int) := by omega
          have hll := rMany_len HRM.out
          have HPP := hid (HP.out wr b2 l HWD.out HB2.out (by omega))
          clear hll
          go_wp2_with fail
          refine HPP.out.mono ?_
          rintro e w2 (⟨a, b3, hf, rfl, hwd3⟩ | ⟨hf, rfl, b3, m3, hwd3⟩)
          · have HR3 : Hid (rMany f (i + 1) b' = some (l ++ [a], b3)) := hid (by rw [rMany_add, HRM.out]; simp [hf])
            have HB3 : Hid (b3.length ≤ 40000) := hid (Nat.le_trans (HS.out _ _ _ hf) HB2.out)
            have HW3 := hid hwd3
            clear hf hwd3 HPP
            go_wp2_with fail
            go_roundg (n - (i + 1))
            case measure => omega
            case rel => exact ⟨i + 1, l ++ [a], b3, by omega, rfl, by go_num, HR3.out, HB3.out, HW3.out⟩
          · have HR3 : Hid (rList f b = none) := hid (by
              rw [HN.out]
              exact rMany_none (i := i + 1) (by rw [rMany_add, HRM.out]; simp [hf]) n (by omega))
            have HW3 := hid hwd3
            clear hf hwd3 HPP
            go_wp2_with fail
            go_ret
            exact Or.inr ⟨HR3.out, rfl, _, _, HW3.out⟩
        · have hi1 : ¬ (i : Int) < (n : Int) := by omega
          have HR3 : Hid (rList f b = some (l, b2)) := hid (by rw [HN.out, show n = i by omega]; exact HRM.out)
          go_wp2_with fail
          go_ret
          exact Or.inl ⟨l, b2, HR3.out, rfl, HWD.out⟩
  · have HN : Hid (rList f b = none) := hid (by unfold rList; rw [hrc]; rfl)
    have HWD := hid hwd
    clear hrc hwd HC
    go_wp2_with fail
    go_ret
    exact Or.inr ⟨HN.out, rfl, _, _, HWD.out⟩
theorem eg48 : ∀ args w, (callFunc 63 args).run Tryz.prog w = .ok (.enter 63 args) w := Go.Proofs.enters_of Tryz.func63 (by kernel_rfl) rfl
theorem eg49 : ∀ args w, (callFunc 64 args).run Tryz.prog w = .ok (.enter 64 args) w := Go.Proofs.enters_of Tryz.func64 (by kernel_rfl) rfl
theorem rNum_short {b x : Bs} {a : Int} (h : rNum b = some (a, x)) : x.length ≤ b.length := by
  rw [(rNum_ok h).1, List.length_append]
  omega
theorem rText_short {b x a : Bs} (h : rText b = some (a, x)) : x.length ≤ b.length := by
  rw [rText_ok h, List.length_append]
  omega
set_option maxRecDepth 100000 in
set_option maxHeartbeats 2000000 in
theorem nums_any (w0 K w : World) (r : Nat) (b : Bs) (m : Msg) (h : Wd w0 K r b m w) (hb : b.length ≤ 40000) (hl : m.ns.length < 100000) :
    Calls Tryz.prog 45 #[.pointer (some ⟨r, 0, none⟩)] w (Part w0 K r (rList rNum) (fun m l => { m with ns := m.ns ++ l }) b m) := by
  have HL := hid (list_any w0 K w r 63 rNum (fun m l => { m with ns := m.ns ++ l }) b m h hb eg48 (by simp)
    (fun W b' l hw hb' hl' => by
      have h2 := num_any w0 K W r b' { m with ns := m.ns ++ l } hw hb' (by simp; omega)
      refine h2.mono ?_
      rintro e w' (⟨a, b2, e1, e2, e3⟩ | e1)
      · exact Or.inl ⟨a, b2, e1, e2, by simpa [List.append_assoc] using e3⟩
      · exact Or.inr e1) (fun b a x h => rNum_short h))
  have hmf : ∀ (fn : Fn) (first cap : Array Value) (w : World), (Instr.makeFunc fn first cap).run Tryz.prog w = .ok (.func fn first cap) w := fun _ _ _ _ => rfl
  clear h hb hl
  go_enter Tryz.func45, Tryz.ntmps45
  go_wp2_with fail
  refine HL.out.mono ?_
  rintro e w1 (⟨a, b', hr, rfl, hwd⟩ | ⟨hr, rfl, b', m', hwd⟩)
  all_goals
    have HR := hid hr
    have HWD := hid hwd
    clear hr hwd HL
    go_wp2_with fail
    go_ret
    first
      | exact Or.inl ⟨_, _, HR.out, rfl, HWD.out⟩
      | exact Or.inr ⟨HR.out, rfl, _, _, HWD.out⟩
set_option maxRecDepth 100000 in
set_option maxHeartbeats 2000000 in
theorem terms_any (w0 K w : World) (r : Nat) (b : Bs) (m : Msg) (h : Wd w0 K r b m w) (hb : b.length ≤ 40000) (hl : m.ts.length < 100000) :
    Calls Tryz.prog 46 #[.pointer (some ⟨r, 0, none⟩)] w (Part w0 K r (rList rText) (fun m l => { m with ts := m.ts ++ l }) b m) := by
  have HL := hid (list_any w0 K w r 64 rText (fun m l => { m with ts := m.ts ++ l }) b m h hb eg49 (by simp)
    (fun W b' l hw hb' hl' => by
      have h2 := term_any w0 K W r b' { m with ts := m.ts ++ l } hw hb' (by simp; omega)
      refine h2.mono ?_
      rintro e w' (⟨a, b2, e1, e2, e3⟩ | e1)
      · exact Or.inl ⟨a, b2, e1, e2, by simpa [List.append_assoc] using e3⟩
      · exact Or.inr e1) (fun b a x h => rText_short h))
  have hmf : ∀ (fn : Fn) (first cap : Array Value) (w : World), (Instr.makeFunc fn first cap).run Tryz.prog w = .ok (.func fn first cap) w := fun _ _ _ _ => rfl
  clear h hb hl
  go_enter Tryz.func46, Tryz.ntmps46
  go_wp2_with fail
  refine HL.out.mono ?_
  rintro e w1 (⟨a, b', hr, rfl, hwd⟩ | ⟨hr, rfl, b', m', hwd⟩)
  all_goals
    have HR := hid hr
    have HWD := hid hwd
    clear hr hwd HL
    go_wp2_with fail
    go_ret
    first
      | exact Or.inl ⟨_, _, HR.out, rfl, HWD.out⟩
      | exact Or.inr ⟨HR.out, rfl, _, _, HWD.out⟩
end Go.Proofs.YtdhmmllpioppfaaGreat.V
