import Derived.Test.YtdhmmllpioppfaaGreatYMathAll
import Derived.Test.YtdhmmllpioppfaaGreatVRAll
import Derived.Test.YtdhmmllpioppfaaGreatWDec
import Derived.Test.YtdhmmllpioppfaaGreatVLBack
import Derived.Test.YtdhmmllpioppfaaGreatXLentAll
/- The document's reader. -/
namespace Go.Proofs.YtdhmmllpioppfaaGreat.V
open Go.RowKit

/-- the reader lies at r -/
structure Rd (W0 : World) (r : Nat) (s : Rs) (w : World) : Prop where
  bel : Below W0.heap.size W0 w
  low : W0.heap.size ≤ r
  blk : ∃ v, w.heap[r]? = some (.cells #[v, .bool s.1] 72 (0, 0)) ∧ Sl W0 v s.2
  len : s.2.length ≤ 32768
/-- all but the block r is as it was -/
structure Fk (r : Nat) (w w' : World) : Prop where
  size : w.heap.size ≤ w'.heap.size
  blk : ∀ g, g < w.heap.size → g ≠ r → w'.heap[g]? = w.heap[g]?
theorem Fk.refl (r : Nat) (w : World) : Fk r w w := ⟨Nat.le_refl _, fun _ _ _ => rfl⟩
theorem Fk.trans {r : Nat} {w w1 w2 : World} (h : Fk r w w1) (h2 : Fk r w1 w2) : Fk r w w2 := ⟨Nat.le_trans h.size h2.size, fun g hg hr => (h2.blk g (Nat.lt_of_lt_of_le hg h.size) hr).trans (h.blk g hg hr)⟩
theorem Fk.below {r : Nat} {w w1 : World} (h : Below w.heap.size w w1) : Fk r w w1 := ⟨h.size, fun g hg _ => h.block g hg⟩
theorem Fk.set (r : Nat) (w : World) (o : Nat) (v : Value) : Fk r w (w.setCell ⟨r, o, none⟩ v) := ⟨by simp [World.setCell], fun g _ hr => Below.heap_setCell _ _ _ _ hr⟩
theorem Rd.call {W0 : World} {r : Nat} {s : Rs} {w w' : World} (h : Rd W0 r s w) (hb : Below w.heap.size w w') : Rd W0 r s w' := by
  obtain ⟨v, h1, h2⟩ := h.blk
  exact ⟨h.bel.trans (hb.mono h.bel.size), h.low, ⟨v, (hb.block _ (lt_of_block h1)).trans h1, h2⟩, h.len⟩
theorem Rd.fail {W0 : World} {r : Nat} {s : Rs} {w : World} (h : Rd W0 r s w) : Rd W0 r (false, s.2) (w.setCell ⟨r, 1, none⟩ (.bool false)) := by
  obtain ⟨v, h1, h2⟩ := h.blk
  exact ⟨set1_below h.bel h.low 1 _, h.low, ⟨v, (heap_setCell_same h1 1 _).trans rfl, h2⟩, h.len⟩
theorem Rd.left {W0 : World} {r : Nat} {ok : Bool} {b c : Bs} {w : World} (h : Rd W0 r (ok, b) w) {u : Value} (hu : Sl W0 u c) (hc : c.length ≤ 32768) : Rd W0 r (ok, c) (w.setCell ⟨r, 0, none⟩ u) := by
  obtain ⟨v, h1, h2⟩ := h.blk
  exact ⟨set1_below h.bel h.low 0 _, h.low, ⟨u, (heap_setCell_same h1 0 _).trans rfl, hu⟩, hc⟩
set_option maxRecDepth 100000 in
set_option maxHeartbeats 4000000 in
theorem rtake_any (W0 : World) (r n : Nat) (hn : n < 18446744073709551616) (ok : Bool) (b : Bs) (w : World) (h : Rd W0 r (ok, b) w) :
    Calls Tryz.prog 49 #[.pointer (some ⟨r, 0, none⟩), .int .u64 (n : Int)] w fun e w' => ∃ v, e = .returned v ∧ Sl W0 v (dTake n (ok, b)).1 ∧ Rd W0 r (dTake n (ok, b)).2 w' ∧ Fk r w w' := by
  obtain ⟨v, h1, h2⟩ := h.blk
  have HRD := hid h
  have hbl := h.len
  have HSL := hid h2
  obtain ⟨ao, cap, rfl⟩ := h2.shape
  have c0 : w.cell? ⟨r, 0, none⟩ = some (.slice ao b.length cap) := (cell_of_heap h1 0).trans rfl
  have c1 : w.cell? ⟨r, 1, none⟩ = some (.bool ok) := (cell_of_heap h1 1).trans rfl
  have f0 : w.frozen? ⟨r, 0, none⟩ = false := frozen_of_heap h1 0
  have f1 : w.frozen? ⟨r, 1, none⟩ = false := frozen_of_heap h1 1
  clear h h1 h2
  simp only at hbl
  cases ok with
  | false =>
    have HD : Hid (dTake n (false, b) = ([], false, b)) := hid (dTake_bad n b)
    generalize b.length = q at *
    go_enter Tryz.func49, Tryz.ntmps49
    go_wp2_with fail
    go_ret
    refine ⟨.slice none 0 0, rfl, ?_⟩
    rw [HD.out]
    exact ⟨Sl.nil _, HRD.out.fail, Fk.set _ _ _ _⟩
  | true =>
    have hw : IntKind.u64.wrap (b.length : Int) = (b.length : Int) := by rw [IntKind.wrap_u64]; omega
    by_cases hle : n ≤ b.length
    · have HD : Hid (dTake n (true, b) = (b.take n, true, b.drop n)) := hid (if_pos ⟨rfl, hle⟩)
      have hle' : ¬ ((b.length : Int) < (n : Int)) := by omega
      obtain ⟨hrun1, hsl1⟩ := HSL.out.takeRun n hle rfl
      obtain ⟨a2, c2, hrun2, hsl2⟩ := cutRun ao b.length cap b n hle rfl
      have HS1 := hid hsl1
      have HS2 := hid (hsl2 W0 HSL.out)
      have HDL : Hid ((b.drop n).length ≤ 32768) := hid (by rw [List.length_drop]; omega)
      clear hsl1 hsl2
      generalize b.length = q at *
      generalize q - n = q2 at *
      go_enter Tryz.func49, Tryz.ntmps49
      go_wp2_with fail
      go_ret
      refine ⟨.slice ao n cap, rfl, ?_⟩
      rw [HD.out]
      exact ⟨HS1.out, HRD.out.left HS2.out HDL.out, Fk.set _ _ _ _⟩
    · have HD : Hid (dTake n (true, b) = ([], false, b)) := hid (if_neg (fun e => hle e.2))
      have hle' : ((b.length : Int) < (n : Int)) := by omega
      generalize b.length = q at *
      go_enter Tryz.func49, Tryz.ntmps49
      go_wp2_with fail
      go_ret
      refine ⟨.slice none 0 0, rfl, ?_⟩
      rw [HD.out]
      exact ⟨Sl.nil _, HRD.out.fail, Fk.set _ _ _ _⟩
set_option maxRecDepth 100000 in
set_option maxHeartbeats 4000000 in
theorem rcount_any (W0 : World) (r : Nat) (ok : Bool) (b : Bs) (w : World) (h : Rd W0 r (ok, b) w) :
    Calls Tryz.prog 29 #[.pointer (some ⟨r, 0, none⟩)] w fun e w' => e = .returned (.int .u64 ((dCount (ok, b)).1 : Int)) ∧ Rd W0 r (dCount (ok, b)).2 w' ∧ Fk r w w' := by
  obtain ⟨v, h1, h2⟩ := h.blk
  have HRD := hid h
  have hbl := h.len
  have HSL := hid h2
  have HG := hid (rget_any b w v (h2.below h.bel) (by simp only at hbl; omega))
  obtain ⟨ao, cap, rfl⟩ := h2.shape
  have HH := hid h1
  have c0 : w.cell? ⟨r, 0, none⟩ = some (.slice ao b.length cap) := (cell_of_heap h1 0).trans rfl
  clear h h1 h2
  simp only at hbl
  have HGL : Hid ((getB b).2.2 = 0 → (getB b).2.1 ≤ b.length) := hid (fun e => by
    have h9 : getB b = ((getB b).1, (getB b).2.1, 0) := by rw [← e]
    exact (get_ok h9).2.2.2)
  have HDF : Hid (dCount (ok, b) = if ok = true ∧ (getB b).2.2 = 0 then ((getB b).1, true, b.drop (getB b).2.1) else (0, false, b)) := hid rfl
  obtain ⟨g1, g2, g3, hg⟩ : ∃ g1 g2 g3, getB b = (g1, g2, g3) := ⟨_, _, _, rfl⟩
  rw [hg] at HG HGL HDF
  clear hg
  go_enter Tryz.func29, Tryz.ntmps29
  go_wp2_with fail
  refine HG.out.mono ?_
  rintro e w1 ⟨rfl, hb1⟩
  have hx1 := (hb1.block _ (lt_of_block HH.out)).trans HH.out
  have HR1 := hid (HRD.out.call hb1)
  have HF1 := hid (Fk.below (r := r) hb1)
  clear c0 hb1 HG HH
  have c0 : w1.cell? ⟨r, 0, none⟩ = some (.slice ao b.length cap) := (cell_of_heap hx1 0).trans rfl
  have c1 : w1.cell? ⟨r, 1, none⟩ = some (.bool ok) := (cell_of_heap hx1 1).trans rfl
  have f0 : w1.frozen? ⟨r, 0, none⟩ = false := frozen_of_heap hx1 0
  have f1 : w1.frozen? ⟨r, 1, none⟩ = false := frozen_of_heap hx1 1
  clear hx1
  cases ok with
  | false =>
    rw [if_neg (by simp)] at HDF
    generalize b.length = q at *
    go_wp2_with fail
    go_ret
    rw [HDF.out]
    exact ⟨rfl, HR1.out.fail, HF1.out.trans (Fk.set _ _ _ _)⟩
  | true =>
    by_cases h0 : g3 = 0
    · subst h0
      rw [if_pos ⟨rfl, rfl⟩] at HDF
      have hle := HGL.out rfl
      obtain ⟨a2, c2, hrun2, hsl2⟩ := cutRun ao b.length cap b g2 hle rfl
      have HS2 := hid (hsl2 W0 HSL.out)
      have HDL : Hid ((b.drop g2).length ≤ 32768) := hid (by rw [List.length_drop]; omega)
      clear hsl2
      generalize b.length = q at *
      generalize q - g2 = q2 at *
      go_wp2_with fail
      go_ret
      rw [HDF.out]
      exact ⟨rfl, HR1.out.left HS2.out HDL.out, HF1.out.trans (Fk.set _ _ _ _)⟩
    · rw [if_neg (fun e => h0 e.2)] at HDF
      have h1 : ¬ (g3 : Int) = 0 := by omega
      have h2 : ((g3 : Int) == 0) = false := by simpa using h1
      generalize b.length = q at *
      go_wp2_with fail
      go_ret
      rw [HDF.out]
      exact ⟨rfl, HR1.out.fail, HF1.out.trans (Fk.set _ _ _ _)⟩
end Go.Proofs.YtdhmmllpioppfaaGreat.V

/- The document's reader: texts and numbers. -/
namespace Go.Proofs.YtdhmmllpioppfaaGreat.V
open Go.RowKit

theorem dCount_lt (s : Rs) : (dCount s).1 < 18446744073709551616 := by
  unfold dCount
  split
  · rename_i h
    have h9 : getB s.2 = ((getB s.2).1, (getB s.2).2.1, 0) := by rw [← h.2]
    exact get_lt h9
  · show (0 : Nat) < _
    omega
set_option maxRecDepth 100000 in
set_option maxHeartbeats 4000000 in
theorem rtextr_any (W0 : World) (r : Nat) (s : Rs) (w : World) (h : Rd W0 r s w) :
    Calls Tryz.prog 28 #[.pointer (some ⟨r, 0, none⟩)] w fun e w' => e = .returned (St (dText s).1) ∧ Rd W0 r (dText s).2 w' ∧ Fk r w w' := by
  have HC := hid (rcount_any W0 r s.1 s.2 w h)
  unfold dText
  have HX : Hid (dCount (s.1, s.2) = dCount s) := hid rfl
  rw [HX.out] at HC
  have HT := hid (fun w1 (hr1 : Rd W0 r (dCount s).2 w1) => rtake_any W0 r (dCount s).1 (dCount_lt s) (dCount s).2.1 (dCount s).2.2 w1 hr1)
  clear h HX
  generalize dCount s = c at HC HT ⊢
  obtain ⟨n, c1, c2⟩ := c
  simp only at HC HT ⊢
  generalize dTake n (c1, c2) = d at HT ⊢
  obtain ⟨x, d2⟩ := d
  simp only at HT ⊢
  go_enter Tryz.func28, Tryz.ntmps28
  go_wp2_with fail
  refine HC.out.mono ?_
  rintro e w1 ⟨rfl, hr1, hf1⟩
  have HT1 := hid (HT.out w1 hr1)
  have HF1 := hid hf1
  clear hr1 hf1 HC HT
  go_wp2_with fail
  refine HT1.out.mono ?_
  rintro e w2 ⟨v, rfl, hs, hr2, hf2⟩
  obtain ⟨ao, cap, rfl⟩ := hs.shape
  have hcv : (convert 33 9 (.slice ao x.length cap)).run Tryz.prog w2 = .ok (St x) w2 := (hs.below hr2.bel).string
  have HR2 := hid hr2
  have HF2 := hid (HF1.out.trans hf2)
  clear hs hr2 hf2 HT1 HF1
  generalize x.length = q at hcv ⊢
  go_wp2_with fail
  go_ret
  exact ⟨rfl, HR2.out, HF2.out⟩
theorem dTake_len (n : Nat) (s : Rs) : (dTake n s).1.length ≤ n := by
  unfold dTake
  split
  · simp; omega
  · exact Nat.zero_le _
set_option maxRecDepth 100000 in
set_option maxHeartbeats 4000000 in
theorem rnumber_any (W0 : World) (r k : Nat) (hk : k ≤ 8) (s : Rs) (w : World) (h : Rd W0 r s w) :
    Calls Tryz.prog 27 #[.pointer (some ⟨r, 0, none⟩), .int .u64 (k : Int)] w fun e w' => e = .returned (.int .u64 ((dNum k s).1 : Int)) ∧ Rd W0 r (dNum k s).2 w' ∧ Fk r w w' := by
  have HT := hid (rtake_any W0 r k (by omega) s.1 s.2 w h)
  unfold dNum
  have hlen := dTake_len k s
  have HX : Hid (dTake k (s.1, s.2) = dTake k s) := hid rfl
  rw [HX.out] at HT
  generalize dTake k s = d at HT hlen ⊢
  obtain ⟨x, d2⟩ := d
  simp only at HT hlen ⊢
  clear h HX
  go_enter Tryz.func27, Tryz.ntmps27
  go_wp2_with fail
  refine HT.out.mono ?_
  rintro e w1 ⟨v, rfl, hs, hr1, hf1⟩
  have hs1 := hs.below hr1.bel
  obtain ⟨ao, cap, rfl⟩ := hs.shape
  have HS := hid hs1
  have HR1 := hid hr1
  have HF1 := hid hf1
  clear hs hs1 hr1 hf1 HT
  obtain ⟨m, hm⟩ : ∃ m, m = x.length := ⟨_, rfl⟩
  have HM := hid hm
  rw [← hm] at HS hlen ⊢
  clear hm
  have hm8 : m ≤ 8 := by omega
  clear hlen hk
  go_wp2_with fail
  go_loopg [6, 7] m (fun gg v6 v7 wr => wr = w1 ∧ ∃ i : Nat, i ≤ m ∧ gg = m - i ∧ v7 = .int .i64 (i : Int) ∧ v6 = .int .u64 (numOf 0 (x.take i) : Int))
  case atStart => exact ⟨rfl, 0, by omega, by omega, rfl, rfl⟩
  case round =>
    obtain ⟨hwr, i, hi, rfl, rfl, rfl⟩ := hrel
    subst hwr
    by_cases hil : i < m
    · have hi1 : (i : Int) < (m : Int) := by omega
      have hir : i < x.length := by rw [← HM.out]; exact hil
      have hci : ∃ g o, ao = some ⟨g, o, none⟩ ∧ m ≤ cap ∧ wr.cell? ⟨g, o + i, none⟩ = some (.int .u8 (x[i].toNat : Int)) := by
        rcases HS.out with ⟨_, e⟩ | ⟨a, c', h1, h2, h3, h4⟩
        · rw [e] at hir
          simp at hir
        · cases h1
          obtain ⟨ha, _⟩ := h3 (fun e => by rw [e] at hir; simp at hir)
          have := h4 i hir
          rw [ha, add_plain] at this
          exact ⟨_, _, congrArg some ha, h2, this⟩
      obtain ⟨g, o, hao, hcap, hc⟩ := hci
      subst hao
      have hx := x[i].toNat_lt
      have HST : Hid (numOf 0 (x.take (i + 1)) = 256 * numOf 0 (x.take i) + x[i].toNat) := hid (by
        rw [List.take_succ_eq_append_getElem hir, numOf_app]; rfl)
      have ha : numOf 0 (x.take i) < 72057594037927936 := by
        have h1 := numOf_lt (x.take i)
        have h2 : 256 ^ (x.take i).length ≤ 256 ^ 7 := Nat.pow_le_pow_right (by decide) (by simp; omega)
        have h3 : (256 : Nat) ^ 7 = 72057594037927936 := by decide
        omega
      generalize numOf 0 (x.take i) = a at *
      generalize x[i].toNat = y at *
      have HOR := hid (or_byte a y ha hx)
      go_wp2_with fail
      go_roundg (m - (i + 1))
      case measure => omega
      case rel => exact ⟨rfl, i + 1, by omega, rfl, by go_num, by rw [HST.out, HOR.out]⟩
    · have e : i = m := by omega
      have hi1 : ¬ (i : Int) < (m : Int) := by omega
      have HTK : Hid (x.take i = x) := hid (List.take_of_length_le (by rw [← HM.out]; omega))
      rw [HTK.out]
      go_wp2_with fail
      go_ret
      exact ⟨rfl, HR1.out, HF1.out⟩
end Go.Proofs.YtdhmmllpioppfaaGreat.V

/- What the document's Decode has in memory. -/
namespace Go.Proofs.YtdhmmllpioppfaaGreat.V
open Go.RowKit

/-- the answer lies at the first block, the reader behind it, the message behind that -/
structure Dm (W0 : World) (k : Nat) (ch : Bs) (ns : List Int) (ts : List Bs) (tx : Bs) (s : Rs) (w : World) : Prop where
  rd : Rd W0 (W0.heap.size + 1) s w
  res : w.heap[W0.heap.size]? = some (.cells #[.int .u16 0, St [], .slice none 0 0, .slice none 0 0, St [], .slice none 0 0] 27 (0, 0))
  var : ∃ nv tv, w.heap[W0.heap.size + 2]? = some (.cells #[.int .u16 (k : Int), St ch, nv, tv, St tx, .slice none 0 0] 27 (0, 0)) ∧ w.ownsRow (W0.heap.size + 3) 2 1 nv ns.length (i64s ns) ∧ w.ownsRow (W0.heap.size + 3) 46 1 tv ts.length (ts.map St)
theorem Dm.read {W0 : World} {k : Nat} {ch : Bs} {ns : List Int} {ts : List Bs} {tx : Bs} {s s' : Rs} {w w' : World} (h : Dm W0 k ch ns ts tx s w) (hr : Rd W0 (W0.heap.size + 1) s' w') (hf : Fk (W0.heap.size + 1) w w') : Dm W0 k ch ns ts tx s' w' := by
  obtain ⟨nv, tv, h1, h2, h3⟩ := h.var
  refine ⟨hr, (hf.blk _ (lt_of_block h.res) (by omega)).trans h.res, nv, tv, (hf.blk _ (lt_of_block h1) (by omega)).trans h1, ?_, ?_⟩
  · exact ownsRow_same h2 (fun g e => hf.blk g (h2.lt g e).2 (by have := (h2.lt g e).1; omega))
  · exact ownsRow_same h3 (fun g e => hf.blk g (h3.lt g e).2 (by have := (h3.lt g e).1; omega))
theorem Rd.var {W0 : World} {s : Rs} {w : World} (h : Rd W0 (W0.heap.size + 1) s w) (o : Nat) (v : Value) : Rd W0 (W0.heap.size + 1) s (w.setCell ⟨W0.heap.size + 2, o, none⟩ v) := by
  obtain ⟨u, h1, h2⟩ := h.blk
  exact ⟨set1_below h.bel (by omega) o v, h.low, ⟨u, (Below.heap_setCell _ _ _ _ (by show W0.heap.size + 1 ≠ W0.heap.size + 2; omega)).trans h1, h2⟩, h.len⟩
theorem own_var {w : World} {B x : Nat} {e : TypeId} {v u : Value} {n o : Nat} {xs : List Value} (h : w.ownsRow B e 1 v n xs) (hx : x < B) : (w.setCell ⟨x, o, none⟩ u).ownsRow B e 1 v n xs :=
  ownsRow_same h (fun g e => Below.heap_setCell _ _ _ _ (by have := (h.lt g e).1; show g ≠ x; omega))
theorem Dm.setk {W0 : World} {k : Nat} {ch : Bs} {ns : List Int} {ts : List Bs} {tx : Bs} {s : Rs} {w : World} (h : Dm W0 k ch ns ts tx s w) (k' : Nat) : Dm W0 k' ch ns ts tx s (w.setCell ⟨W0.heap.size + 2, 0, none⟩ (.int .u16 (k' : Int))) := by
  obtain ⟨nv, tv, h1, h2, h3⟩ := h.var
  exact ⟨h.rd.var _ _, (Below.heap_setCell _ _ _ _ (by show W0.heap.size ≠ W0.heap.size + 2; omega)).trans h.res, nv, tv, (heap_setCell_same h1 0 _).trans rfl, own_var h2 (by omega), own_var h3 (by omega)⟩
theorem Dm.setch {W0 : World} {k : Nat} {ch : Bs} {ns : List Int} {ts : List Bs} {tx : Bs} {s : Rs} {w : World} (h : Dm W0 k ch ns ts tx s w) (ch' : Bs) : Dm W0 k ch' ns ts tx s (w.setCell ⟨W0.heap.size + 2, 1, none⟩ (St ch')) := by
  obtain ⟨nv, tv, h1, h2, h3⟩ := h.var
  exact ⟨h.rd.var _ _, (Below.heap_setCell _ _ _ _ (by show W0.heap.size ≠ W0.heap.size + 2; omega)).trans h.res, nv, tv, (heap_setCell_same h1 1 _).trans rfl, own_var h2 (by omega), own_var h3 (by omega)⟩
theorem Dm.settx {W0 : World} {k : Nat} {ch : Bs} {ns : List Int} {ts : List Bs} {tx : Bs} {s : Rs} {w : World} (h : Dm W0 k ch ns ts tx s w) (tx' : Bs) : Dm W0 k ch ns ts tx' s (w.setCell ⟨W0.heap.size + 2, 4, none⟩ (St tx')) := by
  obtain ⟨nv, tv, h1, h2, h3⟩ := h.var
  exact ⟨h.rd.var _ _, (Below.heap_setCell _ _ _ _ (by show W0.heap.size ≠ W0.heap.size + 2; omega)).trans h.res, nv, tv, (heap_setCell_same h1 4 _).trans rfl, own_var h2 (by omega), own_var h3 (by omega)⟩
/-- the cells that the walk asks for -/
theorem Dm.cells {W0 : World} {k : Nat} {ch : Bs} {ns : List Int} {ts : List Bs} {tx : Bs} {s : Rs} {w : World} (h : Dm W0 k ch ns ts tx s w) : w.cell? ⟨W0.heap.size + 1, 1, none⟩ = some (.bool s.1) ∧ w.cell? ⟨W0.heap.size + 2, 0, none⟩ = some (.int .u16 (k : Int)) ∧ w.cell? ⟨W0.heap.size + 2, 1, none⟩ = some (St ch) ∧ w.cell? ⟨W0.heap.size + 2, 4, none⟩ = some (St tx) ∧ w.cell? ⟨W0.heap.size + 2, 5, none⟩ = some (.slice none 0 0) ∧ ∀ o, w.frozen? ⟨W0.heap.size + 2, o, none⟩ = false := by
  obtain ⟨nv, tv, h1, _⟩ := h.var
  obtain ⟨u, h2, _⟩ := h.rd.blk
  exact ⟨(cell_of_heap h2 1).trans rfl, (cell_of_heap h1 0).trans rfl, (cell_of_heap h1 1).trans rfl, (cell_of_heap h1 4).trans rfl, (cell_of_heap h1 5).trans rfl, fun o => frozen_of_heap h1 o⟩
theorem Dm.rows {W0 : World} {k : Nat} {ch : Bs} {ns : List Int} {ts : List Bs} {tx : Bs} {s : Rs} {w : World} (h : Dm W0 k ch ns ts tx s w) : W0.heap.size + 3 ≤ w.heap.size := by
  obtain ⟨nv, tv, h1, _⟩ := h.var
  have := lt_of_block h1
  omega
theorem grown_rd {W0 w w1 : World} {s : Rs} {o : Obj} {row : Option Nat} (h : Rd W0 (W0.heap.size + 1) s w) (hg : (w.alloc o).grownBy w1 row) (hr : ∀ k, row = some k → W0.heap.size + 3 ≤ k) : Rd W0 (W0.heap.size + 1) s w1 := by
  obtain ⟨u, h1, h2⟩ := h.blk
  have hs := h.bel.size
  have hlt := lt_of_block h1
  refine ⟨⟨hg.os.trans h.bel.os, hg.tape.trans h.bel.tape, hg.output.trans h.bel.output, by have := hg.size; simp at this; omega, fun k hk => ?_⟩, h.low, ⟨u, ?_, h2⟩, h.len⟩
  · rw [hg.block k (by simp; omega) (fun e => by have := hr k e.symm; omega), Below.heap_alloc w _ k (by omega)]
    exact h.bel.block k hk
  · rw [hg.block _ (by simp; omega) (fun e => by have := hr _ e.symm; omega), Below.heap_alloc w _ _ hlt]
    exact h1
theorem grown_at {w w1 : World} {o p : Obj} {row : Option Nat} {B g : Nat} (h : w.heap[g]? = some p) (hg : (w.alloc o).grownBy w1 row) (hr : ∀ k, row = some k → B ≤ k) (hlt : g < B) : w1.heap[g]? = some p := by
  have := lt_of_block h
  rw [hg.block g (by simp; omega) (fun e => by have := hr g e.symm; omega), Below.heap_alloc w _ g (by omega)]
  exact h
theorem Dm.num {W0 : World} {k : Nat} {ch : Bs} {ns : List Int} {ts : List Bs} {tx : Bs} {s : Rs} {w : World} (h : Dm W0 k ch ns ts tx s w) (x : Int) (hl : ns.length < 1000000) :
    ∃ ao cap a1 c1 n1 w1, w.cell? ⟨W0.heap.size + 2, 2, none⟩ = some (.slice ao ns.length cap) ∧ (∀ t, (Builtin.append_ #[23, 23] t #[.slice ao ns.length cap, .slice (some ⟨w.heap.size, 0, none⟩) 1 1]).run Tryz.prog (w.alloc (.cells #[.int .i64 x] 2)) = .ok (.slice a1 n1 c1) w1) ∧ w1.cell? ⟨W0.heap.size + 2, 2, none⟩ = some (.slice ao ns.length cap) ∧ w1.frozen? ⟨W0.heap.size + 2, 2, none⟩ = false ∧ Dm W0 k ch (ns ++ [x]) ts tx s (w1.setCell ⟨W0.heap.size + 2, 2, none⟩ (.slice a1 n1 c1)) := by
  have hsz := h.rows
  obtain ⟨nv, tv, h1, h3, h4⟩ := h.var
  obtain ⟨a1, c1, w1, hrun, hown, hg⟩ := append_num w (W0.heap.size + 3) nv ns x h3 (by omega) hsz
  have hrow : ∀ k, nv.ownBlock = some k → W0.heap.size + 3 ≤ k := fun k e => (h3.lt k e).1
  have hr := grown_at h1 hg hrow (by omega)
  have hother : w1.ownsRow (W0.heap.size + 3) 46 1 tv ts.length (ts.map St) := ownsRow_same h4 (fun g e => by
    have hgl := (h4.lt g e).2
    rw [hg.block g (by simp; omega) (ne_of_type h4 h3 (by decide) e)]
    exact Below.heap_alloc w _ g hgl)
  obtain ⟨ao, cap, hv⟩ := own_is h3
  subst hv
  refine ⟨ao, cap, a1, c1, _, w1, (cell_of_heap h1 2).trans rfl, hrun, (cell_of_heap hr 2).trans rfl, frozen_of_heap hr 2, (grown_rd h.rd hg hrow).var _ _, (Below.heap_setCell _ _ _ _ (by show W0.heap.size ≠ W0.heap.size + 2; omega)).trans (grown_at h.res hg hrow (by omega)), _, tv, (heap_setCell_same hr 2 _).trans rfl, own_var hown (by omega), own_var hother (by omega)⟩
theorem Dm.term {W0 : World} {k : Nat} {ch : Bs} {ns : List Int} {ts : List Bs} {tx : Bs} {s : Rs} {w : World} (h : Dm W0 k ch ns ts tx s w) (x : Bs) (hl : ts.length < 1000000) :
    ∃ ao cap a1 c1 n1 w1, w.cell? ⟨W0.heap.size + 2, 3, none⟩ = some (.slice ao ts.length cap) ∧ (∀ t, (Builtin.append_ #[24, 24] t #[.slice ao ts.length cap, .slice (some ⟨w.heap.size, 0, none⟩) 1 1]).run Tryz.prog (w.alloc (.cells #[St x] 46)) = .ok (.slice a1 n1 c1) w1) ∧ w1.cell? ⟨W0.heap.size + 2, 3, none⟩ = some (.slice ao ts.length cap) ∧ w1.frozen? ⟨W0.heap.size + 2, 3, none⟩ = false ∧ Dm W0 k ch ns (ts ++ [x]) tx s (w1.setCell ⟨W0.heap.size + 2, 3, none⟩ (.slice a1 n1 c1)) := by
  have hsz := h.rows
  obtain ⟨nv, tv, h1, h3, h4⟩ := h.var
  obtain ⟨a1, c1, w1, hrun, hown, hg⟩ := append_term w (W0.heap.size + 3) tv ts x h4 (by omega) hsz
  have hrow : ∀ k, tv.ownBlock = some k → W0.heap.size + 3 ≤ k := fun k e => (h4.lt k e).1
  have hr := grown_at h1 hg hrow (by omega)
  have hother : w1.ownsRow (W0.heap.size + 3) 2 1 nv ns.length (i64s ns) := ownsRow_same h3 (fun g e => by
    have hgl := (h3.lt g e).2
    rw [hg.block g (by simp; omega) (ne_of_type h3 h4 (by decide) e)]
    exact Below.heap_alloc w _ g hgl)
  obtain ⟨ao, cap, hv⟩ := own_is h4
  subst hv
  refine ⟨ao, cap, a1, c1, _, w1, (cell_of_heap h1 3).trans rfl, hrun, (cell_of_heap hr 3).trans rfl, frozen_of_heap hr 3, (grown_rd h.rd hg hrow).var _ _, (Below.heap_setCell _ _ _ _ (by show W0.heap.size ≠ W0.heap.size + 2; omega)).trans (grown_at h.res hg hrow (by omega)), nv, _, (heap_setCell_same hr 3 _).trans rfl, own_var hother (by omega), own_var hown (by omega)⟩
end Go.Proofs.YtdhmmllpioppfaaGreat.V
