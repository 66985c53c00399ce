/- Wire's row of bytes. -/
import Derived.Test.YtdhmmllpioppfaaGreatVPutN
import Derived.Test.YtdhmmllpioppfaaGreatVStr
import Derived.Deep.RegionHeld3
import Derived.Lib.ConvBytes
import Derived.Lib.Strings
namespace Go.Proofs.YtdhmmllpioppfaaGreat.V
open Go.RowKit

theorem Kp.of_below {p : Nat} {w w1 : World} (h : Below w.heap.size w w1) : Kp p w w1 := ⟨h.size, fun i hi _ _ => h.block i hi⟩
/-- the row at p holds l -/
structure Ww (B p : Nat) (l : Bs) (w : World) : Prop where
  lo : B ≤ p
  blk : ∃ v, w.heap[p]? = some (.cells #[v] 61 (0, 0)) ∧ w.ownsRow B 5 1 v l.length (bcs l)
theorem Ww.lt {B p : Nat} {l : Bs} {w : World} (h : Ww B p l w) : p < w.heap.size := by
  obtain ⟨v, h1, _⟩ := h.blk
  exact lt_of_block h1
theorem wown_ne {w : World} {B p : Nat} {v u : Value} {n : Nat} {xs : List Value} (h1 : w.heap[p]? = some (.cells #[u] 61 (0, 0))) (h2 : w.ownsRow B 5 1 v n xs) : v.ownBlock ≠ some p := by
  intro e
  rcases h2.2 with ⟨h3, _⟩ | ⟨g, cap, cur, h3, h4, h5, _⟩
  · rw [h3] at e; cases e
  · rw [h3] at e
    cases e
    rw [h1] at h5
    cases h5
theorem Ww.below {B p : Nat} {l : Bs} {w w' : World} (h : Ww B p l w) (hb : Below w.heap.size w w') : Ww B p l w' := by
  obtain ⟨v, h1, h2⟩ := h.blk
  exact ⟨h.lo, v, (hb.block p h.lt).trans h1, ownsRow_same h2 (fun g e => hb.block g (h2.lt g e).2)⟩
theorem Ww.alloc {B p : Nat} {l : Bs} {w : World} (h : Ww B p l w) (o : Obj) : Ww B p l (w.alloc o) := h.below ((Below.refl _ _).alloc (Nat.le_refl _) o)

set_option maxRecDepth 100000 in
set_option maxHeartbeats 1000000 in
theorem wput_any {B p : Nat} {l x : Bs} {w : World} {u : Value} (h : Ww B p l w) (hs : Sl w u x) (hb : l.length + x.length ≤ 140737488355328) :
    Calls Tryz.prog 39 #[.pointer (some ⟨p, 0, none⟩), u] w fun e w' => e = .returned (.tuple #[]) ∧ Ww B p (l ++ x) w' ∧ Below B w w' ∧ Kp p w w' := by
  have hlo := h.lo
  have hlt := h.lt
  obtain ⟨v, h1, h2⟩ := h.blk
  obtain ⟨ao, cap, w', hrun, hown, hg⟩ := append_bytes h2 hs hb (Nat.le_trans hlo (Nat.le_of_lt hlt))
  have hne := wown_ne h1 h2
  have hp' : w'.heap[p]? = some (.cells #[v] 61 (0, 0)) := (hg.block p hlt (fun e => hne e.symm)).trans h1
  have HRUN := hid hrun
  have HOWN := hid hown
  have HG := hid hg
  have HP := hid hp'
  have H2 := hid h2
  have HLO := hid hlo
  have HLT := hid hlt
  obtain ⟨av, cv, hv⟩ : ∃ av cv, v = .slice av l.length cv := by
    rcases h2.2 with ⟨h3, h4⟩ | ⟨g, cap, _, h3, _⟩
    · rw [h4]; exact ⟨_, _, h3⟩
    · exact ⟨_, _, h3⟩
  obtain ⟨au, cu, hu⟩ := hs.shape
  subst hv
  subst hu
  have hc0 : w.cell? ⟨p, 0, none⟩ = some (.slice av l.length cv) := by rw [cell_of_heap h1]; rfl
  have hc1 : w'.cell? ⟨p, 0, none⟩ = some (.slice av l.length cv) := by rw [cell_of_heap hp']; rfl
  have hf1 : w'.frozen? ⟨p, 0, none⟩ = false := frozen_of_heap hp' 0
  clear hrun hown hg hp' h1 h2 hs h hne hlo hlt
  go_enter Tryz.func39, Tryz.ntmps39
  go_wp2_with (first | (at_builtin; refine wpList_append_run rfl (.tmp 8) (.tmp 9) 33 rfl _ _ (.slice ao (l ++ x).length cap) w' rfl rfl HRUN.out ?_) | fail)
  refine bodyPost_end (results_none rfl _ _ _) rfl ?_
  refine ⟨rfl, ⟨HLO.out, _, by rw [heap_setCell_same HP.out, List.length_append]; rfl, ownsRow_same HOWN.out (fun g e => ?_)⟩, ?_⟩
  · have := wown_ne HP.out HOWN.out
    exact Below.heap_setCell _ _ _ _ (fun e' => this (by rw [e]; exact congrArg some e'))
  · have hkp : ∀ k, k < w.heap.size → k ≠ p → (∀ cs fr, w.heap[k]? ≠ some (.cells cs 5 fr)) → (w'.setCell ⟨p, 0, none⟩ (.slice ao (l.length + x.length) cap)).heap[k]? = w.heap[k]? := fun k hk hp hn => by
      rw [Below.heap_setCell _ _ _ _ hp]
      refine HG.out.block k hk (fun e => ?_)
      rcases H2.out.2 with ⟨h3, _⟩ | ⟨g, cap, cur, h3, h4, h5, _⟩
      · rw [h3] at e; cases e
      · rw [h3] at e
        cases e
        exact hn _ _ h5
    refine ⟨⟨HG.out.os, HG.out.tape, HG.out.output, by have := HG.out.size; simpa [World.setCell] using this, fun k hk => ?_⟩, by have := HG.out.size; simpa [World.setCell] using this, hkp⟩
    have hkp : k ≠ p := by have := HLO.out; omega
    rw [Below.heap_setCell _ _ _ _ hkp]
    refine HG.out.block k ?_ (fun e => ?_)
    · have h3 := HLT.out
      have h4 := HLO.out
      omega
    · have := (H2.out.lt k e.symm).1
      omega

/-- bytes that were just laid are put -/
theorem wput_new {B p : Nat} {l x : Bs} {w : World} (h : Ww B p l w) (hb : l.length + x.length ≤ 140737488355328) :
    Calls Tryz.prog 39 #[.pointer (some ⟨p, 0, none⟩), .slice (some ⟨w.heap.size, 0, none⟩) x.length x.length] (w.alloc (.cells (bcs x).toArray 5)) fun e w' => e = .returned (.tuple #[]) ∧ Ww B p (l ++ x) w' ∧ Below B w w' ∧ Kp p w w' := by
  have hlt := h.lt
  have hlo := h.lo
  refine (wput_any (h.alloc _) (sl_new w x) hb).mono ?_
  rintro e w' ⟨rfl, h1, h2, h3⟩
  exact ⟨rfl, h1, ((Below.refl B w).alloc (by omega) _).trans h2, (Kp.alloc p w _).trans h3⟩
theorem wput_vals {B p : Nat} {l : Bs} {w : World} (x : Bs) {cs : Array Value} {m : Nat} (hc : cs = (bcs x).toArray) (hm : m = x.length) (h : Ww B p l w) (hb : l.length + x.length ≤ 140737488355328) :
    Calls Tryz.prog 39 #[.pointer (some ⟨p, 0, none⟩), .slice (some ⟨w.heap.size, 0, none⟩) m m] (w.alloc (.cells cs 5)) fun e w' => e = .returned (.tuple #[]) ∧ Ww B p (l ++ x) w' ∧ Below B w w' ∧ Kp p w w' := by
  subst hc
  subst hm
  exact wput_new h hb
set_option maxRecDepth 100000 in
set_option maxHeartbeats 2000000 in
theorem wide2_any {B p : Nat} {l : Bs} {w : World} (n : Nat) (h : Ww B p l w) (hb : l.length + 2 ≤ 140737488355328) :
    Calls Tryz.prog 35 #[.pointer (some ⟨p, 0, none⟩), .int .u64 (n : Int), .int .i64 2] w fun e w' => e = .returned (.tuple #[]) ∧ Ww B p (l ++ be 2 n) w' ∧ Below B w w' ∧ Kp p w w' := by
  have HR0 := hid h
  have HB := hid hb
  clear h hb
  go_enter Tryz.func35, Tryz.ntmps35
  go_wp2_with fail
  refine wp_loop_rounds 3 ?_
  rw [rounds_succ]
  go_wp2_with fail
  refine (wput_vals [UInt8.ofNat (n / 256)] (by simp only [Lib.byteCells, List.map_cons, List.map_nil, bv] <;> rfl) rfl HR0.out (by have := HB.out; simp; omega)).mono ?_
  rintro e w1 ⟨rfl, hr, hbl, hk⟩
  have HR1 := hid hr
  have HB1 := hid hbl
  have HK1 := hid hk
  clear hr hbl hk
  go_wp2_with fail
  rw [rounds_succ]
  go_wp2_with fail
  refine (wput_vals [UInt8.ofNat n] (by simp only [Lib.byteCells, List.map_cons, List.map_nil, bv0] <;> rfl) rfl HR1.out (by have := HB.out; simp; omega)).mono ?_
  rintro e w2 ⟨rfl, hr, hbl, hk⟩
  have HR2 := hid hr
  have HB2 := hid (HB1.out.trans hbl)
  have HK2 := hid (HK1.out.trans hk)
  clear hr hbl hk
  go_wp2_with fail
  rw [rounds_succ]
  go_wp2_with fail
  refine bodyPost_end (results_none rfl _ _ _) rfl ?_
  exact ⟨rfl, by simpa [be] using HR2.out, HB2.out, HK2.out⟩
set_option maxRecDepth 100000 in
set_option maxHeartbeats 2000000 in
theorem wide8_any {B p : Nat} {l : Bs} {w : World} (n : Nat) (h : Ww B p l w) (hb : l.length + 8 ≤ 140737488355328) :
    Calls Tryz.prog 35 #[.pointer (some ⟨p, 0, none⟩), .int .u64 (n : Int), .int .i64 8] w fun e w' => e = .returned (.tuple #[]) ∧ Ww B p (l ++ be 8 n) w' ∧ Below B w w' ∧ Kp p w w' := by
  have HR0 := hid h
  have HB := hid hb
  clear h hb
  go_enter Tryz.func35, Tryz.ntmps35
  go_wp2_with fail
  refine wp_loop_rounds 9 ?_
  rw [rounds_succ]
  go_wp2_with fail
  refine (wput_vals [UInt8.ofNat (n / 72057594037927936)] (by simp only [Lib.byteCells, List.map_cons, List.map_nil, bv] <;> rfl) rfl HR0.out (by have := HB.out; simp; omega)).mono ?_
  rintro e w1 ⟨rfl, hr, hbl, hk⟩
  have HR1 := hid hr
  have HB1 := hid hbl
  have HK1 := hid hk
  clear hr hbl hk
  go_wp2_with fail
  rw [rounds_succ]
  go_wp2_with fail
  refine (wput_vals [UInt8.ofNat (n / 281474976710656)] (by simp only [Lib.byteCells, List.map_cons, List.map_nil, bv] <;> rfl) rfl HR1.out (by have := HB.out; simp; omega)).mono ?_
  rintro e w2 ⟨rfl, hr, hbl, hk⟩
  have HR2 := hid hr
  have HB2 := hid (HB1.out.trans hbl)
  have HK2 := hid (HK1.out.trans hk)
  clear hr hbl hk
  go_wp2_with fail
  rw [rounds_succ]
  go_wp2_with fail
  refine (wput_vals [UInt8.ofNat (n / 1099511627776)] (by simp only [Lib.byteCells, List.map_cons, List.map_nil, bv] <;> rfl) rfl HR2.out (by have := HB.out; simp; omega)).mono ?_
  rintro e w3 ⟨rfl, hr, hbl, hk⟩
  have HR3 := hid hr
  have HB3 := hid (HB2.out.trans hbl)
  have HK3 := hid (HK2.out.trans hk)
  clear hr hbl hk
  go_wp2_with fail
  rw [rounds_succ]
  go_wp2_with fail
  refine (wput_vals [UInt8.ofNat (n / 4294967296)] (by simp only [Lib.byteCells, List.map_cons, List.map_nil, bv] <;> rfl) rfl HR3.out (by have := HB.out; simp; omega)).mono ?_
  rintro e w4 ⟨rfl, hr, hbl, hk⟩
  have HR4 := hid hr
  have HB4 := hid (HB3.out.trans hbl)
  have HK4 := hid (HK3.out.trans hk)
  clear hr hbl hk
  go_wp2_with fail
  rw [rounds_succ]
  go_wp2_with fail
  refine (wput_vals [UInt8.ofNat (n / 16777216)] (by simp only [Lib.byteCells, List.map_cons, List.map_nil, bv] <;> rfl) rfl HR4.out (by have := HB.out; simp; omega)).mono ?_
  rintro e w5 ⟨rfl, hr, hbl, hk⟩
  have HR5 := hid hr
  have HB5 := hid (HB4.out.trans hbl)
  have HK5 := hid (HK4.out.trans hk)
  clear hr hbl hk
  go_wp2_with fail
  rw [rounds_succ]
  go_wp2_with fail
  refine (wput_vals [UInt8.ofNat (n / 65536)] (by simp only [Lib.byteCells, List.map_cons, List.map_nil, bv] <;> rfl) rfl HR5.out (by have := HB.out; simp; omega)).mono ?_
  rintro e w6 ⟨rfl, hr, hbl, hk⟩
  have HR6 := hid hr
  have HB6 := hid (HB5.out.trans hbl)
  have HK6 := hid (HK5.out.trans hk)
  clear hr hbl hk
  go_wp2_with fail
  rw [rounds_succ]
  go_wp2_with fail
  refine (wput_vals [UInt8.ofNat (n / 256)] (by simp only [Lib.byteCells, List.map_cons, List.map_nil, bv] <;> rfl) rfl HR6.out (by have := HB.out; simp; omega)).mono ?_
  rintro e w7 ⟨rfl, hr, hbl, hk⟩
  have HR7 := hid hr
  have HB7 := hid (HB6.out.trans hbl)
  have HK7 := hid (HK6.out.trans hk)
  clear hr hbl hk
  go_wp2_with fail
  rw [rounds_succ]
  go_wp2_with fail
  refine (wput_vals [UInt8.ofNat n] (by simp only [Lib.byteCells, List.map_cons, List.map_nil, bv0] <;> rfl) rfl HR7.out (by have := HB.out; simp; omega)).mono ?_
  rintro e w8 ⟨rfl, hr, hbl, hk⟩
  have HR8 := hid hr
  have HB8 := hid (HB7.out.trans hbl)
  have HK8 := hid (HK7.out.trans hk)
  clear hr hbl hk
  go_wp2_with fail
  rw [rounds_succ]
  go_wp2_with fail
  refine bodyPost_end (results_none rfl _ _ _) rfl ?_
  exact ⟨rfl, by simpa [be] using HR8.out, HB8.out, HK8.out⟩
set_option maxRecDepth 100000 in
set_option maxHeartbeats 2000000 in
/-- a count is put -/
theorem putCount_any {B p : Nat} {l : Bs} {w : World} (n : Nat) (h : Ww B p l w) (hn : n ≤ 140737488355328) (hb : l.length + 9 ≤ 140737488355328) :
    Calls Tryz.prog 37 #[.pointer (some ⟨p, 0, none⟩), .int .i64 (n : Int)] w fun e w' => e = .returned (.tuple #[]) ∧ Ww B p (l ++ putB n) w' ∧ Below B w w' ∧ Kp p w w' := by
  have HW := hid h
  have HB := hid hb
  have HP := hid (fun W => put12_any n (by omega) W)
  have HL : Hid ((putB n).length ≤ 9) := hid (by rw [put_len]; exact sizeN_le (formN_lt n))
  have hn1 : IntKind.u64.wrap (n : Int) = (n : Int) := by rw [IntKind.wrap_u64]; omega
  have hlt := h.lt
  have hlo := h.lo
  have HLT := hid hlt
  have HLO := hid hlo
  clear h hb hn hlt hlo
  generalize putB n = x at HP HL
  go_enter Tryz.func37, Tryz.ntmps37
  go_wp2_with fail
  go_region_held3 (fun _ => True) (exact trivial) (first
    | (go_at_call 54; refine (HP.out _).mono ?_; rintro e wX ⟨ao, cap, rfl, ho, hbX⟩; have HO := hid ho; have HBX : Hid (Below w.heap.size w wX) := hid ((Below.refl w.heap.size w).drew.trans hbX); clear ho hbX)
    | (go_at_call 39; refine (wput_any (HW.out.below HBX.out) (Sl.own HO.out rfl) (by have := HB.out; have := HL.out; omega)).mono ?_; rintro e wY ⟨rfl, hr, hbY, hk⟩; have HR := hid hr; have HBY := hid hbY; have HK := hid hk; clear hr hbY hk))
  go_wp2_with fail
  refine bodyPost_end (results_none rfl _ _ _) rfl ?_
  exact ⟨rfl, HR.out, (HBX.out.mono (Nat.le_trans HLO.out (Nat.le_of_lt HLT.out))).trans HBY.out, (Kp.of_below HBX.out).trans HK.out⟩
theorem string_bytes' (w : World) (l : Bs) : ∃ cap w', (convert 9 33 (St l)).run Tryz.prog w = .ok (.slice (some ⟨w.heap.size, 0, none⟩) l.length cap) w' ∧ Sl w' (.slice (some ⟨w.heap.size, 0, none⟩) l.length cap) l ∧ Below w.heap.size w w' := by
  have hsz : (⟨l.toArray⟩ : ByteArray).size = l.length := by simp [ByteArray.size]
  refine ⟨grownCap w l.length 0 5, Lib.bytesWorld w 5 ⟨l.toArray⟩, ?_, Or.inr ⟨_, _, rfl, grownCap_ge _ _ _ _, fun _ => ⟨rfl, by rw [Lib.bytesWorld_size]; exact Nat.lt_succ_self _⟩, fun i hi => ?_⟩, ?_⟩
  · have := Lib.run_convert_string_bytes (P := Tryz.prog) w 9 33 5 ⟨l.toArray⟩ Tryz.underlying9 Tryz.underlying33 Tryz.underlying5
    rw [hsz] at this
    exact this
  · rw [add_plain, Nat.zero_add, Lib.bytesWorld_cell w 5 ⟨l.toArray⟩ i (by rw [hsz]; exact hi)]
    simp [hi]
  · exact ⟨rfl, rfl, rfl, by rw [Lib.bytesWorld_size]; exact Nat.le_succ _, fun k hk => Lib.bytesWorld_at_old w 5 ⟨l.toArray⟩ k hk⟩
set_option maxRecDepth 100000 in
set_option maxHeartbeats 2000000 in
/-- a text is put -/
theorem putText_any {B p : Nat} {l : Bs} {w : World} (x : Bs) (h : Ww B p l w) (hb : l.length + x.length + 9 ≤ 140737488355328) :
    Calls Tryz.prog 36 #[.pointer (some ⟨p, 0, none⟩), St x] w fun e w' => e = .returned (.tuple #[]) ∧ Ww B p (l ++ (putB x.length ++ x)) w' ∧ Below B w w' ∧ Kp p w w' := by
  have hlt := h.lt
  have hlo := h.lo
  have HB := hid hb
  have HLO := hid hlo
  have HC := hid (putCount_any x.length h (by omega) (by omega))
  have HL : Hid ((putB x.length).length ≤ 9) := hid (by rw [put_len]; exact sizeN_le (formN_lt x.length))
  have hsz : (⟨x.toArray⟩ : ByteArray).size = x.length := by simp [ByteArray.size]
  clear h hb hlt hlo
  go_enter Tryz.func36, Tryz.ntmps36
  go_wp2_with fail
  refine HC.out.mono ?_
  rintro e w1 ⟨rfl, hr, hb1, hk⟩
  obtain ⟨cap, w2, hcv, hsl, hb2⟩ := string_bytes' w1 x
  have HP := hid (wput_any (hr.below hb2) hsl (by have := HB.out; have := HL.out; simp; omega))
  have HB2 := hid (hb1.trans (hb2.mono (by have := hr.lo; have := hr.lt; omega)))
  have HK2 := hid (hk.trans (Kp.of_below hb2))
  clear hr hb1 hk hsl hb2 HC
  go_wp2_with fail
  refine HP.out.mono ?_
  rintro e w3 ⟨rfl, hr, hb3, hk⟩
  have HR := hid hr
  have HB3 := hid (HB2.out.trans hb3)
  have HK3 := hid (HK2.out.trans hk)
  clear hr hb3 hk HP
  go_wp2_with fail
  refine bodyPost_end (results_none rfl _ _ _) rfl ?_
  exact ⟨rfl, by rw [← List.append_assoc]; exact HR.out, HB3.out, HK3.out⟩
end Go.Proofs.YtdhmmllpioppfaaGreat.V
