import Derived.Test.YtdhmmllpioppfaaGreatYDec
import Derived.Test.YtdhmmllpioppfaaGreatVConv
import Derived.Test.YtdhmmllpioppfaaGreatWSame
import Derived.Test.YtdhmmllpioppfaaGreatWWork
/- What was read is written over. -/
namespace Go.Proofs.YtdhmmllpioppfaaGreat.V
open Go.RowKit

/-- numbers and bytes in the blocks from lo to hi may have been written over -/
structure Tw (lo hi : Nat) (w w' : World) : Prop where
  os : w'.os = w.os
  tape : w'.tape = w.tape
  output : w'.output = w.output
  size : w'.heap.size = w.heap.size
  out : ∀ g, g < lo ∨ hi ≤ g → w'.heap[g]? = w.heap[g]?
  row : ∀ (g : Nat) (cs : Array Value) (t : TypeId), w.heap[g]? = some (.cells cs t (0, 0)) → ∃ cs' : Array Value, cs'.size = cs.size ∧ w'.heap[g]? = some (.cells cs' t (0, 0)) ∧ (t ≠ 2 → t ≠ 5 → cs' = cs)
theorem Tw.refl (lo hi : Nat) (w : World) : Tw lo hi w w := ⟨rfl, rfl, rfl, rfl, fun _ _ => rfl, fun _ cs _ h => ⟨cs, rfl, h, fun _ _ => rfl⟩⟩
theorem Tw.set {lo hi : Nat} {w w' : World} (h : Tw lo hi w w') {g o : Nat} {v : Value} {cs : Array Value} {t : TypeId} (hg : w'.heap[g]? = some (.cells cs t (0, 0))) (ht : t = 2 ∨ t = 5) (hl : lo ≤ g) (hh : g < hi) : Tw lo hi w (w'.setCell ⟨g, o, none⟩ v) := by
  refine ⟨h.os, h.tape, h.output, by simpa [World.setCell] using h.size, fun k hk => ?_, fun k cs0 t0 h0 => ?_⟩
  · rw [Below.heap_setCell _ _ _ _ (by show k ≠ g; omega)]
    exact h.out k hk
  · obtain ⟨c1, e1, e2, e3⟩ := h.row k cs0 t0 h0
    by_cases e : k = g
    · subst e
      rw [e2] at hg
      simp only [Option.some.injEq, Obj.cells.injEq] at hg
      obtain ⟨hc, htt, _⟩ := hg
      subst hc
      subst htt
      exact ⟨_, by rw [Array.size_setIfInBounds]; exact e1, heap_setCell_same e2 o v, fun h2 h5 => by rcases ht with ht | ht <;> exact absurd ht (by assumption)⟩
    · exact ⟨c1, e1, (Below.heap_setCell _ _ _ _ e).trans e2, e3⟩
theorem Tw.below {lo hi B : Nat} {w w' : World} (h : Tw lo hi w w') (hB : B ≤ lo) : Below B w w' := ⟨h.os, h.tape, h.output, Nat.le_of_eq h.size.symm, fun k hk => h.out k (by omega)⟩
/-- a row that is written over still lies there -/
theorem Tw.cell {lo hi : Nat} {w w' : World} (h : Tw lo hi w w') {t : TypeId} {v : Value} {n : Nat} {xs : List Value} (ho : w.ownsRow lo t 1 v n xs) (i : Nat) (hi' : i < n) : ∃ g cap u cs, v = .slice (some ⟨g, 0, none⟩) n cap ∧ n ≤ cap ∧ lo ≤ g ∧ w'.heap[g]? = some (.cells cs t (0, 0)) ∧ w'.cell? ⟨g, 0 + i, none⟩ = some u ∧ w'.frozen? ⟨g, 0 + i, none⟩ = false := by
  rcases ho.2 with ⟨_, h2⟩ | ⟨g, cap, cur, h1, h2, h3, h4, _, h6, _⟩
  · omega
  · obtain ⟨cs, e1, e2, _⟩ := h.row g cur t h3
    have hs : i < cs.size := by rw [e1, h6]; omega
    exact ⟨g, cap, cs[i], cs, h1, h4, h2, e2, by rw [Nat.zero_add, cell_of_heap e2]; simp [hs], frozen_of_heap e2 _⟩
/-- a record's body still lies there -/
theorem Tw.body {lo hi : Nat} {w w' : World} (h : Tw lo hi w w') {v : Value} {L : List Rec} {bs : List Value} (hb : bs.length = L.length) (ho : w.ownsRow lo 43 2 v L.length (rcells L bs)) (i : Nat) (hi' : i < L.length) : ∃ g cap, v = .slice (some ⟨g, 0, none⟩) L.length cap ∧ L.length ≤ cap ∧ w'.cell? ⟨g, 0 + i * 2 + 1, none⟩ = some (bs[i]'(by omega)) := by
  rcases ho.2 with ⟨_, h2⟩ | ⟨g, cap, cur, h1, h2, h3, h4, _, h6, _⟩
  · omega
  · obtain ⟨cs, e1, e2, e3⟩ := h.row g cur 43 h3
    have e4 := e3 (by decide) (by decide)
    subst e4
    have hg := rcells_get L bs i hb hi'
    refine ⟨g, cap, h1, h4, ?_⟩
    have h7 := ho.cells (g := g) (by rw [h1]; rfl) _ _ hg.2
    rw [add_plain] at h7
    rw [cell_of_heap e2, ← cell_of_heap h3]
    rw [Nat.zero_add] at h7 ⊢
    exact h7
theorem Tw.mo {lo hi C : Nat} {w w' : World} (h : Tw lo hi w w') {nv tv mv : Value} {m : Msg} (hm : Mo C w nv tv mv m) (hC : hi ≤ C) : Mo C w' nv tv mv m := by
  have ne : ∀ {e : TypeId} {sz : Nat} {v : Value} {n : Nat} {xs : List Value}, w.ownsRow C e sz v n xs → w'.ownsRow C e sz v n xs := fun ho => ownsRow_same ho (fun g e => h.out g (by have := (ho.lt g e).1; omega))
  obtain ⟨bs, h1, h2, h3⟩ := hm.mo.row
  exact ⟨ne hm.ns, ne hm.ts, ⟨bs, h1, ne h2, fun i hi hi' => ne (h3 i hi hi')⟩⟩
end Go.Proofs.YtdhmmllpioppfaaGreat.V

/- The law WireReads. -/
namespace Go.Proofs.YtdhmmllpioppfaaGreat.V
open Go.RowKit

theorem dec_mlen {b : Bs} (hb : b.length ≤ 40000) : MLen (decR b).1 := by
  have hno : MLen noM := ⟨by decide, by decide, by decide, by decide, by decide, ⟨by decide, fun i hi => by simp [noM] at hi⟩⟩
  unfold decR
  split
  · exact hno
  · cases h : readM b with
    | none => exact hno
    | some m =>
      simp only
      split
      · exact read_len h hb
      · exact hno
theorem own_low_mo {B C : Nat} {w : World} {nv tv mv : Value} {m : Msg} (h : Mo B w nv tv mv m) (hb : C ≤ B) : Mo C w nv tv mv m := h.lower hb
set_option maxRecDepth 100000 in
set_option maxHeartbeats 16000000 in
theorem reads_main (w : World) (v : Value) (b : Bs) (hs : Sl w v b) (hm : b.length ≤ 140737488355328) :
    Calls Tryz.prog 4 #[v] w fun e w' => e = .returned (.bool true) ∧ Below w.heap.size w w' := by
  obtain ⟨ao, cap, rfl⟩ := hs.shape
  have HWK := hid (fun W => works_any W)
  have HSL := hid hs
  clear hs
  by_cases hbig : 4000 < b.length
  · have hb1 : (4000 : Int) < (b.length : Int) := by omega
    clear HSL
    generalize b.length = q at *
    go_enter Tryz.func4, Tryz.ntmps4
    go_wp2_with fail
    refine (HWK.out _).mono ?_
    rintro e w2 ⟨rfl, hb2⟩
    have HB2 := hid hb2
    clear hb2
    go_wp2_with fail
    go_ret
    exact ⟨rfl, HB2.out⟩
  · have hb1 : ¬ (4000 : Int) < (b.length : Int) := by omega
    have HML := hid (dec_mlen (b := b) (by omega))
    obtain ⟨M, ec, hdec⟩ : ∃ M ec, decR b = (M, ec) := ⟨_, _, rfl⟩
    have HDE := hid hdec
    rw [hdec] at HML
    obtain ⟨cc, w1, hcv, hsl1, hbl1⟩ := string_bytes w b
    have hcs := HSL.out.string
    have HD1 := hid (dec_any w1 _ b hsl1 hm)
    rw [hdec] at HD1
    have HS1 := hid hsl1
    have HB1 := hid hbl1
    have HS0 := hid (HSL.out.below hbl1)
    clear hdec hsl1 hbl1
    obtain ⟨bl, hbl⟩ : ∃ q, q = b.length := ⟨_, rfl⟩
    have HBL := hid hbl
    rw [← hbl] at hcv hcs HD1 HS1 HS0 HSL hb1 hm ⊢
    clear hbl hbig
    go_enter Tryz.func4, Tryz.ntmps4
    go_wp2_with fail
    refine HD1.out.mono ?_
    rintro e w2 ⟨nv, tv, mv, rfl, hmo, hb2⟩
    obtain ⟨a1, c1, rfl⟩ := own_slice hmo.ns
    obtain ⟨a2, c2, rfl⟩ := own_slice hmo.ts
    obtain ⟨a3, c3, rfl⟩ := hmo.mo.shape
    have HMO := hid hmo
    have HB2 := hid hb2
    have hbx : Below w2.heap.size w2 (w2.alloc (.cells #[.int .u16 (M.k : Int), St M.ch, .slice a1 M.ns.length c1, .slice a2 M.ts.length c2, St M.tx, .slice a3 M.mo.length c3] 27)) := (Below.refl _ _).alloc (Nat.le_refl _) _
    have hbw : Below w1.heap.size w1 (w2.alloc (.cells #[.int .u16 (M.k : Int), St M.ch, .slice a1 M.ns.length c1, .slice a2 M.ts.length c2, St M.tx, .slice a3 M.mo.length c3] 27)) := two_low hb2 hbx
    have HRD := hid (rdec_any _ _ b (HS0.out.below hbw))
    rw [HDE.out] at HRD
    have HBW := hid hbw
    clear hmo hb2 hbx hbw HD1 hcv hcs
    go_wp2_with fail
    refine HRD.out.mono ?_
    rintro e w3 ⟨nv, tv, mv, rfl, hmo2, hb3⟩
    obtain ⟨b1, g1, rfl⟩ := own_slice hmo2.ns
    obtain ⟨b2, g2, rfl⟩ := own_slice hmo2.ts
    obtain ⟨b3, g3, rfl⟩ := hmo2.mo.shape
    have hx3 := box_at hb3
    have hbx3 : Below w3.heap.size w3 (w3.alloc (.cells #[.int .u16 (M.k : Int), St M.ch, .slice b1 M.ns.length g1, .slice b2 M.ts.length g2, St M.tx, .slice b3 M.mo.length g3] 27)) := (Below.refl _ _).alloc (Nat.le_refl _) _
    have hz3 : w2.heap.size + 1 ≤ w3.heap.size := by have := hb3.size; simpa using this
    have hM4 : Mo w1.heap.size (w3.alloc (.cells #[.int .u16 (M.k : Int), St M.ch, .slice b1 M.ns.length g1, .slice b2 M.ts.length g2, St M.tx, .slice b3 M.mo.length g3] 27)) (.slice a1 M.ns.length c1) (.slice a2 M.ts.length c2) (.slice a3 M.mo.length c3) M := HMO.out.below (two_low (box_below hb3) hbx3)
    have hW4 : Mo (w2.alloc (.cells #[.int .u16 (M.k : Int), St M.ch, .slice a1 M.ns.length c1, .slice a2 M.ts.length c2, St M.tx, .slice a3 M.mo.length c3] 27)).heap.size (w3.alloc (.cells #[.int .u16 (M.k : Int), St M.ch, .slice b1 M.ns.length g1, .slice b2 M.ts.length g2, St M.tx, .slice b3 M.mo.length g3] 27)) (.slice b1 M.ns.length g1) (.slice b2 M.ts.length g2) (.slice b3 M.mo.length g3) M := hmo2.below hbx3
    have HSA := hid (msame_yes _ _ _ _ _ _ _ M hM4.ms hW4.ms HML.out)
    have hp4 : (w3.alloc (.cells #[.int .u16 (M.k : Int), St M.ch, .slice b1 M.ns.length g1, .slice b2 M.ts.length g2, St M.tx, .slice b3 M.mo.length g3] 27)).heap[w2.heap.size]? = some (.cells #[.int .u16 (M.k : Int), St M.ch, .slice a1 M.ns.length c1, .slice a2 M.ts.length c2, St M.tx, .slice a3 M.mo.length c3] 27) := (Below.heap_alloc _ _ _ (by omega)).trans hx3
    have hp6 : (w3.alloc (.cells #[.int .u16 (M.k : Int), St M.ch, .slice b1 M.ns.length g1, .slice b2 M.ts.length g2, St M.tx, .slice b3 M.mo.length g3] 27)).heap[w3.heap.size]? = some (.cells #[.int .u16 (M.k : Int), St M.ch, .slice b1 M.ns.length g1, .slice b2 M.ts.length g2, St M.tx, .slice b3 M.mo.length g3] 27) := heap_alloc_new _ _
    have HB4 := hid (two_low HBW.out (two_low hb3 hbx3))
    have HB23 := hid (two_low (box_below hb3) hbx3)
    have HM4 := hid hM4
    have HW4 := hid (own_low_mo hW4 (show w2.heap.size + 1 ≤ _ by simp))
    have HP4 := hid hp4
    have HP6 := hid hp6
    have HZ3 := hid hz3
    have o0 : w3.cell? ⟨w2.heap.size, 0, none⟩ = some (.int .u16 (M.k : Int)) := (cell_of_heap hx3 0).trans rfl
    have o1 : w3.cell? ⟨w2.heap.size, 1, none⟩ = some (St M.ch) := (cell_of_heap hx3 1).trans rfl
    have o2 : w3.cell? ⟨w2.heap.size, 2, none⟩ = some (.slice a1 M.ns.length c1) := (cell_of_heap hx3 2).trans rfl
    have o3 : w3.cell? ⟨w2.heap.size, 3, none⟩ = some (.slice a2 M.ts.length c2) := (cell_of_heap hx3 3).trans rfl
    have o4 : w3.cell? ⟨w2.heap.size, 4, none⟩ = some (St M.tx) := (cell_of_heap hx3 4).trans rfl
    have o5 : w3.cell? ⟨w2.heap.size, 5, none⟩ = some (.slice a3 M.mo.length c3) := (cell_of_heap hx3 5).trans rfl
    have o6 : w2.heap.size < w3.heap.size := by omega
    clear hx3 hbx3 hM4 hW4 hp4 hp6 hmo2 hb3 HRD HBW
    go_wp2_with fail
    refine HSA.out.mono ?_
    rintro e w4 ⟨rfl, hb4⟩
    have hM := HM4.out.below hb4
    have hW := HW4.out.below hb4
    have hp4 := (hb4.block _ (lt_of_block HP4.out)).trans HP4.out
    have hp6 := (hb4.block _ (lt_of_block HP6.out)).trans HP6.out
    have HM := hid hM
    have HW := hid hW
    have HQ4 := hid hp4
    have HQ6 := hid hp6
    have HB5 := hid (two_low HB4.out hb4)
    have HB24 := hid (two_low HB23.out hb4)
    clear hM hW hp4 hp6 hb4 HSA HM4 HW4 HP4 HP6 HB4 HB23 o0 o1 o2 o3 o4 o5 o6
    -- the numbers are written over
    obtain ⟨bs, hbs, hrow2, hbod2⟩ := HMO.out.mo.row
    have HBS := hid hbs
    have HNR : Hid (w4.ownsRow w1.heap.size 2 1 (.slice a1 M.ns.length c1) M.ns.length (i64s M.ns)) := hid (ownsRow_same HMO.out.ns (fun g e => HB24.out.block g (HMO.out.ns.lt g e).2))
    have HNL : Hid (∀ g, (Value.slice a1 M.ns.length c1).ownBlock = some g → g < w2.heap.size) := hid (fun g e => (HMO.out.ns.lt g e).2)
    have HRR : Hid (w4.ownsRow w1.heap.size 43 2 (.slice a3 M.mo.length c3) M.mo.length (rcells M.mo bs)) := hid (ownsRow_same hrow2 (fun g e => HB24.out.block g (hrow2.lt g e).2))
    have HBO : Hid (∀ i (h : i < M.mo.length) (h' : i < bs.length), w4.ownsRow w1.heap.size 5 1 bs[i] M.mo[i].2.length (bcs M.mo[i].2) ∧ ∀ g, bs[i].ownBlock = some g → g < w2.heap.size) := hid (fun i h h' => ⟨ownsRow_same (hbod2 i h h') (fun g e => HB24.out.block g ((hbod2 i h h').lt g e).2), fun g e => ((hbod2 i h h').lt g e).2⟩)
    have hnm : M.ns.length ≤ 140737488355328 := HML.out.ns
    have hqm : M.mo.length ≤ 140737488355328 := HML.out.mo.1
    have HPB : Hid (∀ W, Tw w1.heap.size w2.heap.size w4 W → W.cell? ⟨w2.heap.size, 2, none⟩ = some (.slice a1 M.ns.length c1) ∧ W.cell? ⟨w2.heap.size, 5, none⟩ = some (.slice a3 M.mo.length c3)) := hid (fun W hT => by
      have h9 := (hT.out _ (.inr (Nat.le_refl _))).trans HQ4.out
      exact ⟨(cell_of_heap h9 2).trans rfl, (cell_of_heap h9 5).trans rfl⟩)
    clear hbs hrow2 hbod2 HMO HB24 HM HQ4
    go_wp2_with fail
    go_loopg [8] M.ns.length (fun gg v8 wr => ∃ i : Nat, i ≤ M.ns.length ∧ gg = M.ns.length - i ∧ v8 = .int .i64 (i : Int) ∧ Tw w1.heap.size w2.heap.size w4 wr)
    case atStart => exact ⟨0, by omega, by omega, rfl, Tw.refl _ _ _⟩
    case round =>
      obtain ⟨i, hi, rfl, rfl, hT⟩ := hrel
      have HT := hid hT
      obtain ⟨s2, s5⟩ := HPB.out wr hT
      clear hT
      by_cases hil : i < M.ns.length
      · have hi1 : (i : Int) < (M.ns.length : Int) := by omega
        obtain ⟨g, cp, u, cs, hv, hcp, hlo, hblk, hcell, hfr⟩ := HT.out.cell HNR.out i hil
        have hgl := HNL.out g (by rw [hv]; rfl)
        cases hv
        rw [Nat.zero_add] at hcell hfr
        have HT' := hid (HT.out.set (o := i) (v := .int .i64 99) hblk (.inl rfl) hlo hgl)
        clear hblk hlo hgl
        go_wp2_with fail
        go_roundg (M.ns.length - (i + 1))
        case measure => omega
        case rel => exact ⟨i + 1, by omega, rfl, by go_num, HT'.out⟩
      · have hi1 : ¬ (i : Int) < (M.ns.length : Int) := by omega
        clear hil hi
        obtain ⟨wz, rfl⟩ : ∃ wz, wz = wr := ⟨_, rfl⟩
        go_wp2_with fail
        clear s2 s5 hi1
        go_loopg [9, 10] M.mo.length (fun gg v9 _v10 wr => ∃ i : Nat, i ≤ M.mo.length ∧ gg = M.mo.length - i ∧ v9 = .int .i64 (i : Int) ∧ Tw w1.heap.size w2.heap.size w4 wr)
        case atStart => exact ⟨0, by omega, by omega, rfl, HT.out⟩
        case round =>
          obtain ⟨j, hj, rfl, rfl, hT⟩ := hrel
          clear HT
          have HT := hid hT
          obtain ⟨s2, s5⟩ := HPB.out wr hT
          clear hT
          by_cases hjl : j < M.mo.length
          · have hj1 : (j : Int) < (M.mo.length : Int) := by omega
            have hjb : j < bs.length := by rw [HBS.out]; exact hjl
            obtain ⟨hbo, hbg⟩ := HBO.out j hjl hjb
            have HBD := hid hbo
            have HBG := hid hbg
            have hbn : M.mo[j].2.length ≤ 140737488355328 := (HML.out.mo.2 j hjl).2
            obtain ⟨ab, cb, hbe⟩ := own_is hbo
            have HBE := hid hbe
            obtain ⟨nb, hnb⟩ : ∃ q, q = M.mo[j].2.length := ⟨_, rfl⟩
            rw [← hnb] at HBD hbn HBE
            obtain ⟨wo, rfl⟩ : ∃ wo, wo = wr := ⟨_, rfl⟩
            clear hbo hbg hbe hnb
            go_wp2_with fail
            clear s2 s5
            go_loopg [10] nb (fun gg v10 wr => ∃ q : Nat, q ≤ nb ∧ gg = nb - q ∧ v10 = .int .i64 (q : Int) ∧ Tw w1.heap.size w2.heap.size w4 wr)
            case atStart => exact ⟨0, by omega, by omega, rfl, HT.out⟩
            case round =>
              obtain ⟨q, hq, rfl, rfl, hT⟩ := hrel
              clear HT
              have HT := hid hT
              obtain ⟨s2, s5⟩ := HPB.out wr hT
              obtain ⟨gm, cm, hvm, hcm, hcellm⟩ := hT.body HBS.out HRR.out j hjl
              rw [HBE.out, Nat.zero_add] at hcellm
              cases hvm
              clear hT
              by_cases hql : q < nb
              · have hq1 : (q : Int) < (nb : Int) := by omega
                obtain ⟨g, cp, u, cs, hv, hcp, hlo, hblk, hcell, hfr⟩ := HT.out.cell HBD.out q hql
                have hgl := HBG.out g (by rw [hv]; rfl)
                rw [HBE.out] at hv
                cases hv
                rw [Nat.zero_add] at hcell hfr
                have HT' := hid (HT.out.set (o := q) (v := .int .u8 238) hblk (.inr rfl) hlo hgl)
                clear hblk hlo hgl
                go_wp2_with fail
                go_roundg (nb - (q + 1))
                case measure => omega
                case rel => exact ⟨q + 1, by omega, rfl, by go_num, HT'.out⟩
              · have hq1 : ¬ (q : Int) < (nb : Int) := by omega
                go_wp2_with fail
                go_roundg (M.mo.length - (j + 1))
                case measure => omega
                case rel => exact ⟨j + 1, by omega, rfl, by go_num, HT.out⟩
          · have hj1 : ¬ (j : Int) < (M.mo.length : Int) := by omega
            clear hjl hj
            obtain ⟨wl, rfl⟩ : ∃ wl, wl = wr := ⟨_, rfl⟩
            have hBl := HB5.out.trans (HT.out.below (Nat.le_refl _))
            have HD2 := hid (dec_any wl _ b (HS1.out.below hBl) (by rw [← HBL.out]; exact hm))
            rw [HDE.out] at HD2
            have HBl := hid hBl
            clear hBl
            go_wp2_with fail
            refine HD2.out.mono ?_
            rintro e w6 ⟨nv, tv, mv, rfl, hmo, hb6⟩
            obtain ⟨e1, h1, rfl⟩ := own_slice hmo.ns
            obtain ⟨e2, h2, rfl⟩ := own_slice hmo.ts
            obtain ⟨e3, h3, rfl⟩ := hmo.mo.shape
            have hbx6 : Below w6.heap.size w6 (w6.alloc (.cells #[.int .u16 (M.k : Int), St M.ch, .slice e1 M.ns.length h1, .slice e2 M.ts.length h2, St M.tx, .slice e3 M.mo.length h3] 27)) := (Below.refl _ _).alloc (Nat.le_refl _) _
            have hB6 := two_low HBl.out (two_low hb6 hbx6)
            have hq6 := (hb6.block _ (by rw [HT.out.size]; exact lt_of_block HQ6.out)).trans ((HT.out.out _ (.inr (by have := HZ3.out; omega))).trans HQ6.out)
            have hwant := (HT.out.mo HW.out (by omega)).below (two_low hb6 hbx6)
            have HSA := hid (msame_yes _ _ _ _ _ _ _ M (hmo.below hbx6).ms hwant.ms HML.out)
            have hcv1 := (HS1.out.below hB6).string
            have hcv2 := (HS0.out.below hB6).string
            have HB6 := hid (two_low HB1.out hB6)
            have o0 : w6.cell? ⟨w3.heap.size, 0, none⟩ = some (.int .u16 (M.k : Int)) := (cell_of_heap hq6 0).trans rfl
            have o1 : w6.cell? ⟨w3.heap.size, 1, none⟩ = some (St M.ch) := (cell_of_heap hq6 1).trans rfl
            have o2 : w6.cell? ⟨w3.heap.size, 2, none⟩ = some (.slice b1 M.ns.length g1) := (cell_of_heap hq6 2).trans rfl
            have o3 : w6.cell? ⟨w3.heap.size, 3, none⟩ = some (.slice b2 M.ts.length g2) := (cell_of_heap hq6 3).trans rfl
            have o4 : w6.cell? ⟨w3.heap.size, 4, none⟩ = some (St M.tx) := (cell_of_heap hq6 4).trans rfl
            have o5 : w6.cell? ⟨w3.heap.size, 5, none⟩ = some (.slice b3 M.mo.length g3) := (cell_of_heap hq6 5).trans rfl
            have o6 := lt_of_block hq6
            clear hmo hb6 hbx6 hB6 hq6 hwant HD2 HBl HT HW HQ6 s2 s5
            go_wp2_with fail
            refine HSA.out.mono ?_
            rintro e w7 ⟨rfl, hb7⟩
            have HB7 := hid (two_low HB6.out hb7)
            clear hb7 hcv1 hcv2 o0 o1 o2 o3 o4 o5 o6
            go_wp2_with fail
            refine (HWK.out _).mono ?_
            rintro e w8 ⟨rfl, hb8⟩
            have HB8 := hid (two_low HB7.out hb8)
            clear hb8
            go_wp2_with fail
            go_ret
            exact ⟨rfl, HB8.out⟩
end Go.Proofs.YtdhmmllpioppfaaGreat.V
