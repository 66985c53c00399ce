/- Encode. -/
import Derived.Test.YtdhmmllpioppfaaGreatWEnc
namespace Go.Proofs.YtdhmmllpioppfaaGreat.V
open Go.RowKit

set_option maxRecDepth 100000 in
set_option maxHeartbeats 4000000 in
theorem enc_any (w : World) (nv tv mv : Value) (m : Msg) (h : Ms w nv tv mv m) (hl : MLen m) :
    Calls Tryz.prog 10 #[Mv m.k m.ch nv tv m.tx mv] w fun e w' => ∃ ao cap, e = .returned (.tuple #[.slice ao (encR m).1.length cap, .int .i64 ((encR m).2 : Int)]) ∧ w'.ownsRow w.heap.size 5 1 (.slice ao (encR m).1.length cap) (encR m).1.length (bcs (encR m).1) ∧ Below w.heap.size w w' := by
  have HM := hid (fun W (hb : Below w.heap.size w W) => may_any W nv tv mv m (h.below hb) hl)
  obtain ⟨an, cn, rfl, _⟩ := h.ns
  obtain ⟨at', ct, rfl, _⟩ := h.ts
  obtain ⟨am, cm, rfl⟩ := h.mo.shape
  have HBX := hid ((Below.refl w.heap.size w).alloc (Nat.le_refl _) (.cells #[.int .u16 (m.k : Int), St m.ch, .slice an m.ns.length cn, .slice at' m.ts.length ct, St m.tx, .slice am m.mo.length cm] 27))
  cases hm : mayB m with
  | false =>
    have HE : Hid (encR m = ([], 80)) := hid (by unfold encR; rw [if_pos hm])
    rw [hm] at HM
    rw [HE.out]
    have HM1 := hid (HM.out _ HBX.out)
    clear h hl hm HM HE HBX
    generalize m.ns.length = n at HM1
    generalize m.ts.length = t at HM1
    generalize m.mo.length = q at HM1
    go_enter Tryz.func10, Tryz.ntmps10
    go_wp2_with fail
    refine HM1.out.mono ?_
    rintro e w1 ⟨rfl, hb⟩
    have HB := hid (box_below hb)
    clear hb HM1
    go_wp2_with fail
    go_ret2
    exact ⟨none, 0, rfl, World.ownsRow_nil _ _ _ _, HB.out⟩
  | true =>
    have HP := hid (fun W p (hw : Ww w.heap.size p [] W) (hb : Below w.heap.size w W) => putMsg_any w W p an at' am cn ct cm m h hl hm hw hb)
    have HE : Hid (encR m = if 32768 < (msgB m).length then ([], 3) else (msgB m, 0)) := hid (by unfold encR; rw [if_neg (by simp [hm])])
    rw [hm] at HM
    rw [HE.out]
    have HM1 := hid (HM.out _ HBX.out)
    clear h hl hm HM HE HBX
    generalize m.ns.length = n at HM1 HP
    generalize m.ts.length = t at HM1 HP
    generalize m.mo.length = q at HM1 HP
    generalize msgB m = bs at HP ⊢
    obtain ⟨c, e, hce⟩ : ∃ c e, (if 32768 < bs.length then (([] : Bs), 3) else (bs, 0)) = (c, e) := ⟨_, _, rfl⟩
    rw [hce]
    have HCE := hid hce
    clear hce
    go_enter Tryz.func10, Tryz.ntmps10
    go_wp2_with fail
    refine HM1.out.mono ?_
    rintro e w1 ⟨rfl, hb⟩
    have HB := hid (box_below hb)
    have HX := hid (box_at hb)
    have hx2 : (w1.alloc (.cells #[.slice none 0 0] 61)).heap[w.heap.size]? = _ := (Below.heap_alloc w1 _ _ (lt_of_block HX.out)).trans HX.out
    have d0 : (w1.alloc (.cells #[.slice none 0 0] 61)).cell? ⟨w.heap.size, 0, none⟩ = some (.int .u16 (m.k : Int)) := (cell_of_heap hx2 0).trans rfl
    have d1 : (w1.alloc (.cells #[.slice none 0 0] 61)).cell? ⟨w.heap.size, 1, none⟩ = some (St m.ch) := (cell_of_heap hx2 1).trans rfl
    have d2 : (w1.alloc (.cells #[.slice none 0 0] 61)).cell? ⟨w.heap.size, 2, none⟩ = some (.slice an n cn) := (cell_of_heap hx2 2).trans rfl
    have d3 : (w1.alloc (.cells #[.slice none 0 0] 61)).cell? ⟨w.heap.size, 3, none⟩ = some (.slice at' t ct) := (cell_of_heap hx2 3).trans rfl
    have d4 : (w1.alloc (.cells #[.slice none 0 0] 61)).cell? ⟨w.heap.size, 4, none⟩ = some (St m.tx) := (cell_of_heap hx2 4).trans rfl
    have d5 : (w1.alloc (.cells #[.slice none 0 0] 61)).cell? ⟨w.heap.size, 5, none⟩ = some (.slice am q cm) := (cell_of_heap hx2 5).trans rfl
    clear hx2
    have HWW : Hid (Ww w.heap.size w1.heap.size [] (w1.alloc (.cells #[.slice none 0 0] 61))) := hid ⟨HB.out.size, _, heap_alloc_new w1 _, World.ownsRow_nil _ _ _ _⟩
    have HB1 := hid (HB.out.alloc HB.out.size (.cells #[.slice none 0 0] 61))
    clear hb HM1
    go_wp2_with fail
    refine (HP.out _ _ HWW.out HB1.out).mono ?_
    rintro e w2 ⟨rfl, hw2, hb2⟩
    obtain ⟨v, h1, h2⟩ := hw2.blk
    obtain ⟨av, cv, hv⟩ : ∃ av cv, v = .slice av bs.length cv := by
      rcases h2.2 with ⟨h3, h4⟩ | ⟨g, cap, _, h3, _⟩
      · rw [h4]; exact ⟨_, _, h3⟩
      · exact ⟨_, _, h3⟩
    subst hv
    have hc : w2.cell? ⟨w1.heap.size, 0, none⟩ = some (.slice av bs.length cv) := by rw [cell_of_heap h1]; rfl
    have H2 := hid h2
    have HB2 := hid hb2
    clear hw2 h1 h2 hb2 HP d0 d1 d2 d3 d4 d5 HWW HB1 HX
    by_cases hq : 32768 < bs.length
    · have hq1 : (32768 : Int) < (bs.length : Int) := by omega
      have h9 := HCE.out
      rw [if_pos hq] at h9
      obtain ⟨rfl, rfl⟩ := Prod.mk.inj h9
      clear hq h9 HCE
      go_wp2_with fail
      go_ret2
      exact ⟨none, 0, rfl, World.ownsRow_nil _ _ _ _, HB2.out⟩
    · have hq1 : ¬ (32768 : Int) < (bs.length : Int) := by omega
      have h9 := HCE.out
      rw [if_neg hq] at h9
      obtain ⟨rfl, rfl⟩ := Prod.mk.inj h9
      clear hq h9 HCE
      go_wp2_with fail
      go_ret2
      exact ⟨av, cv, rfl, H2.out, HB2.out⟩
end Go.Proofs.YtdhmmllpioppfaaGreat.V
