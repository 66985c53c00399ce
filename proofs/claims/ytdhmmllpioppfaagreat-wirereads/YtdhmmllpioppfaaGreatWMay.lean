/- mayBe. -/
import Derived.Test.YtdhmmllpioppfaaGreatWFit
namespace Go.Proofs.YtdhmmllpioppfaaGreat.V
open Go.RowKit

/-- how great a message may be in memory -/
structure MLen (m : Msg) : Prop where
  k : m.k < 65536
  ns : m.ns.length ≤ 140737488355328
  ts : m.ts.length ≤ 140737488355328
  ch : m.ch.length ≤ 140737488355328
  tx : m.tx.length ≤ 140737488355328
  mo : Few m.mo
theorem not_any (l : List Bs) : l.all (fun t => Tm.deep t != 0) = !(l.any fun t => Tm.deep t == 0) := by
  induction l with
  | nil => rfl
  | cons a l ih =>
    rw [List.all_cons, List.any_cons, ih, Bool.not_or]
    rfl
set_option maxRecDepth 100000 in
set_option maxHeartbeats 4000000 in
theorem may_any (w : World) (nv tv mv : Value) (m : Msg) (h : Ms w nv tv mv m) (hl : MLen m) :
    Calls Tryz.prog 19 #[Mv m.k m.ch nv tv m.tx mv] w fun e w' => e = .returned (.bool (mayB m)) ∧ Below w.heap.size w w' := by
  unfold mayB
  rw [not_any]
  obtain ⟨an, cn, rfl, _⟩ := h.ns
  obtain ⟨at', ct, rfl, _⟩ := h.ts
  obtain ⟨am, cm, rfl⟩ := h.mo.shape
  have HC := hid (fun W => cfit_any m.k hl.k m.ch m.tx an at' m.ns.length cn m.ts.length ct (.slice am m.mo.length cm) W)
  have HM := hid (fun W (hb : Below w.heap.size w W) => mfit_any W _ m.mo (h.mo.below hb) hl.mo)
  have HT := hid (fun W (hb : Below w.heap.size w W) => contains_any W _ ct m.ts (h.ts.below hb) hl.ts)
  have hs1 : (⟨m.ch.toArray⟩ : ByteArray).size = m.ch.length := by simp [ByteArray.size]
  have hs2 : (⟨m.tx.toArray⟩ : ByteArray).size = m.tx.length := by simp [ByteArray.size]
  have e1 : decide (m.ch.length ≤ 100) = decide ((m.ch.length : Int) ≤ 100) := by rw [Bool.eq_iff_iff]; simp; omega
  have e2 : decide (m.tx.length ≤ 4096) = decide ((m.tx.length : Int) ≤ 4096) := by rw [Bool.eq_iff_iff]; simp; omega
  rw [e1, e2]
  clear e1 e2 h hl
  generalize fitB m.k m.ns.length m.ts.length = b1 at HC
  generalize moreB m.mo = b2 at HM
  generalize (m.ts.any fun t => Tm.deep t == 0) = b3 at HT
  generalize m.ns.length = n at HC
  generalize m.ts.length = t at HC HT
  generalize m.mo.length = q at HC HM
  generalize m.ch = ch at HC hs1
  generalize m.tx = tx at HC hs2
  generalize m.k = k at HC
  cases b1 with
  | false =>
    go_enter Tryz.func19, Tryz.ntmps19
    go_wp2_with fail
    refine (HC.out _).mono ?_
    rintro e w1 ⟨rfl, hb⟩
    have HB := hid (box_below hb)
    clear hb
    go_wp2_with fail
    go_ret
    exact ⟨rfl, HB.out⟩
  | true =>
    by_cases h1 : (ch.length : Int) ≤ 100
    · by_cases h2 : (tx.length : Int) ≤ 4096
      · cases b2 with
        | false =>
          go_enter Tryz.func19, Tryz.ntmps19
          go_wp2_with fail
          refine (HC.out _).mono ?_
          rintro e w1 ⟨rfl, hb⟩
          have hx := box_at hb
          have HB := hid (box_below hb)
          have c1 : w1.cell? ⟨w.heap.size, 1, none⟩ = some (St ch) := by rw [cell_of_heap hx]; rfl
          have c4 : w1.cell? ⟨w.heap.size, 4, none⟩ = some (St tx) := by rw [cell_of_heap hx]; rfl
          have c5 : w1.cell? ⟨w.heap.size, 5, none⟩ = some (.slice am q cm) := by rw [cell_of_heap hx]; rfl
          clear hb hx
          go_wp2_with fail
          refine (HM.out _ HB.out).mono ?_
          rintro e w2 ⟨rfl, hb2⟩
          have HB2 := hid (two_low HB.out hb2)
          clear hb2
          go_wp2_with fail
          go_ret
          exact ⟨by simp [h1, h2], HB2.out⟩
        | true =>
          go_enter Tryz.func19, Tryz.ntmps19
          go_wp2_with fail
          refine (HC.out _).mono ?_
          rintro e w1 ⟨rfl, hb⟩
          have hx := box_at hb
          have HX := hid hx
          have HB := hid (box_below hb)
          have c1 : w1.cell? ⟨w.heap.size, 1, none⟩ = some (St ch) := by rw [cell_of_heap hx]; rfl
          have c4 : w1.cell? ⟨w.heap.size, 4, none⟩ = some (St tx) := by rw [cell_of_heap hx]; rfl
          have c5 : w1.cell? ⟨w.heap.size, 5, none⟩ = some (.slice am q cm) := by rw [cell_of_heap hx]; rfl
          clear hb hx
          go_wp2_with fail
          refine (HM.out _ HB.out).mono ?_
          rintro e w2 ⟨rfl, hb2⟩
          have HB2 := hid (two_low HB.out hb2)
          have c3 : w2.cell? ⟨w.heap.size, 3, none⟩ = some (.slice at' t ct) := by rw [cell_of_heap ((hb2.block _ (lt_of_block HX.out)).trans HX.out)]; rfl
          clear hb2
          go_wp2_with fail
          refine (HT.out _ HB2.out).mono ?_
          rintro e w3 ⟨rfl, hb3⟩
          have HB3 := hid (two_low HB2.out hb3)
          clear hb3
          go_wp2_with fail
          go_ret
          exact ⟨by simp [h1, h2], HB3.out⟩
      · have hd : decide ((tx.length : Int) ≤ 4096) = false := by simpa using h2
        have HD := hid hd
        clear h2
        go_enter Tryz.func19, Tryz.ntmps19
        go_wp2_with fail
        refine (HC.out _).mono ?_
        rintro e w1 ⟨rfl, hb⟩
        have hx := box_at hb
        have HB := hid (box_below hb)
        have c1 : w1.cell? ⟨w.heap.size, 1, none⟩ = some (St ch) := by rw [cell_of_heap hx]; rfl
        have c4 : w1.cell? ⟨w.heap.size, 4, none⟩ = some (St tx) := by rw [cell_of_heap hx]; rfl
        clear hb hx
        go_wp2_with fail
        go_ret
        exact ⟨by rw [HD.out]; simp, HB.out⟩
    · have hd : decide ((ch.length : Int) ≤ 100) = false := by simpa using h1
      have HD := hid hd
      clear h1
      go_enter Tryz.func19, Tryz.ntmps19
      go_wp2_with fail
      refine (HC.out _).mono ?_
      rintro e w1 ⟨rfl, hb⟩
      have hx := box_at hb
      have HB := hid (box_below hb)
      have c1 : w1.cell? ⟨w.heap.size, 1, none⟩ = some (St ch) := by rw [cell_of_heap hx]; rfl
      clear hb hx
      go_wp2_with fail
      go_ret
      exact ⟨by rw [HD.out]; simp, HB.out⟩
end Go.Proofs.YtdhmmllpioppfaaGreat.V
