/- What TermOpens answers. -/
import Derived.Test.YtcmpiffkmnbepaaDoorSame
import Derived.Test.YtcmpiffkmnbepaaDoorWorks
import Derived.Test.YtcmpiffkmnbepaaDoorLaws
namespace Go.Proofs.YtcmpiffkmnbepaaDoor
open Go.RowKit

theorem size_both (l : Bs) (w : World) : Calls Tryd.prog 16 #[St l] w fun en w' => en = .returned (.int .i64 (if Tm.deep l = 0 then 0 else (l.length : Int))) ∧ Below w.heap.size w w' := by
  refine (size_any ⟨l.toArray⟩ w).mono ?_
  rintro e w' ⟨he, hb⟩
  refine ⟨?_, hb⟩
  rw [he, st_list, st_size]

/-- the parts that a row owns lie there -/
theorem lies_own {w : World} {base : Nat} {kids : Value} {ks : List Bs} (h : w.ownsRow base 22 1 kids ks.length (ks.map St)) : ∃ ao kc, kids = .slice ao ks.length kc ∧ Lies w ao ks := by
  rcases h.2 with ⟨h1, h0⟩ | ⟨g, cap, cur, hv, hb, hg, hc1, hc2, hc3, hc4⟩
  · refine ⟨none, 0, by rw [h1, h0], fun i hi => by omega⟩
  · have hgs : g < w.heap.size := by
      apply Classical.byContradiction
      intro hn
      rw [Array.getElem?_eq_none (by omega)] at hg
      cases hg
    refine ⟨_, cap, hv, fun i hi => ⟨g, rfl, hgs, ?_⟩⟩
    have e : (cur.toList.take (ks.length * 1))[i]? = some (St ks[i]) := by rw [hc4]; simp [hi]
    rw [Nat.mul_one, List.getElem?_take_of_lt hi, Array.getElem?_toList] at e
    rw [cell_of_heap hg]
    exact e

theorem Lies.below {w w' : World} {a : Option Addr} {ks : List Bs} (h : Lies w a ks) (hb : Below w.heap.size w w') : Lies w' a ks := by
  intro i hi
  obtain ⟨g, h1, h2, h3⟩ := h i hi
  exact ⟨g, h1, Nat.lt_of_lt_of_le h2 hb.size, (hb.cell (p := ⟨g, i, none⟩) h2).trans h3⟩

set_option maxHeartbeats 2000000 in
set_option maxRecDepth 100000 in
theorem opens_big (l : Bs) (w : World) (hl : 20000 < l.length) :
    Calls Tryd.prog 3 #[St l] w fun en w' => en = .returned (.bool true) ∧ Below w.heap.size w w' := by
  have hsz : (⟨l.toArray⟩ : ByteArray).size = l.length := st_size l
  have hl' : (20000 : Int) < (l.length : Int) := by omega
  go_enter Tryd.func3, Tryd.ntmps3
  go_wp2_with fail
  go_ret
  exact ⟨rfl, Below.refl _ _⟩

set_option maxHeartbeats 2000000 in
set_option maxRecDepth 100000 in
theorem opens_no (l : Bs) (w : World) (hl : l.length ≤ 20000) (hd : Tm.deep l = 0) :
    Calls Tryd.prog 3 #[St l] w fun en w' => en = .returned (.bool true) ∧ Below w.heap.size w w' := by
  have hsz : (⟨l.toArray⟩ : ByteArray).size = l.length := st_size l
  have hl' : ¬ (20000 : Int) < (l.length : Int) := by omega
  have HD := hid hd
  clear hd
  go_enter Tryd.func3, Tryd.ntmps3
  go_wp2_with fail
  refine (open_no l _ HD.out).mono ?_
  rintro e w1 ⟨rfl, hb⟩
  have HB1 := hid hb
  clear hb
  go_wp2_with fail
  refine (ropen_no l _ HD.out).mono ?_
  rintro e w2 ⟨rfl, hb⟩
  obtain ⟨hbl, hh⟩ := parts_block w1 w2 hb
  obtain ⟨q0, q1, q2, q3, qf⟩ := partsZ_cells hh
  have hs1 : w1.heap.size < w2.heap.size := by have := hb.size; simp at this; omega
  have HB2 := hid (HB1.out.trans (hbl.mono HB1.out.size))
  clear hb hbl hh
  go_wp2_with fail
  refine (same_yes 0 0 ⟨#[]⟩ none none 0 0 [] _ (by simp) (fun i h => by simp at h) (fun i h => by simp at h)).mono ?_
  rintro e w3 ⟨rfl, hb⟩
  have HB3 := hid (HB2.out.trans ((below_alloc_self' w2 (.cells partsZ 25)).mono HB2.out.size |>.trans (hb.mono (by have := HB2.out.size; simp; omega))))
  clear hb
  go_wp2_with fail
  refine (right_list l _).mono ?_
  rintro e w4 ⟨rfl, hb⟩
  rw [HD.out]
  have HB4 := hid (HB3.out.trans (hb.mono HB3.out.size))
  clear hb HB3
  go_wp2_with fail
  refine (size_both l _).mono ?_
  rintro e w5 ⟨rfl, hb⟩
  rw [if_pos HD.out]
  have HB5 := hid (HB4.out.trans (hb.mono HB4.out.size))
  clear hb HB4
  go_wp2_with fail
  refine (rsize_any l _).mono ?_
  rintro e w6 ⟨rfl, hb⟩
  rw [if_pos HD.out]
  have HB6 := hid (HB5.out.trans (hb.mono HB5.out.size))
  clear hb HB5
  go_wp2_with fail
  refine (deep_list l _).mono ?_
  rintro e w7 ⟨rfl, hb⟩
  have HB7 := hid (HB6.out.trans (hb.mono HB6.out.size))
  clear hb HB6
  go_wp2_with fail
  refine (rdeep_any l _).mono ?_
  rintro e w8 ⟨rfl, hb⟩
  have HB8 := hid (HB7.out.trans (hb.mono HB7.out.size))
  clear hb HB7
  go_wp2_with fail
  refine (works_any _).mono ?_
  rintro e w9 ⟨rfl, hb⟩
  have HB9 := hid (HB8.out.trans (hb.mono HB8.out.size))
  clear hb HB8
  go_wp2_with fail
  go_ret
  exact ⟨rfl, HB9.out⟩

/-- what both Opens answer of a right term -/
def OpenY (f : Nat) (c : UInt8) (l : Bs) : Prop := ∀ w, Calls Tryd.prog f #[St (c :: l)] w fun en w' => ∃ kids, en = .returned (.tuple #[.agg #[.int .u8 (c.toNat : Int), .int .i64 (setN (c :: l) 0), .string (setX (c :: l) ⟨#[]⟩), kids], .bool true]) ∧
      w'.ownsRow w.heap.size 22 1 kids (Tm.kidsOf 63 (c :: l)).length ((Tm.kidsOf 63 (c :: l)).map St) ∧ Below w.heap.size w w'

set_option maxHeartbeats 2000000 in
set_option maxRecDepth 100000 in
theorem opens_yes (c : UInt8) (l : Bs) (w : World) (hl : (c :: l).length ≤ 20000) (hd : Tm.deep (c :: l) ≠ 0) (hkl : (Tm.kidsOf 63 (c :: l)).length ≤ 20000) (hro : OpenY 13 c l) :
    Calls Tryd.prog 3 #[St (c :: l)] w fun en w' => en = .returned (.bool true) ∧ Below w.heap.size w w' := by
  have HY : Hid (OpenY 12 c l) := fun w => open_yes c l w hd
  have HO := hid hro
  unfold OpenY at HY HO
  generalize c :: l = t at *
  generalize Tm.kidsOf 63 t = ks at *
  generalize setN t 0 = N at *
  generalize setX t ⟨#[]⟩ = X at *
  have hsz : (⟨t.toArray⟩ : ByteArray).size = t.length := st_size t
  have hl' : ¬ (20000 : Int) < (t.length : Int) := by omega
  have HD := hid hd
  have HR : Hid ((Tm.deep t != 0) = true) := by apply hid; simpa using hd
  have HKL := hid hkl
  clear hd hro hkl
  go_enter Tryd.func3, Tryd.ntmps3
  go_wp2_with fail
  refine (HY.out _).mono ?_
  rintro e w1 ⟨kids, rfl, ho, hb⟩
  obtain ⟨a1, c1, rfl, hl1⟩ := lies_own ho
  have HB1 := hid hb
  have HL1 := hid hl1
  clear hb ho hl1
  go_wp2_with fail
  refine (HO.out _).mono ?_
  rintro e w2 ⟨kids, rfl, ho, hb⟩
  obtain ⟨a2, c2, rfl, hl2⟩ := lies_own ho
  have hh : w2.heap[w1.heap.size]? = some (.cells #[.int .u8 (c.toNat : Int), .int .i64 N, .string X, .slice a1 ks.length c1] 25 (0, 0)) := by rw [hb.block _ (by simp)]; exact heap_alloc_new w1 _
  have q0 : w2.cell? ⟨w1.heap.size, 0, none⟩ = some (.int .u8 (c.toNat : Int)) := by rw [cell_of_heap hh]; rfl
  have q1 : w2.cell? ⟨w1.heap.size, 1, none⟩ = some (.int .i64 N) := by rw [cell_of_heap hh]; rfl
  have q2 : w2.cell? ⟨w1.heap.size, 2, none⟩ = some (.string X) := by rw [cell_of_heap hh]; rfl
  have q3 : w2.cell? ⟨w1.heap.size, 3, none⟩ = some (.slice a1 ks.length c1) := by rw [cell_of_heap hh]; rfl
  have hbl : Below w1.heap.size w1 w2 := (below_alloc_self' w1 _).trans (hb.mono (by simp))
  have hs1 : w1.heap.size < w2.heap.size := by have := hb.size; simp at this; omega
  have HB2 := hid (HB1.out.trans (hbl.mono HB1.out.size))
  have HL1' := hid ((HL1.out.below hbl).below (below_alloc_self' w2 (.cells #[.int .u8 (c.toNat : Int), .int .i64 N, .string X, .slice a2 ks.length c2] 25)))
  have HL2' := hid (hl2.below (below_alloc_self' w2 (.cells #[.int .u8 (c.toNat : Int), .int .i64 N, .string X, .slice a2 ks.length c2] 25)))
  clear hb hbl hh ho hl2
  go_wp2_with fail
  refine (same_yes (c.toNat : Int) N X a1 a2 c1 c2 ks _ HKL.out HL1'.out HL2'.out).mono ?_
  rintro e w3 ⟨rfl, hb⟩
  have HB3 := hid (HB2.out.trans ((below_alloc_self' w2 (.cells #[.int .u8 (c.toNat : Int), .int .i64 N, .string X, .slice a2 ks.length c2] 25)).mono HB2.out.size |>.trans (hb.mono (by have := HB2.out.size; simp; omega))))
  clear hb
  go_wp2_with fail
  refine (right_list t _).mono ?_
  rintro e w4 ⟨rfl, hb⟩
  rw [HR.out]
  have HB4 := hid (HB3.out.trans (hb.mono HB3.out.size))
  clear hb HB3
  go_wp2_with fail
  refine (size_both t _).mono ?_
  rintro e w5 ⟨rfl, hb⟩
  rw [if_neg HD.out]
  have HB5 := hid (HB4.out.trans (hb.mono HB4.out.size))
  clear hb HB4
  go_wp2_with fail
  refine (rsize_any t _).mono ?_
  rintro e w6 ⟨rfl, hb⟩
  rw [if_neg HD.out]
  have HB6 := hid (HB5.out.trans (hb.mono HB5.out.size))
  clear hb HB5
  go_wp2_with fail
  refine (deep_list t _).mono ?_
  rintro e w7 ⟨rfl, hb⟩
  have HB7 := hid (HB6.out.trans (hb.mono HB6.out.size))
  clear hb HB6
  go_wp2_with fail
  refine (rdeep_any t _).mono ?_
  rintro e w8 ⟨rfl, hb⟩
  have HB8 := hid (HB7.out.trans (hb.mono HB7.out.size))
  clear hb HB7
  go_wp2_with fail
  refine (works_any _).mono ?_
  rintro e w9 ⟨rfl, hb⟩
  have HB9 := hid (HB8.out.trans (hb.mono HB8.out.size))
  clear hb HB8
  go_wp2_with fail
  go_ret
  exact ⟨rfl, HB9.out⟩
end Go.Proofs.YtcmpiffkmnbepaaDoor
