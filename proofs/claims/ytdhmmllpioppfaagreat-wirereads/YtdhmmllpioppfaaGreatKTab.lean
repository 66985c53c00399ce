/- The document's table of kinds, and what it says of a kind. -/
import Derived.Test.YtdhmmllpioppfaaGreatVSizeL
import Derived.Test.YtdhmmllpioppfaaGreatWCnt
namespace Go.Proofs.YtdhmmllpioppfaaGreat
open Go.RowKit

/-- the cells of a table -/
def kcs : List (Int × Int × Int) → List Value
  | [] => []
  | (k, a, b) :: r => .int .u16 k :: .int .i64 a :: .int .i64 b :: kcs r
theorem kcs_at : ∀ (l : List (Int × Int × Int)) (i : Nat) (h : i < l.length), (kcs l)[i * 3]? = some (.int .u16 l[i].1) ∧ (kcs l)[i * 3 + 1]? = some (.int .i64 l[i].2.1) ∧ (kcs l)[i * 3 + 2]? = some (.int .i64 l[i].2.2)
  | [], _, h => absurd h (by simp)
  | (k, a, b) :: r, 0, _ => ⟨rfl, rfl, rfl⟩
  | (k, a, b) :: r, i + 1, h => by
    have q := kcs_at r i (by simpa using h)
    rw [show (i + 1) * 3 = i * 3 + 3 by omega]
    exact q
/-- the world with the table in it -/
def tW (w : World) : World := w.alloc (.cells (kcs ktab).toArray 55)
theorem tW_size (w : World) : (tW w).heap.size = w.heap.size + 1 := by simp [tW]
theorem tW_at (w : World) : (tW w).heap[w.heap.size]? = some (.cells (kcs ktab).toArray 55) := heap_alloc_new w _
theorem tW_below (w : World) : Below w.heap.size w (tW w) := (Below.refl _ w).alloc (Nat.le_refl _) _
theorem find_ahead (k : Int) : ∀ (l : List (Int × Int × Int)) (i : Nat), (∀ j (h : j < l.length), j < i → l[j].1 ≠ k) → l.find? (fun t => t.1 == k) = (l.drop i).find? (fun t => t.1 == k)
  | _, 0, _ => rfl
  | [], _ + 1, _ => rfl
  | t :: r, i + 1, h => by
    have h0 : (t.1 == k) = false := by
      have q : t.1 ≠ k := h 0 (by simp) (by omega)
      simpa using q
    rw [List.find?_cons, h0, List.drop_succ_cons]
    exact find_ahead k r i fun j hj hji => h (j + 1) (by simpa using hj) (by omega)
theorem cnt_at (k : Int) (i : Nat) (hi : i < ktab.length) (ha : ∀ j (h : j < ktab.length), j < i → ktab[j].1 ≠ k) (he : ktab[i].1 = k) : cntK k = (ktab[i].2.1, ktab[i].2.2, true) := by
  have h : ktab.find? (fun t => t.1 == k) = some ktab[i] := by
    rw [find_ahead k ktab i ha, List.drop_eq_getElem_cons hi, List.find?_cons, show (ktab[i].1 == k) = true by simpa using he]
  unfold cntK
  rw [h]
theorem cnt_no (k : Int) (ha : ∀ j (h : j < ktab.length), j < 20 → ktab[j].1 ≠ k) : cntK k = (0, 0, false) := by
  have h : ktab.find? (fun t => t.1 == k) = none := by
    rw [find_ahead k ktab 20 ha]
    rfl
  unfold cntK
  rw [h]
set_option maxRecDepth 100000 in
set_option maxHeartbeats 4000000 in
theorem table_any (w : World) : Calls Tryz.prog 17 #[] w fun e w' => e = .returned (.slice (some ⟨w.heap.size, 0, none⟩) 20 20) ∧ w' = tW w := by
  go_enter Tryz.func17, Tryz.ntmps17
  go_wp2
  go_ret
  exact ⟨rfl, rfl⟩
set_option maxRecDepth 100000 in
set_option maxHeartbeats 4000000 in
theorem rcounts_any (k : Int) (w : World) : Calls Tryz.prog 8 #[.int .u16 k] w fun e w' => e = .returned (.tuple #[.int .i64 (cntK k).1, .int .i64 (cntK k).2.1, .bool (cntK k).2.2]) ∧ Below w.heap.size w w' := by
  have HB := hid (tW_below w)
  have HA := hid (tW_at w)
  have hz := tW_size w
  obtain ⟨A, hA⟩ : ∃ A, A = (Ending.returned (.tuple #[.int .i64 (cntK k).1, .int .i64 (cntK k).2.1, .bool (cntK k).2.2])) := ⟨_, rfl⟩
  rw [← hA]
  have HE := hid hA
  clear hA
  go_enter Tryz.func8, Tryz.ntmps8
  go_wp2_with (first | (go_at_call 17; refine (table_any _).mono ?_; rintro e w1 ⟨rfl, rfl⟩))
  generalize tW w = w0 at *
  go_loopg [6] 20 (fun gg v6 wr => ∃ i : Nat, i ≤ 20 ∧ gg = 20 - i ∧ v6 = .int .i64 (i : Int) ∧ (∀ j (h : j < ktab.length), j < i → ktab[j].1 ≠ k) ∧ Below w0.heap.size w0 wr)
  case atStart => exact ⟨0, by omega, by omega, rfl, fun _ _ h => absurd h (by omega), Below.refl _ _⟩
  case round =>
    obtain ⟨i, hi, rfl, rfl, hne, hbel⟩ := hrel
    have HNE := hid hne
    have HBE := hid hbel
    by_cases hil : i < 20
    · have hi1 : (i : Int) < 20 := by omega
      have hiL : i < ktab.length := hil
      have hq := kcs_at ktab i hiL
      have hcell : ∀ j, wr.cell? ⟨w.heap.size, j, none⟩ = (kcs ktab)[j]? := by
        intro j
        rw [World.cell?_of_block (hbel.block w.heap.size (by rw [hz]; omega)), cell_of_heap HA.out]
        simp
      have h0 := (hcell (i * 3)).trans hq.1
      have h1 := (hcell (i * 3 + 1)).trans hq.2.1
      have h2 := (hcell (i * 3 + 2)).trans hq.2.2
      have HAT := hid (cnt_at k i hiL hne)
      clear hcell hq hne hbel
      have HST : Hid (ktab[i].1 ≠ k → ∀ j (h : j < ktab.length), j < i + 1 → ktab[j].1 ≠ k) := hid fun he j hj hji => by
        by_cases e : j = i
        · subst e
          exact he
        · exact HNE.out j hj (by omega)
      generalize ktab[i] = q at *
      obtain ⟨qk, qa, qb⟩ := q
      simp only at *
      by_cases he : qk = k
      · subst he
        go_wp2_with fail
        go_quiet (fail)
        go_wp2_with fail
        have hc := HAT.out trivial
        refine bodyPost_ret (v := .tuple #[.int .i64 qa, .int .i64 qb, .bool true]) (by simp [results, Tryz.results8, go_sem]) rfl ⟨by rw [HE.out, hc], ?_⟩
        exact below_drewN (HB.out.trans (HBE.out.mono (by rw [hz]; omega))) _
      · go_wp2_with fail
        go_roundg (20 - (i + 1))
        case measure => omega
        case rel => exact ⟨i + 1, by omega, rfl, by go_num, HST.out he, HBE.out⟩
    · have e : i = 20 := by omega
      subst e
      have hc := cnt_no k HNE.out
      go_wp2_with fail
      refine bodyPost_ret (v := .tuple #[.int .i64 0, .int .i64 0, .bool false]) (by simp [results, Tryz.results8, go_sem]) rfl ⟨by rw [HE.out, hc], ?_⟩
      exact HB.out.trans (HBE.out.mono (by rw [hz]; omega))
end Go.Proofs.YtdhmmllpioppfaaGreat
