/- The document's Size of a message. -/
import Derived.Test.YtdhmmllpioppfaaGreatWDec
import Derived.Test.YtdhmmllpioppfaaGreatVSame
namespace Go.Proofs.YtdhmmllpioppfaaGreat.V
open Go.RowKit

/-- how many parts and bytes records have, as far as they are looked at -/
def rsz : Nat → List Rec → Nat
  | acc, [] => acc
  | acc, a :: l => if acc ≤ 4000 then rsz (acc + 1 + min a.2.length 4000) l else acc
theorem rsz_big {r : Nat} (h : ¬ r ≤ 4000) (l : List Rec) : rsz r l = r := by
  cases l with
  | nil => rfl
  | cons a l => rw [rsz, if_neg h]
theorem rsz_le : ∀ (l : List Rec) (r : Nat), r ≤ 8001 → rsz r l ≤ 8001
  | [], r, h => h
  | a :: l, r, h => by
    rw [rsz]
    split
    · exact rsz_le l _ (by omega)
    · exact h
set_option maxRecDepth 100000 in
set_option maxHeartbeats 2000000 in
theorem rsize_is (w : World) (v : Value) (L : List Rec) (hL : Rcs w v L) : Calls Tryz.prog 15 #[v, .int .i64 4000] w fun e w' => e = .returned (.int .i64 (rsz 0 L : Int)) ∧ w' = w := by
  obtain ⟨ao, cap, rfl⟩ := hL.shape
  have HL := hid hL
  obtain ⟨n, hn⟩ : ∃ n, n = L.length := ⟨_, rfl⟩
  rw [← hn]
  have HN := hid hn
  clear hL hn
  go_enter Tryz.func15, Tryz.ntmps15
  go_wp2_with fail
  go_loopg [5, 6] (4002 : Nat) (fun gg v5 v6 wr => wr = w ∧ ∃ (i r : Nat), i ≤ n ∧ i ≤ 4001 ∧ gg = 4002 - i ∧ i ≤ r ∧ r ≤ 8001 ∧ v6 = .int .i64 (i : Int) ∧ v5 = .int .i64 (r : Int) ∧ rsz 0 L = rsz r (L.drop i))
  case atStart => exact ⟨rfl, 0, 0, by omega, by omega, rfl, by omega, by omega, rfl, rfl, rfl⟩
  case round =>
    obtain ⟨hwr, i, r, hi, hi3, rfl, hir, hr6, rfl, rfl, hall⟩ := hrel
    subst hwr
    have HALL := hid hall
    clear hall
    by_cases hil : i < n
    · have hi1 : (i : Int) < (n : Int) := by omega
      by_cases hr : r ≤ 4000
      · have hr1 : (r : Int) ≤ 4000 := by omega
        have hiL : i < L.length := by rw [← HN.out]; exact hil
        obtain ⟨g, o, rfl, hg, _, hcap, hc⟩ := HL.out.at (fun e => by rw [e] at hiL; simp at hiL)
        obtain ⟨bv, h1, h2, h3⟩ := hc i hiL
        obtain ⟨ab, cb, hbv⟩ := h3.shape
        subst hbv
        have HB : Hid (∃ q, q = L[i].2.length) := hid ⟨_, rfl⟩
        obtain ⟨q, hq⟩ := HB.out
        rw [← hq] at h2
        have HQ := hid hq
        clear hc h1 h3 hq HB hcap
        by_cases hq3 : q ≤ 4000
        · have hq1 : (q : Int) ≤ 4000 := by omega
          have hmin : min (q : Int) 4000 = (q : Int) := by omega
          go_wp2_with fail
          go_roundg (4002 - (i + 1))
          case measure => omega
          case rel =>
            exact ⟨rfl, i + 1, r + 1 + q, by omega, by omega, rfl, by omega, by omega, by go_num, by go_num, by rw [HALL.out, List.drop_eq_getElem_cons hiL, rsz, if_pos hr, ← HQ.out, Nat.min_eq_left hq3]⟩
        · have hq1 : ¬ (q : Int) ≤ 4000 := by omega
          have hmin : min (q : Int) 4000 = 4000 := by omega
          go_wp2_with fail
          go_roundg (4002 - (i + 1))
          case measure => omega
          case rel =>
            exact ⟨rfl, i + 1, r + 1 + 4000, by omega, by omega, rfl, by omega, by omega, by go_num, by go_num, by rw [HALL.out, List.drop_eq_getElem_cons hiL, rsz, if_pos hr, ← HQ.out, Nat.min_eq_right (by omega)]⟩
      · have hr1 : ¬ (r : Int) ≤ 4000 := by omega
        have hr2 : decide ((r : Int) ≤ 4000) = false := by simpa using hr1
        go_wp2_with fail
        go_ret
        exact ⟨by rw [HALL.out, rsz_big hr]; rfl, rfl⟩
    · have hi1 : ¬ (i : Int) < (n : Int) := by omega
      have hi2 : decide ((i : Int) < (n : Int)) = false := by simpa using hi1
      go_wp2_with fail
      go_ret
      exact ⟨by rw [HALL.out, List.drop_eq_nil_of_le (by rw [← HN.out]; omega)]; rfl, rfl⟩

set_option maxRecDepth 100000 in
set_option maxHeartbeats 8000000 in
theorem msize_any (w : World) (nv tv mv : Value) (m : Msg) (h : Ms w nv tv mv m) (hl : MLen m) (hlt : ∀ t ∈ m.ts, t.length ≤ 140737488355328) :
    Calls Tryz.prog 5 #[Mv m.k m.ch nv tv m.tx mv, .int .i64 4000] w fun e w' => (∃ r : Nat, e = .returned (.int .i64 (r : Int))) ∧ Below w.heap.size w w' := by
  obtain ⟨an, cn, rfl, _⟩ := h.ns
  obtain ⟨at', ct, rfl, _⟩ := h.ts
  obtain ⟨am, cm, rfl⟩ := h.mo.shape
  have hs1 : (⟨m.ch.toArray⟩ : ByteArray).size = m.ch.length := by simp [ByteArray.size]
  have hs2 : (⟨m.tx.toArray⟩ : ByteArray).size = m.tx.length := by simp [ByteArray.size]
  have HTC : Hid (∀ i (h : i < m.ts.length), ∃ g o, at' = some ⟨g, o, none⟩ ∧ ∀ W, Below w.heap.size w W → W.cell? ⟨g, o + i, none⟩ = some (St m.ts[i])) := hid (fun i hi => by
    obtain ⟨g, o, e, hg, hc⟩ := h.ts.cells i hi
    exact ⟨g, o, e, fun W hb => by rw [← hc]; exact World.cell?_of_block (hb.block g hg)⟩)
  have HTL : Hid (∀ i (h : i < m.ts.length), m.ts[i].length ≤ 140737488355328) := hid (fun i hi => hlt _ (List.getElem_mem hi))
  have HR := hid (fun W (hb : Below w.heap.size w W) => rsize_is W _ m.mo (h.mo.below hb))
  have hr := rsz_le m.mo 0 (by omega)
  generalize rsz 0 m.mo = r at HR hr
  have HTN := hid hl.ts
  have hl1 := hl.ch
  have hl2 := hl.tx
  have hl3 := hl.ns
  clear h hl hlt
  generalize m.ns.length = n at hl3 HR ⊢
  generalize m.mo.length = q at HR ⊢
  generalize m.ch = ch at hs1 hl1 ⊢
  generalize m.tx = tx at hs2 hl2 ⊢
  generalize m.ts = ts at HTC HTL HTN ⊢
  generalize m.k = k
  obtain ⟨t, ht⟩ : ∃ t, t = ts.length := ⟨_, rfl⟩
  have HT := hid ht
  rw [← ht] at HTN ⊢
  clear ht
  have HB0 := hid ((Below.refl w.heap.size w).alloc (Nat.le_refl _) (.cells #[.int .u16 (k : Int), St ch, .slice an n cn, .slice at' t ct, St tx, .slice am q cm] 27))
  have HX0 := hid (heap_alloc_new w (.cells #[.int .u16 (k : Int), St ch, .slice an n cn, .slice at' t ct, St tx, .slice am q cm] 27))
  obtain ⟨x1, hx1, hm1⟩ : ∃ x : Nat, x ≤ 4001 ∧ min (ch.length : Int) 4001 = (x : Int) := ⟨min ch.length 4001, by omega, by omega⟩
  obtain ⟨x2, hx2, hm2⟩ : ∃ x : Nat, x ≤ 4001 ∧ min (tx.length : Int) 4001 = (x : Int) := ⟨min tx.length 4001, by omega, by omega⟩
  obtain ⟨x3, hx3, hm3⟩ : ∃ x : Nat, x ≤ 4001 ∧ min (n : Int) 4001 = (x : Int) := ⟨min n 4001, by omega, by omega⟩
  go_enter Tryz.func5, Tryz.ntmps5
  go_wp2_with fail
  generalize w.alloc (.cells #[.int .u16 (k : Int), St ch, .slice an n cn, .slice at' t ct, St tx, .slice am q cm] 27) = w1 at HB0 HX0 ⊢
  have c1 : ∀ k, (w1.drewN k).cell? ⟨w.heap.size, 1, none⟩ = some (St ch) := fun k => (cell_of_heap HX0.out 1).trans rfl
  have d1 : w1.cell? ⟨w.heap.size, 1, none⟩ = some (St ch) := (cell_of_heap HX0.out 1).trans rfl
  have d2 : w1.cell? ⟨w.heap.size, 2, none⟩ = some (.slice an n cn) := (cell_of_heap HX0.out 2).trans rfl
  have d4 : w1.cell? ⟨w.heap.size, 4, none⟩ = some (St tx) := (cell_of_heap HX0.out 4).trans rfl
  have d5 : w1.cell? ⟨w.heap.size, 5, none⟩ = some (.slice am q cm) := (cell_of_heap HX0.out 5).trans rfl
  clear c1
  go_quiet ((go_at_call 15; exact Calls.quiet_of_same (HR.out _ (by first | exact HB0.out | exact HB0.out.drew | exact below_drewN HB0.out _))))
  all_goals
    have HB2' : Hid (∀ k, Below w.heap.size w (w1.drewN k)) := hid (fun k => below_drewN HB0.out k)
    have HX2' : Hid (∀ j, (w1.drewN j).heap[w.heap.size]? = some (.cells #[.int .u16 (k : Int), St ch, .slice an n cn, .slice at' t ct, St tx, .slice am q cm] 27 (0, 0))) := hid (fun _ => HX0.out)
    generalize hW : World.drewN w1 _ = w2
    have HB2 : Hid (Below w.heap.size w w2) := hid (by rw [← hW]; exact HB2'.out _)
    have HX2 : Hid (w2.heap[w.heap.size]? = some (.cells #[.int .u16 (k : Int), St ch, .slice an n cn, .slice at' t ct, St tx, .slice am q cm] 27 (0, 0))) := hid (by rw [← hW]; exact HX2'.out 0)
    clear hW HB2' HX2' d1 d2 d4 d5
    go_wp2_with fail
    all_goals
      have htn := HTN.out
      go_loopg [5, 6] t (fun gg v5 v6 wr => ∃ (i : Nat) (z : Int), i ≤ t ∧ gg = t - i ∧ 0 ≤ z ∧ z ≤ 30000 ∧ v6 = .int .i64 (i : Int) ∧ v5 = .int .i64 z ∧ wr = w2)
      case atStart => exact ⟨0, _, by omega, by omega, by omega, by omega, rfl, rfl, rfl⟩
      case round =>
        obtain ⟨i, z, hi, rfl, hz0, hz1, rfl, rfl, hwr⟩ := hrel
        subst hwr
        have c3 : wr.cell? ⟨w.heap.size, 3, none⟩ = some (.slice at' t ct) := (cell_of_heap HX2.out 3).trans rfl
        by_cases hil : i < t
        · have hi1 : (i : Int) < (t : Int) := by omega
          by_cases hz : z ≤ 4000
          · have hik : i < ts.length := by rw [← HT.out]; exact hil
            obtain ⟨g, o, hao, hce⟩ := HTC.out i hik
            subst hao
            have hc1 := hce _ HB2.out
            have hyl := HTL.out i hik
            clear hce
            generalize ts[i] = y at hc1 hyl
            have hys : (⟨y.toArray⟩ : ByteArray).size = y.length := by simp [ByteArray.size]
            by_cases hy : (4000 : Int) < (y.length : Int)
            all_goals
              go_wp2_with fail
              go_roundg (t - (i + 1))
              case measure => omega
              case rel => exact ⟨i + 1, _, by omega, rfl, by omega, by omega, by go_num, rfl, rfl⟩
          · have hz2 : decide (z ≤ 4000) = false := by simpa using hz
            go_wp2_with fail
            go_ret
            exact ⟨⟨z.toNat, by rw [show ((z.toNat : Nat) : Int) = z by omega]; rfl⟩, HB2.out⟩
        · have hi1 : ¬ (i : Int) < (t : Int) := by omega
          have hi2 : decide ((i : Int) < (t : Int)) = false := by simpa using hi1
          go_wp2_with fail
          go_ret
          exact ⟨⟨z.toNat, by rw [show ((z.toNat : Nat) : Int) = z by omega]; rfl⟩, HB2.out⟩
end Go.Proofs.YtdhmmllpioppfaaGreat.V
