/- The document's Size of a message: what a small one has. -/
import Derived.Test.YtdhmmllpioppfaaGreatWSize
namespace Go.Proofs.YtdhmmllpioppfaaGreat.V
open Go.RowKit

theorem rsz_mem : ∀ (l : List Rec) (acc : Nat), rsz acc l ≤ 4000 → acc + l.length ≤ 4000 ∧ ∀ r ∈ l, r.2.length ≤ 4000
  | [], acc, h => ⟨h, fun _ h => by cases h⟩
  | a :: l, acc, h => by
    rw [rsz] at h
    split at h
    · rename_i ha
      obtain ⟨h1, h2⟩ := rsz_mem l _ h
      refine ⟨by rw [List.length_cons]; omega, fun r hr => ?_⟩
      rcases List.mem_cons.1 hr with rfl | hr
      · omega
      · exact h2 r hr
    · omega
theorem rsz_sm {l : List Rec} (h : rsz 0 l ≤ 4000) : Sm l := ⟨by have := (rsz_mem l 0 h).1; omega, fun i hi => (rsz_mem l 0 h).2 _ (List.getElem_mem hi)⟩
set_option maxRecDepth 100000 in
set_option maxHeartbeats 8000000 in
theorem msize_lent (w : World) (nv tv mv : Value) (m : Msg) (h : Ms w nv tv mv m) (hl : MLen m) (hlt : ∀ t ∈ m.ts, t.length ≤ 140737488355328) :
    Calls Tryz.prog 5 #[Mv m.k m.ch nv tv m.tx mv, .int .i64 4000] w fun e w' => (∃ r : Nat, e = .returned (.int .i64 (r : Int)) ∧ (r ≤ 4000 → m.ns.length ≤ 4000 ∧ m.ts.length ≤ 4000 ∧ Sm m.mo)) ∧ Below w.heap.size w w' := by
  obtain ⟨an, cn, rfl, _⟩ := h.ns
  obtain ⟨at', ct, rfl, _⟩ := h.ts
  obtain ⟨am, cm, rfl⟩ := h.mo.shape
  have hs1 : (⟨m.ch.toArray⟩ : ByteArray).size = m.ch.length := by simp [ByteArray.size]
  have hs2 : (⟨m.tx.toArray⟩ : ByteArray).size = m.tx.length := by simp [ByteArray.size]
  have HTC : Hid (∀ i (h : i < m.ts.length), ∃ g o, at' = some ⟨g, o, none⟩ ∧ ∀ W, Below w.heap.size w W → W.cell? ⟨g, o + i, none⟩ = some (St m.ts[i])) := hid (fun i hi => by
    obtain ⟨g, o, e, hg, hc⟩ := h.ts.cells i hi
    exact ⟨g, o, e, fun W hb => by rw [← hc]; exact World.cell?_of_block (hb.block g hg)⟩)
  have HTL : Hid (∀ i (h : i < m.ts.length), m.ts[i].length ≤ 140737488355328) := hid (fun i hi => hlt _ (List.getElem_mem hi))
  have HR := hid (fun W (hb : Below w.heap.size w W) => rsize_is W _ m.mo (h.mo.below hb))
  have hr := rsz_le m.mo 0 (by omega)
  have HSM : Hid (rsz 0 m.mo ≤ 4000 → Sm m.mo) := hid (fun h => rsz_sm h)
  generalize rsz 0 m.mo = r at HR hr HSM
  have HTN := hid hl.ts
  have hl1 := hl.ch
  have hl2 := hl.tx
  have hl3 := hl.ns
  clear h hl hlt
  obtain ⟨SM, hSM⟩ : ∃ P : Prop, P = Sm m.mo := ⟨_, rfl⟩
  rw [← hSM] at HSM ⊢
  clear hSM
  generalize m.ns.length = n at hl3 HR ⊢
  generalize m.mo.length = q at HR ⊢
  generalize m.ch = ch at hs1 hl1 ⊢
  generalize m.tx = tx at hs2 hl2 ⊢
  generalize m.ts = ts at HTC HTL HTN ⊢
  generalize m.k = k
  obtain ⟨t, ht⟩ : ∃ t, t = ts.length := ⟨_, rfl⟩
  have HT := hid ht
  rw [← ht] at HTN ⊢
  clear ht
  have HB0 := hid ((Below.refl w.heap.size w).alloc (Nat.le_refl _) (.cells #[.int .u16 (k : Int), St ch, .slice an n cn, .slice at' t ct, St tx, .slice am q cm] 27))
  have HX0 := hid (heap_alloc_new w (.cells #[.int .u16 (k : Int), St ch, .slice an n cn, .slice at' t ct, St tx, .slice am q cm] 27))
  obtain ⟨x1, hx1, hm1⟩ : ∃ x : Nat, x ≤ 4001 ∧ min (ch.length : Int) 4001 = (x : Int) := ⟨min ch.length 4001, by omega, by omega⟩
  obtain ⟨x2, hx2, hm2⟩ : ∃ x : Nat, x ≤ 4001 ∧ min (tx.length : Int) 4001 = (x : Int) := ⟨min tx.length 4001, by omega, by omega⟩
  obtain ⟨x3, hx3, hm3⟩ : ∃ x : Nat, x ≤ 4001 ∧ min (n : Int) 4001 = (x : Int) := ⟨min n 4001, by omega, by omega⟩
  go_enter Tryz.func5, Tryz.ntmps5
  go_wp2_with fail
  generalize w.alloc (.cells #[.int .u16 (k : Int), St ch, .slice an n cn, .slice at' t ct, St tx, .slice am q cm] 27) = w1 at HB0 HX0 ⊢
  have c1 : ∀ k, (w1.drewN k).cell? ⟨w.heap.size, 1, none⟩ = some (St ch) := fun k => (cell_of_heap HX0.out 1).trans rfl
  have d1 : w1.cell? ⟨w.heap.size, 1, none⟩ = some (St ch) := (cell_of_heap HX0.out 1).trans rfl
  have d2 : w1.cell? ⟨w.heap.size, 2, none⟩ = some (.slice an n cn) := (cell_of_heap HX0.out 2).trans rfl
  have d4 : w1.cell? ⟨w.heap.size, 4, none⟩ = some (St tx) := (cell_of_heap HX0.out 4).trans rfl
  have d5 : w1.cell? ⟨w.heap.size, 5, none⟩ = some (.slice am q cm) := (cell_of_heap HX0.out 5).trans rfl
  clear c1
  go_quiet ((go_at_call 15; exact Calls.quiet_of_same (HR.out _ (by first | exact HB0.out | exact HB0.out.drew | exact below_drewN HB0.out _))))
  all_goals
    have HB2' : Hid (∀ k, Below w.heap.size w (w1.drewN k)) := hid (fun k => below_drewN HB0.out k)
    have HX2' : Hid (∀ j, (w1.drewN j).heap[w.heap.size]? = some (.cells #[.int .u16 (k : Int), St ch, .slice an n cn, .slice at' t ct, St tx, .slice am q cm] 27 (0, 0))) := hid (fun _ => HX0.out)
    generalize hW : World.drewN w1 _ = w2
    have HB2 : Hid (Below w.heap.size w w2) := hid (by rw [← hW]; exact HB2'.out _)
    have HX2 : Hid (w2.heap[w.heap.size]? = some (.cells #[.int .u16 (k : Int), St ch, .slice an n cn, .slice at' t ct, St tx, .slice am q cm] 27 (0, 0))) := hid (by rw [← hW]; exact HX2'.out 0)
    clear hW HB2' HX2' d1 d2 d4 d5
    go_wp2_with fail
    all_goals
      have htn := HTN.out
      go_loopg [5, 6] t (fun gg v5 v6 wr => ∃ (i : Nat) (z : Int), i ≤ t ∧ gg = t - i ∧ 0 ≤ z ∧ z ≤ 30000 ∧ v6 = .int .i64 (i : Int) ∧ v5 = .int .i64 z ∧ ((i + min n 4001 + r : Nat) : Int) ≤ z ∧ wr = w2)
      case atStart => exact ⟨0, _, by omega, by omega, by omega, by omega, rfl, rfl, by omega, rfl⟩
      case round =>
        obtain ⟨i, z, hi, rfl, hz0, hz1, rfl, rfl, hmz, hwr⟩ := hrel
        have HMZ := hid hmz
        clear hmz
        subst hwr
        have c3 : wr.cell? ⟨w.heap.size, 3, none⟩ = some (.slice at' t ct) := (cell_of_heap HX2.out 3).trans rfl
        by_cases hil : i < t
        · have hi1 : (i : Int) < (t : Int) := by omega
          by_cases hz : z ≤ 4000
          · have hik : i < ts.length := by rw [← HT.out]; exact hil
            obtain ⟨g, o, hao, hce⟩ := HTC.out i hik
            subst hao
            have hc1 := hce _ HB2.out
            have hyl := HTL.out i hik
            clear hce
            generalize ts[i] = y at hc1 hyl
            have hys : (⟨y.toArray⟩ : ByteArray).size = y.length := by simp [ByteArray.size]
            by_cases hy : (4000 : Int) < (y.length : Int)
            all_goals
              go_wp2_with fail
              go_roundg (t - (i + 1))
              case measure => omega
              case rel => exact ⟨i + 1, _, by omega, rfl, by omega, by omega, by go_num, rfl, by have := HMZ.out; omega, rfl⟩
          · have hz2 : decide (z ≤ 4000) = false := by simpa using hz
            go_wp2_with fail
            go_ret
            exact ⟨⟨z.toNat, by rw [show ((z.toNat : Nat) : Int) = z by omega]; rfl, fun h => by omega⟩, HB2.out⟩
        · have hi1 : ¬ (i : Int) < (t : Int) := by omega
          have hi2 : decide ((i : Int) < (t : Int)) = false := by simpa using hi1
          go_wp2_with fail
          go_ret
          exact ⟨⟨z.toNat, by rw [show ((z.toNat : Nat) : Int) = z by omega]; rfl, fun h => by
            have h9 := HMZ.out
            exact ⟨by omega, by have := HT.out; omega, HSM.out (by omega)⟩⟩, HB2.out⟩
end Go.Proofs.YtdhmmllpioppfaaGreat.V
