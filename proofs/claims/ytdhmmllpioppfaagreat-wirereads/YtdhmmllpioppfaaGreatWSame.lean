/- The document's Same of a message and itself. -/
import Derived.Test.YtdhmmllpioppfaaGreatWSize
namespace Go.Proofs.YtdhmmllpioppfaaGreat.V
open Go.RowKit

/-- two boxes lie there -/
structure Sb (w : World) (cs ds : Array Value) (wr : World) : Prop where
  bel : Below w.heap.size w wr
  one : wr.heap[w.heap.size]? = some (.cells cs 27 (0, 0))
  two : wr.heap[w.heap.size + 1]? = some (.cells ds 27 (0, 0))
theorem Sb.drewN {w : World} {cs ds : Array Value} {wr : World} (h : Sb w cs ds wr) (n : Nat) : Sb w cs ds (wr.drewN n) := ⟨below_drewN h.bel n, h.one, h.two⟩
set_option maxRecDepth 100000 in
set_option maxHeartbeats 8000000 in
theorem msame_yes (w : World) (nv tv mv nv' tv' mv' : Value) (m : Msg) (h : Ms w nv tv mv m) (h' : Ms w nv' tv' mv' m) (hl : MLen m) :
    Calls Tryz.prog 12 #[Mv m.k m.ch nv tv m.tx mv, Mv m.k m.ch nv' tv' m.tx mv'] w fun e w' => e = .returned (.bool true) ∧ Below w.heap.size w w' := by
  obtain ⟨an, cn, rfl, _⟩ := h.ns
  obtain ⟨at', ct, rfl, _⟩ := h.ts
  obtain ⟨am, cm, rfl⟩ := h.mo.shape
  obtain ⟨bn, dn, rfl, _⟩ := h'.ns
  obtain ⟨bt, dt, rfl, _⟩ := h'.ts
  obtain ⟨bm, dm, rfl⟩ := h'.mo.shape
  have HNC : Hid (∀ i (h : i < m.ns.length), ∃ g o g2 o2, an = some ⟨g, o, none⟩ ∧ bn = some ⟨g2, o2, none⟩ ∧ ∀ W, Below w.heap.size w W → W.cell? ⟨g, o + i, none⟩ = some (.int .i64 m.ns[i]) ∧ W.cell? ⟨g2, o2 + i, none⟩ = some (.int .i64 m.ns[i])) := hid (fun i hi => by
    obtain ⟨g, o, e, hg, hc⟩ := h.ns.cells i hi
    obtain ⟨g2, o2, e2, hg2, hc2⟩ := h'.ns.cells i hi
    exact ⟨g, o, g2, o2, e, e2, fun W hb => ⟨by rw [← hc]; exact World.cell?_of_block (hb.block g hg), by rw [← hc2]; exact World.cell?_of_block (hb.block g2 hg2)⟩⟩)
  have HTC : Hid (∀ i (h : i < m.ts.length), ∃ g o g2 o2, at' = some ⟨g, o, none⟩ ∧ bt = some ⟨g2, o2, none⟩ ∧ ∀ W, Below w.heap.size w W → W.cell? ⟨g, o + i, none⟩ = some (St m.ts[i]) ∧ W.cell? ⟨g2, o2 + i, none⟩ = some (St m.ts[i])) := hid (fun i hi => by
    obtain ⟨g, o, e, hg, hc⟩ := h.ts.cells i hi
    obtain ⟨g2, o2, e2, hg2, hc2⟩ := h'.ts.cells i hi
    exact ⟨g, o, g2, o2, e, e2, fun W hb => ⟨by rw [← hc]; exact World.cell?_of_block (hb.block g hg), by rw [← hc2]; exact World.cell?_of_block (hb.block g2 hg2)⟩⟩)
  have HS := hid (fun W (hb : Below w.heap.size w W) => same_yes W _ _ m.mo (h.mo.below hb) (h'.mo.below hb) hl.mo.1)
  have hln := hl.ns
  have hlt := hl.ts
  clear h h' hl
  generalize m.mo.length = q at HS ⊢
  generalize m.ch = ch
  generalize m.tx = tx
  generalize m.k = k
  generalize m.ts = ts at HTC hlt ⊢
  generalize m.ns = ns at HNC hln ⊢
  obtain ⟨n, hn⟩ : ∃ n, n = ns.length := ⟨_, rfl⟩
  obtain ⟨t, ht⟩ : ∃ t, t = ts.length := ⟨_, rfl⟩
  have HN := hid hn
  have HT := hid ht
  rw [← hn] at hln ⊢
  rw [← ht] at hlt ⊢
  clear hn ht
  go_enter Tryz.func12, Tryz.ntmps12
  go_wp2_with fail
  refine (HS.out _ (((Below.refl w.heap.size w).alloc (Nat.le_refl _) _).alloc (by simp) _)).mono ?_
  rintro e w1 ⟨rfl, hb1⟩
  have hx : w1.heap[w.heap.size]? = some (.cells #[.int .u16 (k : Int), St ch, .slice an n cn, .slice at' t ct, St tx, .slice am q cm] 27 (0, 0)) := by
    rw [hb1.block _ (by simp; omega), Below.heap_alloc _ _ _ (by simp)]
    exact heap_alloc_new w _
  have hy : w1.heap[w.heap.size + 1]? = some (.cells #[.int .u16 (k : Int), St ch, .slice bn n dn, .slice bt t dt, St tx, .slice bm q dm] 27 (0, 0)) := by
    rw [hb1.block _ (by simp)]
    have h9 := heap_alloc_new (w.alloc (.cells #[.int .u16 (k : Int), St ch, .slice an n cn, .slice at' t ct, St tx, .slice am q cm] 27)) (.cells #[.int .u16 (k : Int), St ch, .slice bn n dn, .slice bt t dt, St tx, .slice bm q dm] 27)
    simpa using h9
  have HX := hid hx
  have HY := hid hy
  have HB : Hid (Below w.heap.size w w1) := hid ((((Below.refl w.heap.size w).alloc (Nat.le_refl _) _).alloc (by simp) _).trans (hb1.mono (by simp; omega)))
  have HSB : Hid (Sb w #[.int .u16 (k : Int), St ch, .slice an n cn, .slice at' t ct, St tx, .slice am q cm] #[.int .u16 (k : Int), St ch, .slice bn n dn, .slice bt t dt, St tx, .slice bm q dm] w1) := hid ⟨HB.out, HX.out, HY.out⟩
  clear hb1 hx hy HS
  have c2 : w1.cell? ⟨w.heap.size, 2, none⟩ = some (.slice an n cn) := (cell_of_heap HX.out 2).trans rfl
  go_wp2_with fail
  clear c2
  go_loopg [5] n (fun gg s5 wr => ∃ i : Nat, i ≤ n ∧ gg = n - i ∧ s5 = .int .i64 (i : Int) ∧ Sb w #[.int .u16 (k : Int), St ch, .slice an n cn, .slice at' t ct, St tx, .slice am q cm] #[.int .u16 (k : Int), St ch, .slice bn n dn, .slice bt t dt, St tx, .slice bm q dm] wr)
  case atStart => exact ⟨0, by omega, by omega, rfl, HSB.out⟩
  case round =>
    obtain ⟨i, hi, rfl, rfl, hsb⟩ := hrel
    have HSC := hid hsb
    clear hsb
    have c2 : wr.cell? ⟨w.heap.size, 2, none⟩ = some (.slice an n cn) := (cell_of_heap HSC.out.one 2).trans rfl
    have d2 : wr.cell? ⟨w.heap.size + 1, 2, none⟩ = some (.slice bn n dn) := (cell_of_heap HSC.out.two 2).trans rfl
    by_cases hil : i < n
    · have hi1 : (i : Int) < (n : Int) := by omega
      have hik : i < ns.length := by rw [← HN.out]; exact hil
      obtain ⟨g, o, g2, o2, e1, e2, hce⟩ := HNC.out i hik
      subst e1
      subst e2
      obtain ⟨k1, k2⟩ := hce wr HSC.out.bel
      clear hce
      generalize ns[i] = y at k1 k2
      go_wp2_with fail
      go_quiet (fail)
      go_wp2_with fail
      go_roundg (n - (i + 1))
      case measure => omega
      case rel => exact ⟨i + 1, by omega, rfl, by go_num, HSC.out.drewN _⟩
    · have hi1 : ¬ (i : Int) < (n : Int) := by omega
      have c3 : wr.cell? ⟨w.heap.size, 3, none⟩ = some (.slice at' t ct) := (cell_of_heap HSC.out.one 3).trans rfl
      go_wp2_with fail
      clear c2 d2 c3
      go_loopg [6] t (fun gg s6 wr => ∃ i : Nat, i ≤ t ∧ gg = t - i ∧ s6 = .int .i64 (i : Int) ∧ Sb w #[.int .u16 (k : Int), St ch, .slice an n cn, .slice at' t ct, St tx, .slice am q cm] #[.int .u16 (k : Int), St ch, .slice bn n dn, .slice bt t dt, St tx, .slice bm q dm] wr)
      case atStart => exact ⟨0, by omega, by omega, rfl, HSC.out⟩
      case round =>
        obtain ⟨i2, hi2, rfl, rfl, hsb⟩ := hrel
        have HSD := hid hsb
        clear hsb
        have c3 : wr.cell? ⟨w.heap.size, 3, none⟩ = some (.slice at' t ct) := (cell_of_heap HSD.out.one 3).trans rfl
        have d3 : wr.cell? ⟨w.heap.size + 1, 3, none⟩ = some (.slice bt t dt) := (cell_of_heap HSD.out.two 3).trans rfl
        by_cases hjl : i2 < t
        · have hj1 : (i2 : Int) < (t : Int) := by omega
          have hjk : i2 < ts.length := by rw [← HT.out]; exact hjl
          obtain ⟨g, o, g2, o2, e1, e2, hce⟩ := HTC.out i2 hjk
          subst e1
          subst e2
          obtain ⟨k1, k2⟩ := hce wr HSD.out.bel
          clear hce
          generalize ts[i2] = y at k1 k2
          go_wp2_with fail
          go_quiet (fail)
          go_wp2_with fail
          go_roundg (t - (i2 + 1))
          case measure => omega
          case rel => exact ⟨i2 + 1, by omega, rfl, by go_num, HSD.out.drewN _⟩
        · have hj1 : ¬ (i2 : Int) < (t : Int) := by omega
          go_wp2_with fail
          go_ret
          exact ⟨rfl, HSD.out.bel⟩
end Go.Proofs.YtdhmmllpioppfaaGreat.V
