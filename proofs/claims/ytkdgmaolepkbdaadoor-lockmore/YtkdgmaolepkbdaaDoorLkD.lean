/- Locks are copied. -/
import Derived.Test.YtkdgmaolepkbdaaDoorLkC
namespace Go.Proofs.YtkdgmaolepkbdaaDoor
open Go.RowKit
open Lk (Lt)

namespace Lk
mutual
/-- no text is longer than may be copied, no row longer than may be made -/
def small : Lt → Bool
  | .mk _ t _ ks => decide (t.length ≤ 20000) && decide (ks.length ≤ 1000000) && smalls ks
def smalls : List Lt → Bool
  | [] => true
  | x :: ks => small x && smalls ks
end
theorem smalls_get : ∀ {ks : List Lt}, smalls ks = true → ∀ x ∈ ks, small x = true
  | y :: ks, h, x, hx => by
    rw [smalls, Bool.and_eq_true] at h
    rcases List.mem_cons.1 hx with rfl | hx
    · exact h.1
    · exact smalls_get h.2 x hx
end Lk
theorem freshT_any (t : Bs) (w : World) (h : t.length ≤ 20000) : Calls Tryd.prog 33 #[St t] w fun e w' => e = .returned (St t) ∧ Below w.heap.size w w' := by
  have HC := hid (clone_any ⟨t.toArray⟩ w (by rw [st_size]; exact h))
  clear h
  go_enter Tryd.func33, Tryd.ntmps33
  go_wp2_with fail
  refine HC.out.mono ?_
  rintro e w1 ⟨rfl, hb⟩
  have HB := hid hb
  clear hb HC
  go_wp2_with fail
  go_ret
  exact ⟨rfl, HB.out⟩
theorem lt_of_heap {w : World} {b : Nat} {o : Obj} (h : w.heap[b]? = some o) : b < w.heap.size := by
  apply Classical.byContradiction
  intro hn
  rw [Array.getElem?_eq_none (by omega)] at h
  cases h
/-- a lock is stored in a row -/
def setL (W : World) (g o : Nat) (v0 v1 v2 v3 : Value) : World := (((W.setCell ⟨g, o, none⟩ v0).setCell ⟨g, o + 1, none⟩ v1).setCell ⟨g, o + 2, none⟩ v2).setCell ⟨g, o + 3, none⟩ v3
theorem setL_other (W : World) (g o : Nat) (v0 v1 v2 v3 : Value) {k : Nat} (h : k ≠ g) : (setL W g o v0 v1 v2 v3).heap[k]? = W.heap[k]? := by
  unfold setL
  rw [Below.heap_setCell _ _ _ _ h, Below.heap_setCell _ _ _ _ h, Below.heap_setCell _ _ _ _ h, Below.heap_setCell _ _ _ _ h]
theorem setL_same {W : World} {g : Nat} {cs : Array Value} {t : TypeId} (h : W.heap[g]? = some (.cells cs t (0, 0))) (o : Nat) (v0 v1 v2 v3 : Value) : (setL W g o v0 v1 v2 v3).heap[g]? = some (.cells ((((cs.set! o v0).set! (o + 1) v1).set! (o + 2) v2).set! (o + 3) v3) t (0, 0)) := by
  unfold setL
  exact heap_setCell_same (heap_setCell_same (heap_setCell_same (heap_setCell_same h o v0) (o + 1) v1) (o + 2) v2) (o + 3) v3
theorem setL_below {b : Nat} {w W : World} (h : Below b w W) {g : Nat} (hg : b ≤ g) (o : Nat) (v0 v1 v2 v3 : Value) : Below b w (setL W g o v0 v1 v2 v3) := by
  unfold setL
  exact (((h.setCell (p := ⟨g, o, none⟩) hg v0).setCell (p := ⟨g, o + 1, none⟩) hg v1).setCell (p := ⟨g, o + 2, none⟩) hg v2).setCell (p := ⟨g, o + 3, none⟩) hg v3
theorem set4_other (cs : Array Value) (o : Nat) (v0 v1 v2 v3 : Value) {k : Nat} (h : k < o ∨ o + 4 ≤ k) : ((((cs.set! o v0).set! (o + 1) v1).set! (o + 2) v2).set! (o + 3) v3)[k]? = cs[k]? := by
  simp only [Array.set!_eq_setIfInBounds, Array.getElem?_setIfInBounds]
  rw [if_neg (by omega), if_neg (by omega), if_neg (by omega), if_neg (by omega)]
theorem set4_new (cs : Array Value) (o : Nat) (v0 v1 v2 v3 : Value) (ho : o + 4 ≤ cs.size) {j : Nat} {u : Value} (h : (#[v0, v1, v2, v3] : Array Value)[j]? = some u) : ((((cs.set! o v0).set! (o + 1) v1).set! (o + 2) v2).set! (o + 3) v3)[o + j]? = some u := by
  simp only [Array.set!_eq_setIfInBounds, Array.getElem?_setIfInBounds, Array.size_setIfInBounds]
  match j, h with
  | 0, h =>
    rw [if_neg (by omega), if_neg (by omega), if_neg (by omega), if_pos (by omega), if_pos (by omega)]
    exact h
  | 1, h =>
    rw [if_neg (by omega), if_neg (by omega), if_pos (by omega), if_pos (by omega)]
    exact h
  | 2, h =>
    rw [if_neg (by omega), if_pos (by omega), if_pos (by omega)]
    exact h
  | 3, h =>
    rw [if_pos (by omega), if_pos (by omega)]
    exact h
  | j + 4, h => simp at h
theorem below_dr (w : World) : Below w.heap.size w w.drew := ⟨rfl, rfl, rfl, Nat.le_refl _, fun _ _ => rfl⟩
theorem info25 : (Tryd.prog.info? 25).map (fun i => (i.zero, i.size, i.bytes)) = some (some (.agg #[.int .u8 0, .string ⟨#[]⟩, .int .i64 0, .slice none 0 0]), 4, 56) := by kernel_rfl
/-- so many locks of a row are copied -/
structure Fk (w : World) (d : Nat) (ks : List Lt) (i : Nat) (wr : World) : Prop where
  bel : Below w.heap.size w wr
  row : ∃ cs : Array Value, wr.heap[w.heap.size]? = some (.cells cs 25 (0, 0)) ∧ cs.size = ks.length * 4 ∧ ∀ k (hk : k < ks.length), k < i → ∃ kv, (∀ j u, (lcs ks[k] kv)[j]? = some u → cs[k * 4 + j]? = some u) ∧ Lr ks[k] ∧ Kd (fun g => w.heap.size + 1 ≤ g) wr d kv ks[k].kids
set_option maxHeartbeats 4000000 in
theorem fkids_any {b : Nat → Prop} (d : Nat) : ∀ (v : Value) (ks : List Lt) (w : World), Kd b w d v ks → Lk.smalls ks = true → ks.length ≤ 1000000 → Calls Tryd.prog 39 #[v] w fun e w' => ∃ v', e = .returned v' ∧ Kd (fun g => w.heap.size ≤ g) w' d v' ks ∧ Below w.heap.size w w' := by
  induction d using Nat.strongRecOn with
  | ind d ih =>
    intro v ks w hk hsm hlen
    obtain ⟨_, ao, cap, rfl, hks⟩ := hk.parts
    clear hk
    obtain ⟨m, hm⟩ : ∃ m, m = ks.length := ⟨_, rfl⟩
    rw [← hm]
    by_cases hm0 : m = 0
    · subst hm0
      have hnil : ks = [] := List.eq_nil_of_length_eq_zero hm.symm
      subst hnil
      clear hm hks ih hsm hlen
      go_enter Tryd.func39, Tryd.ntmps39
      go_wp2_with fail
      go_ret
      exact ⟨_, rfl, Kd.nil _ _ _, Below.refl _ _⟩
    · obtain ⟨d1, rfl⟩ : ∃ d1, d = d1 + 1 := by
        obtain ⟨g, o, _, _, hc⟩ := hks (by omega)
        obtain ⟨_, _, _, d', hd', _⟩ := hc 0 (by omega)
        exact ⟨d - 1, by omega⟩
      have hmi : ¬ (m : Int) = 0 := by omega
      obtain ⟨i0, hi, hz0, hz1, hz2⟩ := info_parts info25
      obtain ⟨M, hM⟩ : ∃ M, M = madeCells (Value.agg #[.int .u8 0, .string ⟨#[]⟩, .int .i64 0, .slice none 0 0]).cells (((m : Nat) : Int).toNat * i0.size) := ⟨_, rfl⟩
      have hMs : M.size = m * 4 := by rw [hM, size_madeCells, hz1]; simp
      have hmk : ∀ W : World, (Instr.makeSlice 23 (.int .i64 (m : Int)) (.int .i64 (m : Int))).run Tryd.prog W = .ok (.slice (some ⟨W.heap.size, 0, none⟩) m m) (W.alloc (.cells M 25)) := fun W => by
        have h := run_make (P := Tryd.prog) W 23 25 i0 (.agg #[.int .u8 0, .string ⟨#[]⟩, .int .i64 0, .slice none 0 0]) Tryd.underlying23 hi hz0 .i64 .i64 (m : Int) (m : Int) (by omega) (by omega) (by rw [hz2]; omega) (by omega)
        rw [← hM] at h
        simpa using h
      have HS0 : Hid (Fk w d1 ks 0 (w.alloc (.cells M 25))) := hid ⟨below_al _ _, M, heap_alloc_new w _, by rw [hMs, hm], fun k _ hk => absurd hk (by omega)⟩
      have HM := hid hm
      have HKS := hid hks
      have HIH := hid ih
      have HSM := hid hsm
      have HLEN : Hid (m ≤ 1000000) := hid (by omega)
      clear hks hm ih hsm hlen hM hMs hi hz0 hz1 hz2
      go_enter Tryd.func39, Tryd.ntmps39
      go_wp2_with fail
      have hmb : ((m : Int) == 0) = false := by simpa using hmi
      simp only [hmb]
      go_loopg [14] m (fun gg v14 wr => ∃ i : Nat, gg = m - i ∧ i ≤ m ∧ v14 = .int .i64 (i : Int) ∧ Fk w d1 ks i wr)
      case atStart => exact ⟨0, rfl, Nat.zero_le _, rfl, HS0.out⟩
      case round =>
        obtain ⟨i, rfl, hi, rfl, hfk⟩ := hrel
        by_cases him : i < m
        · have hik : i < ks.length := by have := HM.out; omega
          obtain ⟨g, o, hg, _, hc⟩ := (HKS.out.low hfk.bel) (by omega)
          subst hg
          obtain ⟨kv, hcs, hlr, d', hd', hkd⟩ := hc i hik
          obtain ⟨x, hx⟩ : ∃ x, x = ks[i] := ⟨_, rfl⟩
          rw [← hx] at hcs hlr hkd
          obtain ⟨_, a2, c2, rfl⟩ := hkd.shape
          have e0 : wr.cell? ⟨g, o + i * 4, none⟩ = some (.int .u8 (x.kind : Int)) := hcs 0 _ rfl
          have e1 : wr.cell? ⟨g, o + i * 4 + 1, none⟩ = some (St x.term) := hcs 1 _ rfl
          have e2 : wr.cell? ⟨g, o + i * 4 + 2, none⟩ = some (.int .i64 x.n) := hcs 2 _ rfl
          have e3 : wr.cell? ⟨g, o + i * 4 + 3, none⟩ = some (.slice a2 x.kids.length c2) := hcs 3 _ rfl
          have hiw : IntKind.i64.wrap ((i : Int) + 1) = ((i + 1 : Nat) : Int) := by rw [IntKind.wrap_i64]; have := HLEN.out; omega
          have hi0 : (0 : Int) ≤ (i : Int) := Int.natCast_nonneg _
          have hi1 : (i : Int) < (m : Int) := by omega
          have HX : Hid (ks[i]? = some x) := hid (by rw [hx]; exact List.getElem?_eq_getElem hik)
          have htl : x.term.length ≤ 20000 := by
            have := Lk.smalls_get HSM.out x (by rw [hx]; exact List.getElem_mem hik)
            obtain ⟨k1, t1, n1, ks1⟩ := x
            rw [Lk.small, Bool.and_eq_true, Bool.and_eq_true] at this
            exact of_decide_eq_true this.1.1
          have hsk : Lk.smalls x.kids = true ∧ x.kids.length ≤ 1000000 := by
            have := Lk.smalls_get HSM.out x (by rw [hx]; exact List.getElem_mem hik)
            obtain ⟨k1, t1, n1, ks1⟩ := x
            rw [Lk.small, Bool.and_eq_true, Bool.and_eq_true] at this
            exact ⟨this.2, of_decide_eq_true this.1.2⟩
          obtain ⟨w0, hw0⟩ : ∃ w0, w0 = wr.alloc (.cells #[.int .u8 (x.kind : Int), St x.term, .int .i64 x.n, .slice a2 x.kids.length c2] 25) := ⟨_, rfl⟩
          obtain ⟨bx, hbx⟩ : ∃ bx, bx = wr.heap.size := ⟨_, rfl⟩
          have hB0 : Below wr.heap.size wr w0 := by rw [hw0]; exact below_al _ _
          have HC0 : Hid (∀ W, Below w0.heap.size w0 W → W.cell? ⟨bx, 0, none⟩ = some (.int .u8 (x.kind : Int)) ∧ W.cell? ⟨bx, 1, none⟩ = some (St x.term) ∧ W.cell? ⟨bx, 2, none⟩ = some (.int .i64 x.n) ∧ W.cell? ⟨bx, 3, none⟩ = some (.slice a2 x.kids.length c2)) := hid (fun W hW => by
            have h := fun (j : Nat) (u : Value) (hu : (#[Value.int .u8 (x.kind : Int), St x.term, .int .i64 x.n, .slice a2 x.kids.length c2] : Array Value)[j]? = some u) => cell_later hW (a := ⟨bx, j, none⟩) (v := u) (by rw [hw0, hbx]; exact (cell_of_heap (heap_alloc_new wr _) j).trans hu)
            exact ⟨h 0 _ rfl, h 1 _ rfl, h 2 _ rfl, h 3 _ rfl⟩)
          have HT : Hid (∀ W, Below w0.heap.size w0 W → Calls Tryd.prog 33 #[St x.term] W fun e w' => e = .returned (St x.term) ∧ Below w0.heap.size w0 w') := hid (fun W hW => (freshT_any x.term W htl).mono (fun e w' ⟨h1, h2⟩ => ⟨h1, hW.trans (h2.mono hW.size)⟩))
          have HFK : Hid (∀ W, Below w0.heap.size w0 W → Calls Tryd.prog 39 #[.slice a2 x.kids.length c2] W fun e w' => ∃ a3 c3, e = .returned (.slice a3 x.kids.length c3) ∧ (Kd (fun g => w0.heap.size ≤ g) w' d1 (.slice a3 x.kids.length c3) x.kids ∧ Below w0.heap.size w0 w')) := hid (fun W hW => (HIH.out d' hd' _ x.kids W ((hkd.low hB0).low hW) hsk.1 hsk.2).mono (fun e w' ⟨v', h1, h2, h3⟩ => by
            obtain ⟨_, a3, c3, rfl⟩ := h2.shape
            exact ⟨a3, c3, h1, (h2.base (fun g hg => Nat.le_trans hW.size hg)).more (by omega), hW.trans (h3.mono hW.size)⟩))
          have HRW : Hid (∀ W, Below w0.heap.size w0 W → (∃ u, W.cell? ⟨w.heap.size, i * 4, none⟩ = some u) ∧ (∃ u, W.cell? ⟨w.heap.size, i * 4 + 1, none⟩ = some u) ∧ (∃ u, W.cell? ⟨w.heap.size, i * 4 + 2, none⟩ = some u) ∧ (∃ u, W.cell? ⟨w.heap.size, i * 4 + 3, none⟩ = some u) ∧ ∀ j, W.frozen? ⟨w.heap.size, j, none⟩ = false) := hid (fun W hW => by
            obtain ⟨cs, r1, r2, _⟩ := hfk.row
            have r1' : W.heap[w.heap.size]? = some (.cells cs 25 (0, 0)) := by
              have hlt := lt_of_heap r1
              rw [hW.block _ (Nat.lt_of_lt_of_le hlt hB0.size), hB0.block _ hlt]
              exact r1
            have hj : ∀ j, j < 4 → ∃ u, W.cell? ⟨w.heap.size, i * 4 + j, none⟩ = some u := fun j hj => ⟨cs[i * 4 + j]'(by omega), by rw [cell_of_heap r1']; exact Array.getElem?_eq_getElem (by omega)⟩
            exact ⟨hj 0 (by omega), hj 1 (by omega), hj 2 (by omega), hj 3 (by omega), fun j => frozen_of_heap r1' j⟩)
          have hne : w.heap.size ≠ bx := by
            obtain ⟨cs, r1, _⟩ := hfk.row
            have := lt_of_heap r1
            omega
          have HNX : Hid (∀ W v, Kd (fun g => w0.heap.size ≤ g) W d1 v x.kids → Below w0.heap.size w0 W → Fk w d1 ks (i + 1) (setL W w.heap.size (i * 4) (.int .u8 (x.kind : Int)) (St x.term) (.int .i64 x.n) v)) := hid (fun W v hKd hW => by
            obtain ⟨cs, r1, r2, r3⟩ := hfk.row
            have hlt := lt_of_heap r1
            have r1' : W.heap[w.heap.size]? = some (.cells cs 25 (0, 0)) := by
              rw [hW.block _ (Nat.lt_of_lt_of_le hlt hB0.size), hB0.block _ hlt]
              exact r1
            refine ⟨setL_below ((hfk.bel.trans (hB0.mono hfk.bel.size)).trans (hW.mono (Nat.le_trans hfk.bel.size hB0.size))) (Nat.le_refl _) _ _ _ _ _, _, setL_same r1' _ _ _ _ _, by simp [r2], fun k hk hki => ?_⟩
            by_cases hke : k = i
            · subst hke
              rw [← hx]
              refine ⟨v, fun j u hu => set4_new cs (k * 4) _ _ _ _ (by omega) hu, hlr, (hKd.base (fun g (hg : w0.heap.size ≤ g) => by have := hB0.size; show w.heap.size + 1 ≤ g; omega)).same (fun g (hg : w.heap.size + 1 ≤ g) hgl => setL_other _ _ _ _ _ _ _ (by omega))⟩
            · obtain ⟨kv, s1, s2, s3⟩ := r3 k hk (by omega)
              refine ⟨kv, fun j u hu => ?_, s2, s3.same (fun g (hg : w.heap.size + 1 ≤ g) hgl => ?_)⟩
              · have hj : j < 4 := by
                  apply Classical.byContradiction
                  intro hn
                  rw [Array.getElem?_eq_none (by show 4 ≤ j; omega)] at hu
                  cases hu
                rw [set4_other _ _ _ _ _ _ (by omega)]
                exact s1 j u hu
              · rw [setL_other _ _ _ _ _ _ _ (by omega), hW.block g (Nat.lt_of_lt_of_le hgl hB0.size), hB0.block g hgl])
          have HC1 : Hid (∀ W, Below w0.heap.size w0 W → ∀ v0 v1 v2 v3, (setL W w.heap.size (i * 4) v0 v1 v2 v3).cell? ⟨bx, 0, none⟩ = some (.int .u8 (x.kind : Int)) ∧ (setL W w.heap.size (i * 4) v0 v1 v2 v3).cell? ⟨bx, 1, none⟩ = some (St x.term) ∧ (setL W w.heap.size (i * 4) v0 v1 v2 v3).cell? ⟨bx, 2, none⟩ = some (.int .i64 x.n) ∧ (setL W w.heap.size (i * 4) v0 v1 v2 v3).cell? ⟨bx, 3, none⟩ = some (.slice a2 x.kids.length c2)) := hid (fun W hW v0 v1 v2 v3 => by
            obtain ⟨a0, a1, a2', a3⟩ := HC0.out W hW
            have hb := setL_other W w.heap.size (i * 4) v0 v1 v2 v3 (k := bx) (fun e => hne e.symm)
            exact ⟨(World.cell?_of_block hb).trans a0, (World.cell?_of_block hb).trans a1, (World.cell?_of_block hb).trans a2', (World.cell?_of_block hb).trans a3⟩)
          have HI := hid him
          have HLR := hid hlr
          have HFI := hid hfk
          have HB0 := hid hB0
          clear hkd hcs hlr hx hfk hik htl hsk him hi hc
          go_wp2_with fail
          rw [show Value.string { data := List.toArray x.term } = St x.term from rfl, ← hw0, ← hbx]
          have HBX := hid hbx
          clear e0 e1 e2 e3 hB0 hw0 hbx hne
          have hs0 := HC0.out w0 (Below.refl _ _)
          go_region_held3 (fun wx => wx.cell? ⟨bx, 0, none⟩ = some (.int .u8 (x.kind : Int)) ∧ wx.cell? ⟨bx, 1, none⟩ = some (St x.term) ∧ wx.cell? ⟨bx, 2, none⟩ = some (.int .i64 x.n) ∧ wx.cell? ⟨bx, 3, none⟩ = some (.slice a2 x.kids.length c2)) (first | exact hs0 | exact HC0.out _ HBa.out | exact HC0.out _ HBb.out | exact HC0.out _ (below_dr _) | exact HC1.out _ HBb.out _ _ _ _) (first | (go_at_call 33; refine (HT.out _ (below_dr _)).mono ?_; rintro e wa ⟨rfl, hba⟩; have HBa := hid hba; clear hba) | (go_at_call 39; refine (HFK.out _ HBa.out).mono ?_; rintro e wb ⟨a3, c3, rfl, hvb⟩; have HVb := hid hvb; have HBb := hid hvb.2; obtain ⟨⟨u0, q0⟩, ⟨u1, q1⟩, ⟨u2, q2⟩, ⟨u3, q3⟩, qf⟩ := HRW.out wb hvb.2; clear hvb))
          have HN1 := hid (HNX.out wb _ HVb.out.1 HBb.out)
          clear hs0 q0 q1 q2 q3 qf
          go_wp2_with fail
          go_roundg (m - (i + 1))
          case measure => have := HI.out; omega
          case rel => exact ⟨i + 1, rfl, HI.out, rfl, HN1.out⟩
        · have hie : i = m := by omega
          subst hie
          have hin : ¬ (i : Int) < (i : Int) := by omega
          have HFI := hid hfk
          clear hfk him hi
          go_wp2_with fail
          go_ret
          refine ⟨_, rfl, ?_, HFI.out.bel⟩
          obtain ⟨cs, r1, r2, r3⟩ := HFI.out.row
          have hmi := HM.out
          refine ⟨by have := HLEN.out; omega, _, _, by rw [← hmi]; rfl, fun _ => ⟨w.heap.size, 0, rfl, Nat.le_refl _, fun k hk => ?_⟩⟩
          obtain ⟨kv, s1, s2, s3⟩ := r3 k hk (by omega)
          exact ⟨kv, fun j u hu => by rw [cell_of_heap r1, Nat.zero_add]; exact s1 j u hu, s2, s3.base (fun g (hg : w.heap.size + 1 ≤ g) => by show w.heap.size ≤ g; omega)⟩
end Go.Proofs.YtkdgmaolepkbdaaDoor
