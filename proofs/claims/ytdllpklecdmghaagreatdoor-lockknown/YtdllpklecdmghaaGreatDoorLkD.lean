/- Locks are copied. -/
import Derived.Test.YtdllpklecdmghaaGreatDoorKaAll
namespace Go.Proofs.YtdllpklecdmghaaGreatDoor
open Go.RowKit
open Lk (Lt)
namespace Lk
mutual
def small : Lt → Bool
  | .mk _ t _ ks => decide (t.length ≤ 20000) && decide (ks.length ≤ 1000000) && decide (sizes ks ≤ 60000) && smalls ks
def smalls : List Lt → Bool
  | [] => true
  | x :: ks => small x && smalls ks
end
theorem smalls_get : ∀ {ks : List Lt}, smalls ks = true → ∀ x ∈ ks, small x = true
  | y :: ks, h, x, hx => by
    rw [smalls, Bool.and_eq_true] at h
    rcases List.mem_cons.1 hx with rfl | hx
    · exact h.1
    · exact smalls_get h.2 x hx
end Lk
theorem freshT_any (t : Bs) (w : World) (h : t.length ≤ 20000) : Calls Tryz.prog 43 #[St t] w fun e w' => e = .returned (St t) ∧ Below w.heap.size w w' := by
  have HC := hid (clone_any ⟨t.toArray⟩ w (by rw [st_size]; exact h))
  clear h
  go_enter Tryz.func43, Tryz.ntmps43
  go_wp2_with fail
  refine HC.out.mono ?_
  rintro e w1 ⟨rfl, hb⟩
  have HB := hid hb
  clear hb HC
  go_wp2_with fail
  go_ret
  exact ⟨rfl, HB.out⟩
theorem lt_of_heap {w : World} {b : Nat} {o : Obj} (h : w.heap[b]? = some o) : b < w.heap.size := by
  apply Classical.byContradiction
  intro hn
  rw [Array.getElem?_eq_none (by omega)] at h
  cases h
def setL (W : World) (g o : Nat) (v0 v1 v2 v3 : Value) : World := (((W.setCell ⟨g, o, none⟩ v0).setCell ⟨g, o + 1, none⟩ v1).setCell ⟨g, o + 2, none⟩ v2).setCell ⟨g, o + 3, none⟩ v3
theorem setL_other (W : World) (g o : Nat) (v0 v1 v2 v3 : Value) {k : Nat} (h : k ≠ g) : (setL W g o v0 v1 v2 v3).heap[k]? = W.heap[k]? := by
  unfold setL
  rw [Below.heap_setCell _ _ _ _ h, Below.heap_setCell _ _ _ _ h, Below.heap_setCell _ _ _ _ h, Below.heap_setCell _ _ _ _ h]
theorem setL_same {W : World} {g : Nat} {cs : Array Value} {t : TypeId} (h : W.heap[g]? = some (.cells cs t (0, 0))) (o : Nat) (v0 v1 v2 v3 : Value) : (setL W g o v0 v1 v2 v3).heap[g]? = some (.cells ((((cs.set! o v0).set! (o + 1) v1).set! (o + 2) v2).set! (o + 3) v3) t (0, 0)) := by
  unfold setL
  exact heap_setCell_same (heap_setCell_same (heap_setCell_same (heap_setCell_same h o v0) (o + 1) v1) (o + 2) v2) (o + 3) v3
theorem setL_below {b : Nat} {w W : World} (h : Below b w W) {g : Nat} (hg : b ≤ g) (o : Nat) (v0 v1 v2 v3 : Value) : Below b w (setL W g o v0 v1 v2 v3) := by
  unfold setL
  exact (((h.setCell (p := ⟨g, o, none⟩) hg v0).setCell (p := ⟨g, o + 1, none⟩) hg v1).setCell (p := ⟨g, o + 2, none⟩) hg v2).setCell (p := ⟨g, o + 3, none⟩) hg v3
theorem set4_other (cs : Array Value) (o : Nat) (v0 v1 v2 v3 : Value) {k : Nat} (h : k < o ∨ o + 4 ≤ k) : ((((cs.set! o v0).set! (o + 1) v1).set! (o + 2) v2).set! (o + 3) v3)[k]? = cs[k]? := by
  simp only [Array.set!_eq_setIfInBounds, Array.getElem?_setIfInBounds]
  rw [if_neg (by omega), if_neg (by omega), if_neg (by omega), if_neg (by omega)]
theorem set4_new (cs : Array Value) (o : Nat) (v0 v1 v2 v3 : Value) (ho : o + 4 ≤ cs.size) {j : Nat} {u : Value} (h : (#[v0, v1, v2, v3] : Array Value)[j]? = some u) : ((((cs.set! o v0).set! (o + 1) v1).set! (o + 2) v2).set! (o + 3) v3)[o + j]? = some u := by
  simp only [Array.set!_eq_setIfInBounds, Array.getElem?_setIfInBounds, Array.size_setIfInBounds]
  match j, h with
  | 0, h =>
    rw [if_neg (by omega), if_neg (by omega), if_neg (by omega), if_pos (by omega), if_pos (by omega)]
    exact h
  | 1, h =>
    rw [if_neg (by omega), if_neg (by omega), if_pos (by omega), if_pos (by omega)]
    exact h
  | 2, h =>
    rw [if_neg (by omega), if_pos (by omega), if_pos (by omega)]
    exact h
  | 3, h =>
    rw [if_pos (by omega), if_pos (by omega)]
    exact h
  | j + 4, h => simp at h
theorem below_dr (w : World) : Below w.heap.size w w.drew := ⟨rfl, rfl, rfl, Nat.le_refl _, fun _ _ => rfl⟩
theorem info25 : (Tryz.prog.info? 25).map (fun i => (i.zero, i.size, i.bytes)) = some (some (.agg #[.int .u8 0, .string ⟨#[]⟩, .int .i64 0, .slice none 0 0]), 4, 56) := by kernel_rfl
namespace Lk
mutual
def dep : Lt → Nat
  | .mk _ _ _ ks => deps ks + 1
def deps : List Lt → Nat
  | [] => 0
  | x :: ks => max (dep x) (deps ks)
end
theorem deps_mem : ∀ {ks : List Lt}, ∀ x ∈ ks, dep x ≤ deps ks
  | y :: ks, x, hx => by
    rw [deps]
    rcases List.mem_cons.1 hx with rfl | hx
    · omega
    · have := deps_mem x hx
      omega
theorem dep_size : ∀ (l : Lt), dep l ≤ size l := by
  intro l
  induction l using Lt.ind with
  | h k t n ks ih =>
    have hs : ∀ ms : List Lt, (∀ x ∈ ms, x ∈ ks) → deps ms ≤ sizes ms := by
      intro ms
      induction ms with
      | nil => intro _; exact Nat.le_refl 0
      | cons x ms ihm =>
        intro hm
        have h1 := ih x (hm x (by simp))
        have h2 := ihm (fun y hy => hm y (by simp [hy]))
        rw [deps, sizes]
        omega
    have := hs ks (fun _ h => h)
    rw [dep, size]
    omega
theorem size_take : ∀ (ks : List Lt) (i : Nat) (hi : i < ks.length), sizes (ks.take i) + size ks[i] ≤ sizes ks
  | x :: ks, 0, _ => by simp [sizes]
  | x :: ks, i + 1, hi => by
    have := size_take ks i (by simpa using hi)
    rw [List.take_succ_cons, sizes, sizes, List.getElem_cons_succ]
    omega
theorem size_step : ∀ (ks : List Lt) (i : Nat) (hi : i < ks.length), sizes (ks.take (i + 1)) = sizes (ks.take i) + size ks[i]
  | x :: ks, 0, _ => by simp [sizes]
  | x :: ks, i + 1, hi => by
    have := size_step ks i (by simpa using hi)
    rw [List.take_succ_cons, List.take_succ_cons, sizes, sizes, List.getElem_cons_succ, this]
    omega
theorem small_parts {l : Lt} (h : small l = true) : l.term.length ≤ 20000 ∧ l.kids.length ≤ 1000000 ∧ sizes l.kids ≤ 60000 ∧ smalls l.kids = true := by
  obtain ⟨k, t, n, ks⟩ := l
  rw [small, Bool.and_eq_true, Bool.and_eq_true, Bool.and_eq_true] at h
  exact ⟨of_decide_eq_true h.1.1.1, of_decide_eq_true h.1.1.2, of_decide_eq_true h.1.2, h.2⟩
end Lk
theorem Kd.exact {b : Nat → Prop} {w : World} : ∀ {d : Nat} {v : Value} {ks : List Lt}, Kd b w d v ks → Kd b w (Lk.deps ks) v ks
  | 0, _, _, h => by
    obtain ⟨rfl, h⟩ := h
    exact ⟨rfl, h⟩
  | d + 1, v, [], h => by
    obtain ⟨_, ao, cap, hv, _⟩ := h
    exact ⟨rfl, ao, cap, hv⟩
  | d + 1, v, x :: ks, h => by
    obtain ⟨e, he⟩ : ∃ e, Lk.deps (x :: ks) = e + 1 := by
      have := Lk.deps_mem x (List.mem_cons_self (l := ks))
      have h1 : 1 ≤ Lk.dep x := by cases x; rw [Lk.dep]; omega
      exact ⟨Lk.deps (x :: ks) - 1, by omega⟩
    obtain ⟨hl, ao, cap, hv, h⟩ := h
    rw [he]
    refine ⟨hl, ao, cap, hv, fun h0 => ?_⟩
    obtain ⟨g, o, hg, hbg, hc⟩ := h h0
    refine ⟨g, o, hg, hbg, fun i hi => ?_⟩
    obtain ⟨kv, h1, h2, h3⟩ := hc i hi
    refine ⟨kv, h1, h2, h3.exact.more ?_⟩
    have h4 := Lk.deps_mem _ (List.getElem_mem hi)
    have h5 : Lk.dep (x :: ks)[i] = Lk.deps (x :: ks)[i].kids + 1 := by
      generalize (x :: ks)[i] = y
      cases y
      rfl
    omega
theorem frx_cell {B b : Nat} {w W : World} (h : Frx B b w W) {a : Addr} {v : Value} (ha : a.block < B) (hb : a.block ≠ b) (hc : w.cell? a = some v) : W.cell? a = some v := by
  rw [World.cell?_of_block (h.block _ ha hb)]
  exact hc
theorem frx_kd {b : Nat → Prop} {g : Nat} {w W : World} {d : Nat} {v : Value} {ks : List Lt} (hg : ∀ k, b k → k ≠ g) (h : Kd b w d v ks) (hF : Frx w.heap.size g w W) : Kd b W d v ks := h.same (fun k hk hlt => hF.block k hlt (hg k hk))
theorem frx_of {B g : Nat} {w W : World} (h : Below B w W) : Frx B g w W := ⟨h.os, h.tape, h.output, h.size, fun k hk _ => h.block k hk⟩
theorem Frx.low {B C b : Nat} {w W : World} (h : Frx C b w W) (hB : B ≤ C) : Frx B b w W := ⟨h.os, h.tape, h.output, h.size, fun k hk hb => h.block k (Nat.lt_of_lt_of_le hk hB) hb⟩
def Cn (w : World) (g : Nat) (p : Int) : Prop := w.heap[g]? = some (.cells #[.int .i64 p] 3 (0, 0))
theorem Cn.cell {w : World} {g : Nat} {p : Int} (h : Cn w g p) : w.cell? ⟨g, 0, none⟩ = some (.int .i64 p) ∧ ∀ j, w.frozen? ⟨g, j, none⟩ = false := ⟨(cell_of_heap h 0).trans rfl, fun j => frozen_of_heap h j⟩
theorem Cn.set {w : World} {g : Nat} {p : Int} (h : Cn w g p) (q : Int) : Cn (w.setCell ⟨g, 0, none⟩ (.int .i64 q)) g q := by
  unfold Cn
  rw [heap_setCell_same h]
  rfl
set_option maxHeartbeats 4000000 in
theorem ends_any {b : Nat → Prop} (g : Nat) (hbg : ∀ k, b k → k ≠ g) (d : Nat) : ∀ (l : Lt) (kv : Value) (w : World) (n p : Nat), Kd b w d kv l.kids → Cn w g (p : Int) → d < n → n ≤ 65536 → Lk.size l ≤ p → p ≤ 67108864 → Calls Tryz.prog 95 #[.agg (lcs l kv), .int .i64 (n : Int), .pointer (some ⟨g, 0, none⟩)] w fun e w' => e = .returned (.bool true) ∧ Cn w' g ((p - Lk.size l : Nat) : Int) ∧ Frx w.heap.size g w w' := by
  induction d using Nat.strongRecOn with
  | ind d ih =>
    intro l kv w n p hk hcn hdn hn hsp hp
    obtain ⟨kd, t, nn, ks⟩ := l
    obtain ⟨hl, ao, cap, rfl, hks⟩ := hk.parts
    clear hk
    have hl : ks.length ≤ 140737488355328 := hl
    have hks : Kr b w d ao ks := hks
    have hsz : Lk.size (.mk kd t nn ks) = 1 + Lk.sizes ks := by rw [Lk.size]
    rw [hsz] at hsp ⊢
    show Calls Tryz.prog 95 #[.agg #[.int .u8 (kd : Int), St t, .int .i64 nn, .slice ao ks.length cap], .int .i64 (n : Int), .pointer (some ⟨g, 0, none⟩)] w _
    obtain ⟨m, hm⟩ : ∃ m, m = ks.length := ⟨_, rfl⟩
    rw [← hm] at hl ⊢
    have hp1 : IntKind.i64.wrap ((p : Int) - 1) = ((p - 1 : Nat) : Int) := by rw [IntKind.wrap_i64]; omega
    have hn1 : IntKind.i64.wrap ((n : Int) - 1) = ((n - 1 : Nat) : Int) := by rw [IntKind.wrap_i64]; omega
    have hn0 : ¬ (n : Int) = 0 := by omega
    have hn0' : ((n : Int) == 0) = false := by simpa using hn0
    have hp0 : ¬ ((p - 1 : Nat) : Int) < 0 := by omega
    obtain ⟨w0, hw0⟩ : ∃ w0, w0 = (w.alloc (.cells #[.int .u8 (kd : Int), St t, .int .i64 nn, .slice ao m cap] 25)).setCell ⟨g, 0, none⟩ (.int .i64 ((p - 1 : Nat) : Int)) := ⟨_, rfl⟩
    have hgw : g < w.heap.size := lt_of_heap hcn
    have hcn1 : Cn (w.alloc (.cells #[.int .u8 (kd : Int), St t, .int .i64 nn, .slice ao m cap] 25)) g (p : Int) := ((below_al w _).block _ hgw).trans hcn
    have hF0 : Frx w.heap.size g w w0 := by rw [hw0]; exact (frx_of (below_al w _)).setCell 0 _
    have hC0 : Cn w0 g ((p - 1 : Nat) : Int) := by rw [hw0]; exact hcn1.set _
    obtain ⟨c0, cf⟩ := hcn1.cell
    have e0 := hC0.cell.1
    obtain ⟨bx, hbx⟩ : ∃ bx, bx = w.heap.size := ⟨_, rfl⟩
    have c3 : w0.cell? ⟨bx, 3, none⟩ = some (.slice ao m cap) := by
      rw [hw0, hbx]
      refine (World.cell?_of_block (Below.heap_setCell _ _ _ _ (by show w.heap.size ≠ g; omega))).trans ((cell_of_heap (heap_alloc_new w _) 3).trans rfl)
    have HM := hid hm
    have HKS := hid hks
    have HL := hid hl
    have HIH := hid ih
    have HF0 := hid hF0
    have HC0 := hid hC0
    have HN : Hid (d < n ∧ n ≤ 65536) := hid ⟨hdn, hn⟩
    have HP : Hid (1 + Lk.sizes ks ≤ p ∧ p ≤ 67108864) := hid ⟨hsp, hp⟩
    have HBG := hid hbg
    clear hm hks hl ih hdn hn hsp hp hcn hcn1 hsz hgw hF0 hC0 hn0 hbg
    go_enter Tryz.func95, Tryz.ntmps95
    go_wp2_with fail
    rw [← hw0, ← hbx]
    clear hw0 hbx c0 cf
    have HPZ : Hid (Lk.sizes ks ≤ p - 1) := hid (by have := HP.out; omega)
    go_loopg [25] m (fun gg v25 wr => ∃ i : Nat, gg = m - i ∧ i ≤ m ∧ v25 = .int .i64 (i : Int) ∧ Cn wr g ((p - 1 - Lk.sizes (ks.take i) : Nat) : Int) ∧ Frx w.heap.size g w wr)
    case atStart => exact ⟨0, rfl, Nat.zero_le _, rfl, HC0.out, HF0.out⟩
    case round =>
      obtain ⟨i, rfl, hi, rfl, hcn, hF⟩ := hrel
      by_cases him : i < m
      · have hik : i < ks.length := by have := HM.out; omega
        obtain ⟨g1, o, hg1, hb1, hc⟩ := HKS.out (by omega)
        subst hg1
        obtain ⟨kv, hcs, hlr, d', hd', hkd⟩ := hc i hik
        obtain ⟨x, hx⟩ : ∃ x, x = ks[i] := ⟨_, rfl⟩
        have hst := Lk.size_step ks i hik
        have htk := Lk.size_take ks i hik
        rw [← hx] at hcs hlr hkd hst htk
        obtain ⟨_, a2, c2, rfl⟩ := hkd.shape
        have hcs2 : ∀ j u, (lcs x (.slice a2 x.kids.length c2))[j]? = some u → wr.cell? ⟨g1, o + i * 4 + j, none⟩ = some u := fun j u hu => frx_cell hF (World.block_lt_of_cell? w ⟨g1, o + i * 4 + j, none⟩ (hcs j u hu)) (HBG.out g1 hb1) (hcs j u hu)
        have e0 : wr.cell? ⟨g1, o + i * 4, none⟩ = some (.int .u8 (x.kind : Int)) := hcs2 0 _ rfl
        have e1 : wr.cell? ⟨g1, o + i * 4 + 1, none⟩ = some (St x.term) := hcs2 1 _ rfl
        have e2 : wr.cell? ⟨g1, o + i * 4 + 2, none⟩ = some (.int .i64 x.n) := hcs2 2 _ rfl
        have e3 : wr.cell? ⟨g1, o + i * 4 + 3, none⟩ = some (.slice a2 x.kids.length c2) := hcs2 3 _ rfl
        have hgr : g < wr.heap.size := lt_of_heap hcn
        have HCA : Hid (∀ W, Below wr.heap.size wr W → Calls Tryz.prog 95 #[.agg #[.int .u8 (x.kind : Int), St x.term, .int .i64 x.n, .slice a2 x.kids.length c2], .int .i64 ((n - 1 : Nat) : Int), .pointer (some ⟨g, 0, none⟩)] W fun e w' => e = .returned (.bool true) ∧ (Cn w' g ((p - 1 - Lk.sizes (ks.take (i + 1)) : Nat) : Int) ∧ Frx w.heap.size g w w')) := hid (fun W hW => (HIH.out d' hd' x _ W (n - 1) (p - 1 - Lk.sizes (ks.take i)) ((frx_kd HBG.out hkd hF).low hW) ((hW.block _ hgr).trans hcn) (by have := HN.out; omega) (by have := HN.out; omega) (by have := HPZ.out; omega) (by have := HP.out; omega)).mono (fun e w' ⟨h1, h2, h3⟩ => ⟨h1, by rw [hst, ← Nat.sub_sub]; exact h2, (hF.trans ((frx_of hW).low hF.size)).trans (h3.low (Nat.le_trans hF.size hW.size))⟩))
        have hiw : IntKind.i64.wrap ((i : Int) + 1) = ((i + 1 : Nat) : Int) := by rw [IntKind.wrap_i64]; have := HL.out; omega
        have hi0 : (0 : Int) ≤ (i : Int) := Int.natCast_nonneg _
        have hi1 : (i : Int) < (m : Int) := by omega
        have HI := hid him
        clear hcs hcs2 hlr hkd hc hik him hi hx hst htk hcn hF hgr hb1
        go_wp2_with fail
        refine (HCA.out _ (below_al _ _)).mono ?_
        rintro e w2 ⟨rfl, hr⟩
        have HR2 := hid hr
        clear hr HCA
        go_wp2_with fail
        go_roundg (m - (i + 1))
        case measure => have := HI.out; omega
        case rel => exact ⟨i + 1, rfl, HI.out, rfl, HR2.out.1, HR2.out.2⟩
      · have hie : i = m := by omega
        subst hie
        have hin : ¬ (i : Int) < (i : Int) := by omega
        have HZ : Hid (Cn wr g ((p - (1 + Lk.sizes ks) : Nat) : Int) ∧ Frx w.heap.size g w wr) := hid ⟨by rw [← Nat.sub_sub]; rw [HM.out, List.take_length] at hcn; exact hcn, hF⟩
        clear hcn hF hi him
        go_wp2_with fail
        go_ret
        exact ⟨rfl, HZ.out.1, HZ.out.2⟩
end Go.Proofs.YtdllpklecdmghaaGreatDoor
