import Derived.Test.YtdllpklecdmghaaGreatDoorLkLN
import Derived.Test.YtdllpklecdmghaaGreatDoorDkTAll
import Derived.Test.YtdllpklecdmghaaGreatDoorLkVAll
/- LockKnown: locks within locks. -/
namespace Go.Proofs.YtdllpklecdmghaaGreatDoor
open Go.RowKit
open Lk (Lt)
def deepL : Nat → Lt
  | 0 => .mk 3 [] 1 []
  | n + 1 => .mk 6 [] 0 [deepL n]
theorem deepL_size : ∀ n, Lk.size (deepL n) = n + 1
  | 0 => rfl
  | n + 1 => by rw [deepL, Lk.size, Lk.sizes, Lk.sizes, deepL_size n]; omega
theorem deepL_small : ∀ n, n ≤ 1000 → Lk.small (deepL n) = true
  | 0, _ => rfl
  | n + 1, h => by
    rw [deepL, Lk.small, Lk.smalls, Lk.smalls, deepL_small n (by omega), Lk.sizes, Lk.sizes, deepL_size]
    simp
    omega
theorem deepL_lr : ∀ n, Lr (deepL n)
  | 0 => ⟨by decide, by decide, by decide⟩
  | n + 1 => ⟨by show 6 < 256; decide, by show 0 ≤ _; decide, by show _ ≤ (0 : Int) ∧ (0 : Int) < _; decide⟩
structure Dp (lb : Nat) (w : World) (i : Nat) (kv : Value) (W : World) : Prop where
  bel : Below w.heap.size w W
  res : W.heap[w.heap.size]? = some (.cells zeroL 25 (0, 0))
  box : W.heap[lb]? = some (.cells (lcs (deepL i) kv) 25 (0, 0))
  old : w.heap.size < lb
  kd : Kd (fun g => lb < g) W (i + 1) kv (deepL i).kids
theorem kd_one {b : Nat → Prop} {W : World} {g d : Nat} {x : Lt} {xv : Value} (h : W.heap[g]? = some (.cells (lcs x xv) 25 (0, 0))) (hb : b g) (hx : Lr x) (kx : Kd b W d xv x.kids) : Kd b W (d + 1) (.slice (some ⟨g, 0, none⟩) 1 1) [x] := by
  refine ⟨by simp, some ⟨g, 0, none⟩, 1, rfl, fun _ => ⟨g, 0, rfl, hb, fun i hi => ?_⟩⟩
  match i, hi with
  | 0, _ =>
    refine ⟨xv, fun j u hu => ?_, hx, kx⟩
    rw [cell_of_heap h]
    simpa using hu
set_option maxHeartbeats 4000000 in
theorem deepk_any (n : Nat) (h1 : 1 ≤ n) (hn : n ≤ 1000) (w : World) : Calls Tryz.prog 28 #[.int .i64 (n : Int)] w fun e w' => ∃ kv, e = .returned (.agg (lcs (deepL (n - 1)) kv)) ∧ (Kd (fun g => w.heap.size ≤ g) w' n kv (deepL (n - 1)).kids ∧ Below w.heap.size w w') := by
  obtain ⟨w0, hw0⟩ : ∃ w0, w0 = w.alloc (.cells zeroL 25) := ⟨_, rfl⟩
  have hB0 : Below w.heap.size w w0 := by rw [hw0]; exact below_al _ _
  have hZ0 : w0.heap[w.heap.size]? = some (.cells zeroL 25 (0, 0)) := by rw [hw0]; exact heap_alloc_new w _
  have HA : Hid (Calls Tryz.prog 22 #[.int .i64 1] w0 fun e w' => e = .returned (.agg #[.int .u8 3, St [], .int .i64 1, .slice none 0 0]) ∧ Below w0.heap.size w0 w') := hid (mk_after 1 w0)
  have HD1 : Hid (∀ w1, Below w0.heap.size w0 w1 → Dp w1.heap.size w 0 (.slice none 0 0) (w1.alloc (.cells #[.int .u8 3, St [], .int .i64 1, .slice none 0 0] 25))) := hid (fun w1 hb => by
    have hb1 := below_al w1 (.cells #[.int .u8 3, St [], .int .i64 1, .slice none 0 0] 25)
    have hz1 := (hb.block _ (lt_of_heap hZ0)).trans hZ0
    have hbw := hB0.trans (hb.mono hB0.size)
    exact ⟨hbw.trans (hb1.mono hbw.size), (hb1.block _ (lt_of_heap hz1)).trans hz1, heap_alloc_new w1 _, lt_of_heap hz1, Kd.nil _ _ _⟩)
  have HN : Hid (1 ≤ n ∧ n ≤ 1000) := hid ⟨h1, hn⟩
  clear h1 hn hB0 hZ0
  go_enter Tryz.func28, Tryz.ntmps28
  go_wp2_with fail
  rw [show (#[Value.int .u8 0, .string ⟨#[]⟩, .int .i64 0, .slice none 0 0] : Array Value) = zeroL from rfl, ← hw0]
  clear hw0
  refine HA.out.mono ?_
  rintro e w1 ⟨rfl, hb⟩
  have HD := hid (HD1.out w1 hb)
  obtain ⟨lb, hlb⟩ : ∃ lb, lb = w1.heap.size := ⟨_, rfl⟩
  obtain ⟨w2, hw2⟩ : ∃ w2, w2 = w1.alloc (.cells #[.int .u8 3, St [], .int .i64 1, .slice none 0 0] 25) := ⟨_, rfl⟩
  rw [← hlb, ← hw2] at HD
  clear hb HD1 HA
  go_wp2_with fail
  rw [← hw2, ← hlb]
  clear hw2 hlb
  go_loopg [4] (n - 1) (fun gg v4 wr => ∃ (i : Nat) (kv : Value), gg = n - i ∧ 1 ≤ i ∧ i ≤ n ∧ v4 = .int .i64 (i : Int) ∧ Dp lb w (i - 1) kv wr)
  case atStart => exact ⟨1, _, rfl, Nat.le_refl _, HN.out.1, rfl, HD.out⟩
  case round =>
    obtain ⟨i, kv, rfl, hi1, hi, rfl, hd⟩ := hrel
    obtain ⟨_, a2, c2, rfl⟩ := hd.kd.shape
    have HDP := hid hd
    by_cases him : i < n
    · obtain ⟨k, hk⟩ : ∃ k, k + 1 = i := ⟨i - 1, by omega⟩
      have hk1 : i - 1 = k := by omega
      rw [hk1] at hd
      have hxl' : Lr (deepL k) := deepL_lr k
      have hbxk := hd.box
      have hxs' : Lk.smalls [deepL k] = true := by rw [Lk.smalls, Lk.smalls, deepL_small k (by have := HN.out; omega)]; rfl
      obtain ⟨x, hx⟩ : ∃ x, x = deepL k := ⟨_, rfl⟩
      have hdk : deepL i = .mk 6 [] 0 [x] := by rw [← hk, deepL, hx]
      have hxl : Lr x := by rw [hx]; exact deepL_lr k
      have hxs : Lk.smalls [x] = true := by rw [Lk.smalls, Lk.smalls, hx, deepL_small k (by have := HN.out; omega)]; rfl
      have hbx := hd.box
      rw [← hx] at hbx
      have b0 := (cell_of_heap hbx 0).trans (rfl : _ = some (Value.int .u8 (x.kind : Int)))
      have b1 := (cell_of_heap hbx 1).trans (rfl : _ = some (St x.term))
      have b2 := (cell_of_heap hbx 2).trans (rfl : _ = some (Value.int .i64 x.n))
      have b3 := (cell_of_heap hbx 3).trans (rfl : _ = some (Value.slice a2 x.kids.length c2))
      have hbel := hd.bel
      have HK := hid hd.kd
      have HR := hid hd.res
      have HO := hid hd.old
      have HBL := hid hd.bel
      clear hd hbx hk1 HDP
      have H27 : Hid (Calls Tryz.prog 27 #[.slice (some ⟨wr.heap.size, 0, none⟩) 1 1] (wr.alloc (.cells (lcs (deepL k) (.slice a2 (deepL k).kids.length c2)) 25)) fun e w' => ∃ a c, e = .returned (.agg #[.int .u8 6, St [], .int .i64 0, .slice a 1 c]) ∧ Kd (fun g => wr.heap.size ≤ g) w' (k + 2) (.slice a 1 c) [deepL k] ∧ Below wr.heap.size wr w') := hid ((mk_any (b := fun _ => True) (k + 2) _ [deepL k] _ (kd_one (heap_alloc_new wr _) trivial hxl' ((HK.out.base (fun _ _ => trivial)).low (below_al wr _))) hxs' (by simp)).mono (fun e w' ⟨v', h1, h2, h3⟩ => by
        obtain ⟨_, a, c, rfl⟩ := h2.shape
        exact ⟨a, c, h1, h2.base (fun _ h => by have : wr.heap.size ≤ (wr.alloc (.cells (lcs (deepL k) (.slice a2 (deepL k).kids.length c2)) 25)).heap.size := (below_al wr _).size; omega), (below_al wr _).trans (h3.mono (below_al wr _).size)⟩))
      go_wp2_with fail
      refine H27.out.mono ?_
      rintro e w4 ⟨a4, c4, rfl, hk4, hb4⟩
      have HK4 := hid hk4
      have HB4 := hid hb4
      have bx4 := (hb4.block _ (lt_of_heap hbxk)).trans hbxk
      have hsz4 := hb4.size
      have hlbs := lt_of_heap hbxk
      have HSZ := hid (And.intro hsz4 hlbs)
      have HNX : Hid (∀ cs, cs = #[Value.int .u8 6, St [], .int .i64 0, .slice a4 1 c4] → Dp lb w i (.slice a4 1 c4) (w4.setRow lb cs)) := hid (fun cs hcs => by
        have hol := HO.out
        have hlw := HBL.out.size
        have hbw := HBL.out.trans (hb4.mono hlw)
        subst hcs
        rw [← hk]
        refine ⟨⟨hbw.os, hbw.tape, hbw.output, by simpa using hbw.size, fun x hx => (setRow_other _ _ _ _ (by omega)).trans (hbw.block x hx)⟩, (setRow_other _ _ _ _ (by omega)).trans ((hb4.block _ (lt_of_heap HR.out)).trans HR.out), setRow_heap _ _ _ _ _ _ bx4, hol, ?_⟩
        exact (hk4.base (c := fun g => lb < g) (fun g hg => by omega)).same (fun g hg _ => setRow_other _ _ _ _ (by omega)))
      clear H27 hk4 hb4 hsz4 hlbs
      go_wp2_with (first | (refine wpList_store_row rfl 25 (.tmp 3) (.tmp 13) rfl lb _ rfl rfl 25 _ bx4 (by kernel_rfl) rfl (by simp [Value.oneCell']) ?_) | fail)
      go_roundg (n - (i + 1))
      case measure => omega
      case rel => exact ⟨i + 1, _, rfl, by omega, by omega, by rw [show wrap64 ((i : Int) + 1) = ((i + 1 : Nat) : Int) by have := HN.out; unfold wrap64; omega], HNX.out _ rfl⟩
    · have hin : ¬ (i : Int) < (n : Int) := by omega
      have hie : i = n := by omega
      rw [hie] at hd
      obtain ⟨x, hx⟩ : ∃ x, x = deepL (n - 1) := ⟨_, rfl⟩
      have hbx := hd.box
      rw [← hx] at hbx
      have b0 := (cell_of_heap hbx 0).trans (rfl : _ = some (Value.int .u8 (x.kind : Int)))
      have b1 := (cell_of_heap hbx 1).trans (rfl : _ = some (St x.term))
      have b2 := (cell_of_heap hbx 2).trans (rfl : _ = some (Value.int .i64 x.n))
      have b3 := (cell_of_heap hbx 3).trans (rfl : _ = some (Value.slice a2 x.kids.length c2))
      have hres := hd.res
      have HD3 := hid hd
      clear hd hbx him HDP
      go_wp2_with (first | (refine wpList_store_row rfl 25 (.tmp 2) (.tmp 14) rfl w.heap.size _ rfl rfl 25 _ hres (by kernel_rfl) rfl (by simp [Value.oneCell']) ?_) | fail)
      have hz := HD3.out
      obtain ⟨x, hx⟩ : ∃ x, x = deepL (n - 1) := ⟨_, rfl⟩
      rw [← hx] at ⊢
      rw [← hx] at hz
      have hr2 := setRow_heap wr w.heap.size zeroL (lcs x (.slice a2 x.kids.length c2)) _ _ hres
      have ho2 : ∀ g, g ≠ w.heap.size → (wr.setRow w.heap.size (lcs x (.slice a2 x.kids.length c2))).heap[g]? = wr.heap[g]? := fun g hg => setRow_other _ _ _ _ hg
      have hbl : Below w.heap.size w (wr.setRow w.heap.size (lcs x (.slice a2 x.kids.length c2))) := ⟨hz.bel.os, hz.bel.tape, hz.bel.output, by simpa using hz.bel.size, fun x hx => (setRow_other _ _ _ _ (by omega)).trans (hz.bel.block x hx)⟩
      have hk2 := (hz.kd.base (c := fun g => lb < g) (fun g hg => hg)).same (w' := wr.setRow w.heap.size (lcs x (.slice a2 x.kids.length c2))) (fun g hg _ => setRow_other _ _ _ _ (by have := hz.old; omega))
      rw [← hx] at hk2
      have hol := hz.old
      change bodyPost _ _ _ _ _ (wr.setRow w.heap.size (lcs x (.slice a2 x.kids.length c2)))
      generalize wr.setRow w.heap.size (lcs x (.slice a2 x.kids.length c2)) = W2 at *
      refine bodyPost_ret (ret_lock Tryz.results28 rfl hr2) rfl ⟨_, rfl, ?_, hbl⟩
      exact (hk2.more (by omega)).base (fun g hg => by omega)
end Go.Proofs.YtdllpklecdmghaaGreatDoor
/- LockKnown: nine times the same lock put into a row. -/
namespace Go.Proofs.YtdllpklecdmghaaGreatDoor
open Go.RowKit
open Lk (Lt)
abbrev aft7 : Lt := .mk 3 [] 7 []
theorem nine_kd {W : World} {lb i : Nat} {v : Value} (h : W.ownsRow (lb + 1) 25 4 v i (rcs (List.replicate i (aft7, .slice none 0 0)))) (hi : 0 < i) :
    ∃ g cap, v = .slice (some ⟨g, 0, none⟩) i cap ∧ lb < g ∧ g < W.heap.size ∧ i ≤ cap ∧ cap ≤ maxLen ∧ ∀ k, k ≤ i → k ≤ 1000 → ∀ c, Kd (fun g => lb < g) W 1 (.slice (some ⟨g, 0, none⟩) k c) (List.replicate k aft7) := by
  obtain ⟨h1, h2⟩ := h
  rcases h2 with ⟨_, h2⟩ | ⟨g, cap, cur, rfl, hg, hh, hic, hcm, hcs, htk⟩
  · omega
  · refine ⟨g, cap, rfl, hg, lt_of_heap hh, hic, hcm, fun k hk hk2 c => ⟨by simp; omega, some ⟨g, 0, none⟩, c, by simp, fun _ => ⟨g, 0, rfl, hg, fun j hj => ?_⟩⟩⟩
    have hjk : j < k := by simpa using hj
    rw [List.getElem_replicate]
    refine ⟨.slice none 0 0, fun j2 u hu => ?_, ⟨by decide, by decide, by decide⟩, Kd.nil _ _ _⟩
    have hj4 : j2 < 4 := (Array.getElem?_eq_some_iff.1 hu).1
    have hr := rcs_at (List.replicate i (aft7, .slice none 0 0)) j (by simp; omega) j2 u (by rw [List.getElem_replicate]; exact hu)
    rw [← htk, List.getElem?_take] at hr
    rw [cell_of_heap hh, Nat.zero_add, ← Array.getElem?_toList]
    split at hr
    · exact hr
    · cases hr
theorem nine_put {W : World} {lb n : Nat} {v : Value} {xs : List Value} (hrow : W.ownsRow (lb + 1) 25 4 v n xs) (cs : Array Value) (hcs : cs.size = 4) (hone : ∀ u ∈ cs.toList, u.oneCell' = true) (hlb : lb < W.heap.size) (hn : n ≤ 1000000) :
    ∃ ao cap w', (∀ ty, (Builtin.append_ #[23, 23] ty #[v, .slice (some ⟨W.heap.size, 0, none⟩) 1 1]).run Tryz.prog (W.alloc (.cells cs 25)) = .ok (.slice ao (n + 1) cap) w') ∧ w'.ownsRow (lb + 1) 25 4 (.slice ao (n + 1) cap) (n + 1) (xs ++ cs.toList) ∧ Below (lb + 1) W w' := by
  obtain ⟨i0, hi, hz0, hz1, hz2⟩ := info_parts lk_info25
  have hAs : (W.alloc (.cells cs 25)).heap.size = W.heap.size + 1 := heap_alloc_size _ _
  obtain ⟨v', w', h4, h5, h6, _, h8⟩ := run_append_own_at (P := Tryz.prog) (W.alloc (.cells cs 25)) (lb + 1) 23 23 25 i0 _ 4 56 Tryz.underlying23 hi hz0 hz1 hz2 rfl (by decide) v n xs (hrow.alloc _) ⟨W.heap.size, 0, none⟩ 1 1 cs.toList (by simp [hcs])
    (fun j u hj => by
      have : (W.alloc (.cells cs 25)).cell? ⟨W.heap.size, j, none⟩ = some u := by
        rw [cell_of_heap (heap_alloc_new W _)]
        rw [← Array.getElem?_toList]
        exact hj
      rw [add_plain, Nat.zero_add]
      exact this) hone (by unfold maxLen; omega) (by omega) (by rw [hAs]; omega)
  obtain ⟨ao, cap, rfl⟩ := row_shape h5
  have hsz := h6.size
  rw [hAs] at hsz
  refine ⟨ao, cap, w', fun ty => h4, h5, ⟨h6.os, h6.tape, h6.output, by omega, fun g hg => ?_⟩⟩
  rw [h6.block g (by omega) (fun e => by have := (hrow.lt g e.symm).1; omega)]
  exact Below.heap_alloc W _ g (by omega)
end Go.Proofs.YtdllpklecdmghaaGreatDoor
/- A region that draws its order: what holds of what has come up, whichever has. -/
namespace Go.Proofs.YtdllpklecdmghaaGreatDoor
open Go.RowKit
section
variable {P : Program} {ops : Array Oper} {Q : Exit → Act → World → Prop} {md : Region.Mode}
def unl (l : Array Bool) : Nat := l.toList.count false
theorem unl_set {l : Array Bool} {i : Nat} (h : l.getD i true = false) : unl l = unl (l.setIfInBounds i true) + 1 := by
  have hi : i < l.size := by
    rcases Nat.lt_or_ge i l.size with h' | h'
    · exact h'
    · simp [Array.getElem?_eq_none h'] at h
  have hv : l[i] = false := by simpa [hi] using h
  unfold unl
  rw [Array.toList_setIfInBounds, List.count_set (by simpa using hi)]
  have hv' : l.toList[i]'(by simpa using hi) = false := by simpa using hv
  have hc : 0 < l.toList.count false := List.count_pos_iff.2 (hv' ▸ List.getElem_mem _)
  rw [hv']
  show _ = _ - (if (false == false) = true then 1 else 0) + (if (true == false) = true then 1 else 0) + 1
  rw [if_pos (show (false == false) = true by decide), if_neg (show ¬(true == false) = true by decide)]
  omega
theorem unl_none {l : Array Bool} (h : unl l = 0) (i : Nat) : l.getD i true = true := by
  rcases Nat.lt_or_ge i l.size with h' | h'
  · have : false ∉ l.toList := List.count_eq_zero.1 h
    have h2 : l[i] ∈ l.toList := by simp
    cases hv : l[i] with
    | true => simp [h', hv]
    | false => rw [hv] at h2; exact absurd h2 this
  · simp [Array.getElem?_eq_none h']
theorem first_ready (hb : ∀ (i : Nat) (o : Oper), ops[i]? = some o → ∀ e ∈ o.after, e.on < i) {l : Array Bool} (hl : l.size = ops.size) : ∀ n i : Nat, i ≤ n → l.getD i true = false → Region.ready md ops l ≠ [] := by
  intro n
  induction n with
  | zero =>
    intro i hi hf hr
    have hi0 : i < ops.size := by
      rcases Nat.lt_or_ge i l.size with h' | h'
      · omega
      · simp [Array.getElem?_eq_none h'] at hf
    have : i ∈ Region.ready md ops l := mem_ready.2 ⟨hf, ops[i], by simp [hi0], fun e he _ => by have := hb i _ (by simp [hi0]) e he; omega⟩
    rw [hr] at this
    cases this
  | succ n ih =>
    intro i hi hf hr
    have hi0 : i < ops.size := by
      rcases Nat.lt_or_ge i l.size with h' | h'
      · omega
      · simp [Array.getElem?_eq_none h'] at hf
    have : i ∈ Region.ready md ops l := mem_ready.2 ⟨hf, ops[i], by simp [hi0], fun e he _ => by
      have h1 := hb i _ (by simp [hi0]) e he
      cases h2 : l.getD e.on true with
      | true =>
        have h3 : e.on < l.size := by omega
        simpa [h3] using h2
      | false => exact absurd hr (ih e.on (by omega) h2)⟩
    rw [hr] at this
    cases this
theorem any_inv (I : Array Bool → Act → World → Prop) (hb : ∀ (i : Nat) (o : Oper), ops[i]? = some o → ∀ e ∈ o.after, e.on < i)
    (hs : ∀ (l : Array Bool) (a : Act) (w : World) (i : Nat) (o : Oper), I l a w → ops[i]? = some o → l.getD i true = false → (∀ e ∈ o.after, Region.binds md e = true → l.getD e.on false = true) → wpOp P ops Q i (fun a' w' => I (l.setIfInBounds i true) a' w') a w)
    (hd : ∀ (l : Array Bool) (a : Act) (w : World), I l a w → (∀ i : Nat, l.getD i true = true) → Q .normal a w) :
    ∀ (fuel : Nat) (l : Array Bool) (a : Act) (w : World), l.size = ops.size → unl l ≤ fuel → I l a w → wpAny P md ops Q fuel l a w := by
  intro fuel
  induction fuel with
  | zero =>
    intro l a w _ hu hI
    have h0 := unl_none (l := l) (by omega)
    refine ⟨?_, hd l a w hI h0⟩
    cases hr : Region.ready md ops l with
    | nil => rfl
    | cons i r =>
      have : i ∈ Region.ready md ops l := by rw [hr]; exact List.mem_cons_self
      have h1 := (mem_ready.1 this).1
      rw [h0 i] at h1
      cases h1
  | succ fuel ih =>
    intro l a w hl hu hI
    refine ⟨fun hr => hd l a w hI fun i => ?_, fun i hi => ?_⟩
    · cases h2 : l.getD i true with
      | true => rfl
      | false => exact absurd hr (first_ready hb hl i i (Nat.le_refl _) h2)
    · obtain ⟨hf, o, ho, ha⟩ := mem_ready.1 hi
      refine wpOp_mono (fun a' w' h' => ih _ a' w' (by simp [hl]) ?_ h') (hs l a w i o hI ho hf ha)
      have := unl_set hf
      omega
theorem region_inv {id : Nat} {a : Act} {w : World} (I : Array Bool → Act → World → Prop) (hm : P.follows .mixedOrders = true) (hb : ∀ (i : Nat) (o : Oper), ops[i]? = some o → ∀ e ∈ o.after, e.on < i)
    (h0 : I (Array.replicate ops.size false) a w.drew)
    (hs : ∀ (l : Array Bool) (a : Act) (w : World) (i : Nat) (o : Oper), I l a w → ops[i]? = some o → l.getD i true = false → (∀ e ∈ o.after, Region.binds .any e = true → l.getD e.on false = true) → wpOp P ops Q i (fun a' w' => I (l.setIfInBounds i true) a' w') a w)
    (hd : ∀ (l : Array Bool) (a : Act) (w : World), I l a w → (∀ i : Nat, l.getD i true = true) → Q .normal a w) : (Code.region id ops true).wp P Q a w :=
  wp_region_any hm (any_inv I hb hs hd _ _ _ _ (by simp) (by simp [unl]) h0)
end
structure Off (D : List Nat) (a0 a : Act) : Prop where
  defers : a.defers = a0.defers
  size : a.tmps.size = a0.tmps.size
  same : ∀ d : Nat, d ∉ D → a.tmps[d]? = a0.tmps[d]?
theorem Off.refl (D : List Nat) (a : Act) : Off D a a := ⟨rfl, rfl, fun _ _ => rfl⟩
theorem Off.put {D : List Nat} {a0 a : Act} (h : Off D a0 a) {d : Nat} (hd : d ∈ D) (v : Value) : Off D a0 (a.put (some d) v) :=
  ⟨h.defers, by simpa [Act.put] using h.size, fun k hk => by
    have : d ≠ k := fun e => hk (e ▸ hd)
    show (a.tmps.setIfInBounds d v)[k]? = _
    rw [Array.getElem?_setIfInBounds_ne this]
    exact h.same k hk⟩
def puts (a : Act) (l : List (Nat × Value)) : Act := l.foldl (fun b p => b.put (some p.1) p.2) a
theorem Off.eq {D : List Nat} : ∀ {a0 a : Act}, Off D a0 a → a = puts a0 (D.map fun d => (d, a.tmps.getD d undef)) := by
  induction D with
  | nil =>
    intro a0 a h
    cases a with
    | mk t1 d1 => cases a0 with
      | mk t0 d0 =>
        have e1 : d1 = d0 := h.defers
        have e2 : t1 = t0 := Array.ext_getElem? fun i => h.same i (by simp)
        subst e1 e2
        rfl
  | cons d D ih =>
    intro a0 a h
    refine ih (a0 := a0.put (some d) (a.tmps.getD d undef)) ⟨h.defers, by simpa [Act.put] using h.size, fun k hk => ?_⟩
    show _ = (a0.tmps.setIfInBounds d _)[k]?
    by_cases e : d = k
    · subst e
      have hs := h.size
      rcases Nat.lt_or_ge d a0.tmps.size with h' | h'
      · have h2 : d < a.tmps.size := by omega
        simp [h', h2]
      · have h2 : a.tmps.size ≤ d := by omega
        rw [Array.getElem?_eq_none h2, Array.getElem?_eq_none (by simpa using h')]
    · rw [Array.getElem?_setIfInBounds_ne e]
      exact h.same k (by simp [hk, Ne.symm e])
theorem get_put_same {a : Act} {d : Nat} {v : Value} (h : d < a.tmps.size) : (a.put (some d) v).tmps.getD d undef = v := by simp [Act.put, h]
theorem get_put_ne {a : Act} {d k : Nat} {v : Value} (h : d ≠ k) : (a.put (some d) v).tmps.getD k undef = a.tmps.getD k undef := by
  show (a.tmps.setIfInBounds d v).getD k undef = _
  simp [Array.getElem?_setIfInBounds_ne h]
theorem getD_set_other {l : Array Bool} {i j : Nat} (h : i ≠ j) (b : Bool) : (l.setIfInBounds i true).getD j b = l.getD j b := by
  simp [Array.getElem?_setIfInBounds_ne h]
end Go.Proofs.YtdllpklecdmghaaGreatDoor
/- Guarded steps of a region that draws its order. -/
namespace Go.Proofs.YtdllpklecdmghaaGreatDoor
open Go.RowKit
theorem g_all {ops : Array Oper} {S : World → Prop} {op : Oper} {a : Act} {v : Value} (hg : Region.wanted op (yielded ops a.tmps) = true) (hr : ∀ w, (execOp a.eval op).run Tryz.prog w = .ok (.value v) w) : YieldsIf Tryz.prog ops S op v a :=
  .inl ⟨hg, fun w _ => hr w⟩
theorem g_load {ops : Array Oper} {S : World → Prop} {op : Oper} {a : Act} {v : Value} (hg : Region.wanted op (yielded ops a.tmps) = true) (ty : TypeId) (x : Operand) (ho : op.op = .load ty x) (b o : Nat) (hx : a.eval x = .pointer (some ⟨b, o, none⟩))
    (hr : ∀ w, S w → (Instr.loadAt ty (.pointer (some ⟨b, o, none⟩))).run Tryz.prog w = .ok v w) : YieldsIf Tryz.prog ops S op v a :=
  .inl ⟨hg, fun w hw => by
    unfold execOp
    simp only [ho, hx, Sem.run_bind, Sem.run_pure, hr w hw, Result.andThen_ok]⟩
theorem g_skip {ops : Array Oper} {S : World → Prop} {op : Oper} {a : Act} (hg : Region.wanted op (yielded ops a.tmps) = false) : YieldsIf Tryz.prog ops S op undef a := .inr ⟨hg, rfl⟩
theorem g_call {P : Program} {ops : Array Oper} {Q : Exit → Act → World → Prop} {i : Nat} {o : Oper} {a : Act} {w : World} {f : FuncId} {args : Array Value} {K : Act → World → Prop} {R : Value → World → Prop} (ho : ops[i]? = some o) (hg : Region.wanted o (yielded ops a.tmps) = true) (hr : (execOp a.eval o).run P w = .ok (.enter f args) w) (hc : Calls P f args w fun e w' => ∃ v, e = .returned v ∧ R v w') (hK : ∀ v w', R v w' → K (a.put o.dst v) w') : wpOp P ops Q i K a w := by
  unfold wpOp
  simp only [ho]
  rw [if_pos hg]
  refine .inl ?_
  unfold Oper.wp
  rw [hr]
  refine Calls.mono hc ?_
  rintro e w' ⟨v, rfl, h⟩
  exact hK v w' h
theorem call_one {P : Program} {f : FuncId} {args : Array Value} {w : World} {x : Value} {B : World → Prop} (h : Calls P f args w fun e w' => e = .returned x ∧ B w') : Calls P f args w fun e w' => ∃ v, e = .returned v ∧ (v = x ∧ B w') :=
  h.mono (fun _ _ ⟨h1, h2⟩ => ⟨x, h1, rfl, h2⟩)
theorem lkload25 {w : World} {b : Nat} {v0 v1 v2 v3 : Value} (h0 : w.cell? ⟨b, 0, none⟩ = some v0) (h1 : w.cell? ⟨b, 1, none⟩ = some v1) (h2 : w.cell? ⟨b, 2, none⟩ = some v2) (h3 : w.cell? ⟨b, 3, none⟩ = some v3) : (Instr.loadAt 25 (.pointer (some ⟨b, 0, none⟩))).run Tryz.prog w = .ok (.agg #[v0, v1, v2, v3]) w := by go_simp
theorem lkload44 {w : World} {b : Nat} {v0 v1 : Value} (h0 : w.cell? ⟨b, 0, none⟩ = some v0) (h1 : w.cell? ⟨b, 1, none⟩ = some v1) : (Instr.loadAt 40 (.pointer (some ⟨b, 0, none⟩))).run Tryz.prog w = .ok (.agg #[v0, v1]) w := by go_simp
end Go.Proofs.YtdllpklecdmghaaGreatDoor
