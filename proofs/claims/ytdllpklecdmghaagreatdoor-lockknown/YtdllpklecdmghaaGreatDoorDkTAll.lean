import Derived.Test.YtdllpklecdmghaaGreatDoorDkQAll
import Derived.Test.YtdllpklecdmghaaGreatDoorLkVAll
/- The document's reading of a lock with parts: what lies there. -/
namespace Go.Proofs.YtdllpklecdmghaaGreatDoor
open Go.RowKit
open Lk (Lt)
theorem Kd.ltb {b : Nat → Prop} {w : World} : ∀ {d : Nat} {v : Value} {ks : List Lt}, Kd b w d v ks → Kd (fun k => b k ∧ k < w.heap.size) w d v ks
  | 0, _, _, h => h
  | d + 1, v, ks, h => by
    obtain ⟨hl, ao, cap, hv, h⟩ := h
    refine ⟨hl, ao, cap, hv, fun h0 => ?_⟩
    obtain ⟨g, o, hg, hbg, hc⟩ := h h0
    refine ⟨g, o, hg, ⟨hbg, ?_⟩, fun i hi => ?_⟩
    · obtain ⟨kv, h1, _, _⟩ := hc 0 h0
      exact World.block_lt_of_cell? w ⟨g, o + 0 * 4 + 0, none⟩ (h1 0 _ rfl)
    · obtain ⟨kv, h1, h2, h3⟩ := hc i hi
      exact ⟨kv, h1, h2, h3.ltb⟩
structure Dk (lb k d : Nat) (ks : List Lt) (v : Value) (w W : World) : Prop where
  bel : Below w.heap.size w W
  res : W.heap[w.heap.size]? = some (.cells zeroL 25 (0, 0))
  box : W.heap[lb]? = some (.cells #[.int .u8 (k : Int), .string ⟨#[]⟩, .int .i64 0, v] 25 (0, 0))
  old : w.heap.size < lb
  row : ∃ l : List (Lt × Value), l.map Prod.fst = ks ∧ W.ownsRow (lb + 1) 25 4 v l.length (rcs l) ∧ ∀ q ∈ l, Lr q.1 ∧ Kd (kb lb v W) W d q.2 q.1.kids
theorem Dk.low {lb k d : Nat} {ks : List Lt} {v : Value} {w W W' : World} (h : Dk lb k d ks v w W) (hb : Below W.heap.size W W') : Dk lb k d ks v w W' := by
  obtain ⟨l, hl, hrow, hq⟩ := h.row
  have hs := hb.size
  refine ⟨h.bel.trans (hb.mono h.bel.size), (hb.block _ (lt_of_heap h.res)).trans h.res, (hb.block _ (lt_of_heap h.box)).trans h.box, h.old, l, hl, ownsRow_of_heap hrow (fun k hk => hb.block k hk), fun q hm => ⟨(hq q hm).1, ?_⟩⟩
  exact ((hq q hm).2.low hb).base (fun g hg => ⟨hg.1, by have := hg.2.1; omega, hg.2.2⟩)
theorem Dk.kid {lb k d : Nat} {ks : List Lt} {v : Value} {w W W' : World} (h : Dk lb k d ks v w W) {kv : Value} {xs : List Lt} (hk : Kd (fun g => W.heap.size ≤ g) W' d kv xs) : Kd (kb lb v W') W' d kv xs := by
  obtain ⟨l, hl, hrow, hq⟩ := h.row
  have hb := lt_of_heap h.box
  exact hk.ltb.base (fun g hg => ⟨by have := hg.1; omega, hg.2, fun e => by have := (hrow.lt g e).2; have := hg.1; omega⟩)
theorem Dk.append {lb k d : Nat} {ks : List Lt} {v : Value} {w W : World} (h : Dk lb k d ks v w W) (L : Lt) (kv : Value) (hkv : kv.oneCell' = true) (hL : Lr L) (hk : Kd (kb lb v W) W d kv L.kids) (hn : ks.length ≤ 1000000) :
    ∃ ao cap w', (∀ ty, (Builtin.append_ #[23, 23] ty #[v, .slice (some ⟨W.heap.size, 0, none⟩) 1 1]).run Tryz.prog (W.alloc (.cells (lcs L kv) 25)) = .ok (.slice ao (ks.length + 1) cap) w') ∧ (w'.cell? ⟨lb, 3, none⟩ = some v ∧ w'.frozen? ⟨lb, 3, none⟩ = false) ∧
      Dk lb k d (ks ++ [L]) (.slice ao (ks.length + 1) cap) w (w'.setCell ⟨lb, 3, none⟩ (.slice ao (ks.length + 1) cap)) := by
  obtain ⟨l, hl, hrow, hq⟩ := h.row
  have hll : l.length = ks.length := by rw [← hl, List.length_map]
  have ho := h.old
  have hb := lt_of_heap h.box
  have hz := lt_of_heap h.res
  obtain ⟨i0, hi, hz0, hz1, hz2⟩ := info_parts lk_info25
  have hAs : (W.alloc (.cells (lcs L kv) 25)).heap.size = W.heap.size + 1 := heap_alloc_size _ _
  obtain ⟨v', w', h4, h5, h6, _, h8⟩ := run_append_own_at (P := Tryz.prog) (W.alloc (.cells (lcs L kv) 25)) (lb + 1) 23 23 25 i0 _ 4 56 Tryz.underlying23 hi hz0 hz1 hz2 rfl (by decide) v l.length (rcs l) (hrow.alloc _) ⟨W.heap.size, 0, none⟩ 1 1 (lcs L kv).toList rfl
    (fun j u hj => by
      have : (W.alloc (.cells (lcs L kv) 25)).cell? ⟨W.heap.size, j, none⟩ = some u := by
        rw [cell_of_heap (heap_alloc_new W _)]
        rw [← Array.getElem?_toList]
        exact hj
      rw [add_plain, Nat.zero_add]
      exact this) (fun u hu => by
        have hu2 : u = .int .u8 (L.kind : Int) ∨ u = St L.term ∨ u = .int .i64 L.n ∨ u = kv := by simpa [lcs] using hu
        rcases hu2 with rfl | rfl | rfl | rfl
        · rfl
        · rfl
        · rfl
        · exact hkv) (by unfold maxLen; omega) (by omega) (by rw [hAs]; omega)
  rw [← rcs_snoc l (L, kv), hll] at h5
  obtain ⟨ao, cap, rfl⟩ := row_shape h5
  have hsz := h6.size
  rw [hAs] at hsz
  have hkeep : ∀ g, g < W.heap.size → v.ownBlock ≠ some g → w'.heap[g]? = W.heap[g]? := fun g hg hne => by
    rw [h6.block g (by omega) (fun e => hne e.symm)]
    exact Below.heap_alloc W _ g hg
  have hlow : ∀ g, g ≤ lb → v.ownBlock ≠ some g := fun g hg e => by have := (hrow.lt g e).1; omega
  have hset : ∀ g, g ≠ lb → (w'.setCell ⟨lb, 3, none⟩ (.slice ao (ks.length + 1) cap)).heap[g]? = w'.heap[g]? := fun g hg => Below.heap_setCell _ _ _ _ hg
  have hss : (w'.setCell ⟨lb, 3, none⟩ (.slice ao (ks.length + 1) cap)).heap.size = w'.heap.size := by simp [World.setCell]
  have hbox : w'.heap[lb]? = some (.cells #[.int .u8 (k : Int), .string ⟨#[]⟩, .int .i64 0, v] 25 (0, 0)) := (hkeep lb hb (hlow lb (Nat.le_refl _))).trans h.box
  have hboth : ∀ g, g < W.heap.size → g ≠ lb → v.ownBlock ≠ some g → (w'.setCell ⟨lb, 3, none⟩ (.slice ao (ks.length + 1) cap)).heap[g]? = W.heap[g]? := fun g a b c => (hset g b).trans (hkeep g a c)
  have hkd : ∀ {x : Value} {xs : List Lt}, Kd (kb lb v W) W d x xs → Kd (kb lb (.slice ao (ks.length + 1) cap) (w'.setCell ⟨lb, 3, none⟩ (.slice ao (ks.length + 1) cap))) (w'.setCell ⟨lb, 3, none⟩ (.slice ao (ks.length + 1) cap)) d x xs := fun {x xs} hx => by
    have h2 : Kd (kb lb v W) (w'.setCell ⟨lb, 3, none⟩ (.slice ao (ks.length + 1) cap)) d x xs := hx.same (fun g hg hl => hboth g hl (by have := hg.1; omega) hg.2.2)
    refine h2.base (fun g hg => ⟨hg.1, by rw [hss]; have := hg.2.1; omega, fun e => ?_⟩)
    rcases h8 with h8 | h8
    · rw [h8] at e; exact hg.2.2 e
    · rw [h8, hAs] at e
      have := Option.some.inj e
      have := hg.2.1
      omega
  refine ⟨ao, cap, w', fun ty => h4, ⟨(cell_of_heap hbox 3).trans rfl, frozen_of_heap hbox 3⟩, ⟨⟨?_, ?_, ?_, ?_, fun g hg => ?_⟩, ?_, ?_, h.old, l ++ [(L, kv)], ?_, ?_, fun q hm => ?_⟩⟩
  · exact h6.os.trans h.bel.os
  · exact h6.tape.trans h.bel.tape
  · exact h6.output.trans h.bel.output
  · rw [hss]; have := h.bel.size; omega
  · have h1 := h.bel.size
    rw [hboth g (by omega) (by omega) (hlow g (by omega))]
    exact h.bel.block g hg
  · rw [hboth _ hz (by omega) (hlow _ (by omega))]; exact h.res
  · rw [heap_setCell_same hbox 3]; rfl
  · rw [List.map_append, hl]; rfl
  · have := ownsRow_setCell_at h5 3 (.slice ao (ks.length + 1) cap)
    rw [List.length_append, hll]
    exact this
  · rcases List.mem_append.mp hm with hm | hm
    · exact ⟨(hq q hm).1, hkd (hq q hm).2⟩
    · have e : q = (L, kv) := by simpa using hm
      rw [e]
      exact ⟨hL, hkd hk⟩
theorem Dk.told {lb k d : Nat} {ks : List Lt} {v : Value} {w W : World} (h : Dk lb k d ks v w W) (hn : ks.length ≤ 1000000) (v0 v1 v2 v3 : Value) : (setL W w.heap.size 0 v0 v1 v2 v3).heap[w.heap.size]? = some (.cells #[v0, v1, v2, v3] 25 (0, 0)) ∧ Below w.heap.size w (setL W w.heap.size 0 v0 v1 v2 v3) ∧ Kd (fun g => w.heap.size ≤ g) (setL W w.heap.size 0 v0 v1 v2 v3) (d + 1) v ks := by
  have ho := h.old
  refine ⟨setL_same h.res 0 v0 v1 v2 v3, setL_below h.bel (Nat.le_refl _) 0 _ _ _ _, ?_⟩
  obtain ⟨l, rfl, hrow, hq⟩ := h.row
  obtain ⟨ao, cap, hv⟩ := row_shape hrow
  rw [List.length_map] at hn
  refine ⟨by rw [List.length_map]; omega, ao, cap, by rw [List.length_map]; exact hv, fun h0 => ?_⟩
  rw [List.length_map] at h0
  rcases hrow.2 with ⟨_, h2⟩ | ⟨g, cap2, cur, e1, e2, e3, _⟩
  · omega
  · have hob : v.ownBlock = some g := by rw [e1]; rfl
    have hao : ao = some ⟨g, 0, none⟩ := by rw [hv] at e1; injection e1
    have hgl := lt_of_heap e3
    refine ⟨g, 0, hao, by show w.heap.size ≤ g; omega, fun i hi => ?_⟩
    rw [List.length_map] at hi
    refine ⟨l[i].2, fun j u hu => ?_, ?_, ?_⟩
    · rw [List.getElem_map] at hu
      have h3 := hrow.cells hob (i * 4 + j) u (rcs_at l i hi j u hu)
      rw [add_plain, Nat.zero_add] at h3
      rw [Nat.zero_add, ← h3]
      exact World.cell?_of_block (setL_other _ _ _ _ _ _ _ (by show g ≠ w.heap.size; omega))
    · rw [List.getElem_map]
      exact (hq _ (List.getElem_mem hi)).1
    · rw [List.getElem_map]
      have h4 := (hq _ (List.getElem_mem hi)).2
      have h5 : Kd (kb lb v W) (setL W w.heap.size 0 v0 v1 v2 v3) d l[i].2 l[i].1.kids := h4.same (fun g hg _ => setL_other _ _ _ _ _ _ _ (by have := hg.1; omega))
      exact h5.base (fun g hg => by have := hg.1; show w.heap.size ≤ g; omega)
theorem Dk.start {k d lb : Nat} {w W : World} (hb : Below w.heap.size w W) (hr : W.heap[w.heap.size]? = some (.cells zeroL 25 (0, 0))) (hx : W.heap[lb]? = some (.cells #[.int .u8 (k : Int), .string ⟨#[]⟩, .int .i64 0, .slice none 0 0] 25 (0, 0))) (ho : w.heap.size < lb) : Dk lb k d [] (.slice none 0 0) w W :=
  ⟨hb, hr, hx, ho, [], rfl, World.ownsRow_nil _ _ _ _, fun q hq => absurd hq (by simp)⟩
namespace Lk
theorem dnGo_ten {e : UInt8} : ∀ (f n i : Nat) (s : Bs) (m : Nat) (r : Bs), dnGo e f n i s = some (m, r) → n < 10 ^ i → m < 10 ^ (i + f)
  | 0, _, _, _, _, _, h, _ => by simp [dnGo] at h
  | _ + 1, _, _, [], _, _, h, _ => by simp [dnGo] at h
  | f + 1, n, i, c :: l, m, r, h, hn => by
    rw [dnGo] at h
    split at h
    · simp at h
      have : 10 ^ i ≤ 10 ^ (i + (f + 1)) := Nat.pow_le_pow_right (by decide) (by omega)
      omega
    · split at h
      · cases h
      · rename_i h2
        have h3 : 10 * n + (c.toNat - 48) < 10 ^ (i + 1) := by
          rw [Nat.pow_succ]
          omega
        have := dnGo_ten f _ _ l m r h h3
        rw [show i + (f + 1) = i + 1 + f by omega]
        exact this
theorem dn_ten {e : UInt8} {s : Bs} {m : Nat} {r : Bs} (h : dn e s = some (m, r)) : m < 100000000000 := by
  have := dnGo_ten 11 0 0 s m r h (by decide)
  simpa using this
theorem dn_suf {e : UInt8} {s r : Bs} {n : Nat} (h : dn e s = some (n, r)) : r <:+ s := ⟨Lib.decDigits n ++ [e], by rw [dn_inv h]; simp⟩
theorem dreadK_suf {f : Nat → Bs → Option (Lt × Bs × Nat)} (hf : ∀ q s l y m, f q s = some (l, y, m) → y <:+ s ∧ m ≤ q ∧ Lr l) : ∀ (n p : Nat) (s : Bs) (ks : List Lt) (y : Bs) (q : Nat), dreadK f n p s = some (ks, y, q) → y <:+ s ∧ q ≤ p
  | 0, p, s, ks, y, q, h => by rw [dreadK] at h; cases h; exact ⟨List.suffix_refl _, Nat.le_refl _⟩
  | n + 1, p, s, ks, y, q, h => by
    rw [dreadK] at h
    split at h
    · cases h
    · rename_i ks1 y1 q1 h1
      split at h
      · cases h
      · rename_i l1 z1 m1 h2
        cases h
        obtain ⟨a1, a2⟩ := dreadK_suf hf n p s _ _ _ h1
        obtain ⟨b1, b2, _⟩ := hf _ _ _ _ _ h2
        exact ⟨b1.trans a1, by omega⟩
theorem dreadK_none {f : Nat → Bs → Option (Lt × Bs × Nat)} {p : Nat} {s : Bs} {i : Nat} (h : dreadK f i p s = none) : ∀ n, i ≤ n → dreadK f n p s = none := fun n hn => by
  induction hn with
  | refl => exact h
  | step _ ih => rw [dreadK, ih]
theorem dread_suf : ∀ (g p : Nat) (s : Bs) (l : Lt) (y : Bs) (q : Nat), dread g p s = some (l, y, q) → y <:+ s ∧ q ≤ p ∧ Lr l
  | 0, p, s, l, y, q, h => by rw [dread] at h; cases h
  | g + 1, p, [], l, y, q, h => by rw [dread] at h; cases h
  | g + 1, p, c :: r, l, y, q, h => by
    have ihg := dread_suf g
    rw [dread] at h
    have hcr : r <:+ c :: r := List.suffix_cons c r
    split at h
    · cases h
    · split at h
      · rename_i h12
        cases hd : dterm r with
        | none => rw [hd] at h; cases h
        | some i =>
          rw [hd] at h
          cases h
          have hcut := dterm_cut hd
          exact ⟨(List.drop_suffix i r).trans hcr, by omega, ⟨by show Sc.kindOf c < 256; omega, by show (r.take i).length ≤ _; rw [List.length_take]; have := hcut.2.2.1; omega, by show _ ≤ (0 : Int) ∧ (0 : Int) < _; decide⟩⟩
      · split at h
        · rename_i h34
          cases hd : dn 59 r with
          | none => rw [hd] at h; cases h
          | some x =>
            obtain ⟨n, x⟩ := x
            rw [hd] at h
            cases h
            have := dn_ten hd
            exact ⟨(dn_suf hd).trans hcr, by omega, ⟨by show Sc.kindOf c < 256; omega, by show 0 ≤ _; omega, by show _ ≤ ((n : Nat) : Int) ∧ ((n : Nat) : Int) < _; omega⟩⟩
        · split at h
          · rename_i h56
            cases hd : dn 58 r with
            | none => rw [hd] at h; cases h
            | some x =>
              obtain ⟨n, x⟩ := x
              rw [hd] at h
              simp only at h
              split at h
              · cases h
              · split at h
                · cases h
                · rename_i ks y1 q1 h1
                  cases h
                  obtain ⟨a1, a2⟩ := dreadK_suf ihg n (p - 1) x _ _ _ h1
                  exact ⟨(a1.trans (dn_suf hd)).trans hcr, by omega, ⟨by show Sc.kindOf c < 256; omega, by show 0 ≤ _; omega, by show _ ≤ (0 : Int) ∧ (0 : Int) < _; decide⟩⟩
          · cases h
theorem suf_drop {y s : Bs} (h : y <:+ s) : s.drop (s.length - y.length) = y ∧ y.length ≤ s.length := ⟨(List.suffix_iff_eq_drop.1 h).symm, h.length_le⟩
end Lk
end Go.Proofs.YtdllpklecdmghaaGreatDoor
/- The document's reading of a lock with parts. -/
namespace Go.Proofs.YtdllpklecdmghaaGreatDoor
open Go.RowKit
open Lk (Lt)
set_option maxHeartbeats 16000000 in
set_option maxRecDepth 100000 in
theorem dread_p5 (s : Bs) (hs : s.length ≤ 1000000) (g : Nat) (ih : ∀ (q a : Nat) (w : World), q < g → q ≤ 1000 → a ≤ s.length → Calls Tryz.prog 46 #[St s, .int .i64 (a : Int), .int .i64 (q : Int)] w (DrE s.length g w (Lk.dread g q (s.drop a)))) (a p : Nat) (hp0 : 0 < p) (hp : p ≤ 1000) (hpg : p < g + 1) (r : Bs) (ha : a < s.length) (hc : s[a] = 38) (hX : s.drop (a + 1) = r) (w : World) (RES : Option (Lt × Bs × Nat)) (hRES : RES = match Lk.dn 58 r with
      | none => none
      | some (n, x) => if 8 < n then none else match Lk.dreadK (Lk.dread g) n (p - 1) x with
        | none => none
        | some (ks, y, q) => some (.mk 5 [] 0 ks, y, q)) : Calls Tryz.prog 46 #[St s, .int .i64 (a : Int), .int .i64 (p : Int)] w (DrE s.length (g + 1) w RES) := by
  have hsz : (⟨s.toArray⟩ : ByteArray).size = s.length := st_size s
  have hix : ∀ (W : World), (Instr.index 9 (St s) (.int .i64 (a : Int))).run Tryz.prog W = .ok (.int .u8 38) W := fun W => by rw [txt_index s .i64 a ha W, hc]; rfl
  obtain ⟨a1, ha1⟩ : ∃ a1, a1 = a + 1 := ⟨_, rfl⟩
  have HT : Hid (∀ W, Calls Tryz.prog 66 #[St s, .int .i64 (a1 : Int), .int .u8 58] W fun en w' => en = .returned (.tuple #[.int .i64 (dnRes s.length (Lk.dn 58 r)).1, .int .i64 (dnRes s.length (Lk.dn 58 r)).2]) ∧ w' = W) := hid (fun W => by
    have h := dnum_any s a1 (by omega) 58 (by decide) (by omega) W
    rw [ha1, hX, ← ha1] at h
    exact h)
  have HRS : Hid (r <:+ s) := hid (by rw [← hX]; exact List.drop_suffix _ _)
  have HIH : Hid (∀ (q : Nat) (y : Bs) (W : World), q < g → q ≤ 1000 → y <:+ s → Calls Tryz.prog 46 #[St s, .int .i64 ((s.length - y.length : Nat) : Int), .int .i64 (q : Int)] W (DrE s.length g W (Lk.dread g q y))) := hid (fun q y W h1 h2 h3 => by
    have h := ih q (s.length - y.length) W h1 h2 (by omega)
    rw [(Lk.suf_drop h3).1] at h
    exact h)
  obtain ⟨L, hL⟩ : ∃ L, L = s.length := ⟨_, rfl⟩
  rw [← hL] at hsz ha hs HT HIH ⊢
  obtain ⟨i1, i2, i3, i4, i5⟩ := dr_ints (a := a) (p := p) ha1 ha (by omega : L ≤ 1000000) hp0 hp
  obtain ⟨wx, hwx⟩ : ∃ wx, wx = (w.alloc (.cells zeroL 25)).alloc (.cells #[.int .u8 5, .string ⟨#[]⟩, .int .i64 0, .slice none 0 0] 25) := ⟨_, rfl⟩
  have hst : Dk (w.heap.size + 1) 5 g [] (.slice none 0 0) w wx := by
    have e1 : (w.alloc (.cells zeroL 25)).heap.size = w.heap.size + 1 := by simp
    have h1 := heap_alloc_new w (.cells zeroL 25)
    have b1 := below_al w (.cells zeroL 25)
    generalize w.alloc (.cells zeroL 25) = wa at *
    have h2 := heap_alloc_new wa (.cells #[.int .u8 5, .string ⟨#[]⟩, .int .i64 0, .slice none 0 0] 25)
    have b2 := below_al wa (.cells #[.int .u8 5, .string ⟨#[]⟩, .int .i64 0, .slice none 0 0] 25)
    rw [e1] at h2
    have h3 := (b2.block _ (lt_of_heap h1)).trans h1
    have b3 := b1.trans (b2.mono (by omega))
    rw [hwx]
    exact Dk.start b3 h3 h2 (by omega)
  have HST := hid hst
  have HP : Hid (p - 1 < g ∧ p ≤ 1000) := hid ⟨by omega, hp⟩
  have HLS := hid hs
  have z0 := (cell_of_heap hst.res 0).trans (rfl : _ = some (Value.int .u8 0))
  have z1 := (cell_of_heap hst.res 1).trans (rfl : _ = some (Value.string ⟨#[]⟩))
  have z2 := (cell_of_heap hst.res 2).trans (rfl : _ = some (Value.int .i64 0))
  have z3 := (cell_of_heap hst.res 3).trans (rfl : _ = some (Value.slice none 0 0))
  have zf : ∀ j, wx.frozen? ⟨w.heap.size, j, none⟩ = false := fun j => frozen_of_heap hst.res j
  have HZ0 := hid z0
  have HZ1 := hid z1
  have HZ2 := hid z2
  have HZ3 := hid z3
  have HZF := hid zf
  have HTOLD := hid (fun v0 v1 v2 v3 => hst.told (by simp) v0 v1 v2 v3)
  have HLL := hid hL
  clear hL hX hc hs ha hp hp0 ha1 hst ih hpg z0 z1 z2 z3 zf
  obtain ⟨D, hD⟩ : ∃ D, D = Lk.dn 58 r := ⟨_, rfl⟩
  rw [← hD] at HT hRES
  have HDD := hid hD
  have HR0 := hid hRES
  clear hD hRES
  go_enter Tryz.func46, Tryz.ntmps46
  go_wp2_with fail
  rw [show (#[Value.int .u8 0, .string ⟨#[]⟩, .int .i64 0, .slice none 0 0] : Array Value) = zeroL from rfl, ← hwx]
  clear hwx hix
  refine (HT.out wx).mono ?_
  rintro e w1 ⟨rfl, rfl⟩
  clear HT
  have q0 := HZ0.out
  have q1 := HZ1.out
  have q2 := HZ2.out
  have q3 := HZ3.out
  have qf := HZF.out
  cases D with
  | none =>
    rw [show dnRes L none = (0, -1) from rfl]
    go_wp2_with fail
    refine bodyPost_ret (v := .tuple #[.agg zeroL, .int .i64 (-1), .int .i64 0]) (ret_lock3 Tryz.results46 rfl rfl rfl (HTOLD.out _ _ _ _).1) rfl ?_
    rw [show RES = none from HR0.out]
    exact ⟨0, 0, rfl, (HTOLD.out _ _ _ _).2.1⟩
  | some dd =>
    obtain ⟨n, x⟩ := dd
    have hxs : x <:+ s := (Lk.dn_suf HDD.out.symm).trans HRS.out
    obtain ⟨E, hE⟩ : ∃ E, E = L - x.length := ⟨_, rfl⟩
    rw [show dnRes L (some (n, x)) = ((n : Int), (E : Int)) by rw [hE]; rfl]
    have hE0 : ¬ (E : Int) < 0 := by omega
    have HR1 : Hid (RES = if 8 < n then none else match Lk.dreadK (Lk.dread g) n (p - 1) x with | none => none | some (ks, y, q) => some (.mk 5 [] 0 ks, y, q)) := hid HR0.out
    clear HR0
    by_cases h8 : 8 < n
    · have h8i : (8 : Int) < (n : Int) := by omega
      have HN : Hid (RES = none) := hid (by rw [HR1.out, if_pos h8])
      clear h8 hE
      go_wp2_with fail
      refine bodyPost_ret (v := .tuple #[.agg zeroL, .int .i64 (-1), .int .i64 0]) (ret_lock3 Tryz.results46 rfl rfl rfl (HTOLD.out _ _ _ _).1) rfl ?_
      rw [HN.out]
      exact ⟨0, 0, rfl, (HTOLD.out _ _ _ _).2.1⟩
    · have h8i : ¬ (8 : Int) < (n : Int) := by omega
      have HRES : Hid (RES = (match Lk.dreadK (Lk.dread g) n (p - 1) x with | none => none | some (ks, y, q) => some (.mk 5 [] 0 ks, y, q))) := hid (by rw [HR1.out, if_neg h8])
      clear HR1
      have H8 : Hid (n ≤ 8) := hid (by omega)
      have HS0 : Hid (x <:+ s ∧ E = L - x.length) := hid ⟨hxs, hE⟩
      clear h8 hE hxs q0 q1 q2 q3 qf
      go_wp2_with fail
      go_loopg [2, 17, 18] n (fun gg v2 v17 v18 wr => ∃ (i q E : Nat) (ks : List Lt) (y : Bs) (v : Value), gg = n - i ∧ i ≤ n ∧ v2 = .int .i64 (q : Int) ∧ v17 = .int .i64 (E : Int) ∧ v18 = .int .i64 (i : Int) ∧ E = L - y.length ∧ Lk.dreadK (Lk.dread g) i (p - 1) x = some (ks, y, q) ∧ y <:+ s ∧ q ≤ p - 1 ∧ Dk (w.heap.size + 1) 5 g ks v w wr)
      case atStart => exact ⟨0, p - 1, E, [], x, .slice none 0 0, rfl, Nat.zero_le _, rfl, rfl, rfl, HS0.out.2, rfl, HS0.out.1, Nat.le_refl _, HST.out⟩
      case round =>
        obtain ⟨i, q, E, ks, y, v, rfl, hi, rfl, rfl, rfl, hE, hdk, hys, hq, hDk⟩ := hrel
        have hkl := Lk.dreadK_len hdk
        obtain ⟨_, _, hrow, _⟩ := hDk.row
        obtain ⟨va, vc, rfl⟩ : ∃ va vc, v = .slice va ks.length vc := by
          obtain ⟨l, hl, hr, _⟩ := hDk.row
          obtain ⟨va, vc, e⟩ := row_shape hr
          exact ⟨va, vc, by rw [e, ← hl, List.length_map]⟩
        clear hrow
        by_cases him : i < n
        · have hi0 : (0 : Int) ≤ (i : Int) := Int.natCast_nonneg _
          have hin : (i : Int) < (n : Int) := by omega
          have hiw : IntKind.i64.wrap ((i : Int) + 1) = ((i + 1 : Nat) : Int) := by rw [IntKind.wrap_i64]; have := H8.out; omega
          have HCA : Hid (Calls Tryz.prog 46 #[St s, .int .i64 (E : Int), .int .i64 (q : Int)] wr (DrE L g wr (Lk.dread g q y))) := hid (by rw [hE]; exact HIH.out q y wr (by have := HP.out; omega) (by have := HP.out; omega) hys)
          have HDK := hid hDk
          have HI := hid him
          have HKL := hid hkl
          cases hdr : Lk.dread g q y with
          | none =>
            have HN : Hid (RES = none) := hid (by
              have h1 : Lk.dreadK (Lk.dread g) (i + 1) (p - 1) x = none := by rw [Lk.dreadK, hdk]; simp only; rw [hdr]
              rw [HRES.out, Lk.dreadK_none h1 n him])
            rw [hdr] at HCA
            clear hdr hdk hys hq hDk hE hkl him hi
            go_wp2_with fail
            refine HCA.out.mono ?_
            rintro e w2 ⟨kk, qq, rfl, hb⟩
            have hD2 := (HDK.out.low hb).low (below_al w2 (.cells #[.int .u8 (kk : Int), St [], .int .i64 0, .slice none 0 0] 25))
            have q0 := (cell_of_heap hD2.res 0).trans (rfl : _ = some (Value.int .u8 0))
            have q1 := (cell_of_heap hD2.res 1).trans (rfl : _ = some (Value.string ⟨#[]⟩))
            have q2 := (cell_of_heap hD2.res 2).trans (rfl : _ = some (Value.int .i64 0))
            have q3 := (cell_of_heap hD2.res 3).trans (rfl : _ = some (Value.slice none 0 0))
            have qf : ∀ j, (w2.alloc (.cells #[.int .u8 (kk : Int), St [], .int .i64 0, .slice none 0 0] 25)).frozen? ⟨w.heap.size, j, none⟩ = false := fun j => frozen_of_heap hD2.res j
            have HTO := hid (fun v0 v1 v2 v3 => hD2.told (by have := HKL.out; have := H8.out; have := HI.out; omega) v0 v1 v2 v3)
            clear hb hD2 HCA
            go_wp2_with fail
            refine bodyPost_ret (v := .tuple #[.agg zeroL, .int .i64 (-1), .int .i64 0]) (ret_lock3 Tryz.results46 rfl rfl rfl (HTO.out _ _ _ _).1) rfl ?_
            rw [HN.out]
            exact ⟨0, 0, rfl, (HTO.out _ _ _ _).2.1⟩
          | some R3 =>
            obtain ⟨l, y2, q2'⟩ := R3
            obtain ⟨hs2, hq2, hlr⟩ := Lk.dread_suf g q y l y2 q2' hdr
            have HNX : Hid (Lk.dreadK (Lk.dread g) (i + 1) (p - 1) x = some (ks ++ [l], y2, q2')) := hid (by rw [Lk.dreadK, hdk]; simp only; rw [hdr])
            rw [hdr] at HCA
            have HYS : Hid (y2 <:+ s ∧ q2' ≤ p - 1) := hid ⟨hs2.trans hys, by omega⟩
            have HLR := hid hlr
            obtain ⟨E2, hE2⟩ : ∃ E2, E2 = L - y2.length := ⟨_, rfl⟩
            have HE2 := hid hE2
            have HCB : Hid (Calls Tryz.prog 46 #[St s, .int .i64 (E : Int), .int .i64 (q : Int)] wr fun e w' => ∃ a3 c3, e = .returned (.tuple #[.agg #[.int .u8 (l.kind : Int), St l.term, .int .i64 l.n, .slice a3 l.kids.length c3], .int .i64 (E2 : Int), .int .i64 (q2' : Int)]) ∧ (Kd (fun h => wr.heap.size ≤ h) w' g (.slice a3 l.kids.length c3) l.kids ∧ Below wr.heap.size wr w')) := hid (HCA.out.mono (fun e w' ⟨kv, h1, h2, h3⟩ => by
              obtain ⟨_, a3, c3, rfl⟩ := h2.shape
              rw [← hE2] at h1
              exact ⟨a3, c3, h1, h2, h3⟩))
            have hE20 : ¬ (E2 : Int) < 0 := by omega
            clear hdr hdk hys hq hDk hE hkl him hi HCA hs2 hq2 hlr hE2
            go_wp2_with fail
            refine HCB.out.mono ?_
            rintro e w2 ⟨a3, c3, rfl, hkd, hb⟩
            have hD2 := (HDK.out.low hb).low (below_al w2 (.cells #[.int .u8 (l.kind : Int), St l.term, .int .i64 l.n, .slice a3 l.kids.length c3] 25))
            have hsw : (w2.alloc (.cells #[.int .u8 (l.kind : Int), St l.term, .int .i64 l.n, .slice a3 l.kids.length c3] 25)).heap.size = w2.heap.size + 1 := by simp
            have hk2 : Kd (kb (w.heap.size + 1) (.slice va ks.length vc) (w2.alloc (.cells #[.int .u8 (l.kind : Int), St l.term, .int .i64 l.n, .slice a3 l.kids.length c3] 25))) (w2.alloc (.cells #[.int .u8 (l.kind : Int), St l.term, .int .i64 l.n, .slice a3 l.kids.length c3] 25)) g (.slice a3 l.kids.length c3) l.kids := ((HDK.out.kid hkd).low (below_al w2 _)).base (fun h hh => ⟨hh.1, by rw [hsw]; have := hh.2.1; omega, hh.2.2⟩)
            obtain ⟨ao, cap, w4, hrun, hcf, hD4⟩ := hD2.append l (.slice a3 l.kids.length c3) rfl HLR.out hk2 (by have := HKL.out; have := H8.out; have := HI.out; omega)
            rw [hsw] at hrun
            have HRUN : Hid (∀ ty, (Builtin.append_ #[23, 23] ty #[.slice va ks.length vc, .slice (some ⟨w2.heap.size + 1, 0, none⟩) 1 1]).run Tryz.prog ((w2.alloc (.cells #[.int .u8 (l.kind : Int), St l.term, .int .i64 l.n, .slice a3 l.kids.length c3] 25)).alloc (.cells #[.int .u8 (l.kind : Int), St l.term, .int .i64 l.n, .slice a3 l.kids.length c3] 25)) = .ok (.slice ao (ks.length + 1) cap) w4) := hid hrun
            have HD4 := hid hD4
            obtain ⟨f3, ff⟩ := hcf
            have c3' : (w2.alloc (.cells #[.int .u8 (l.kind : Int), St l.term, .int .i64 l.n, .slice a3 l.kids.length c3] 25)).cell? ⟨w.heap.size + 1, 3, none⟩ = some (.slice va ks.length vc) := (cell_of_heap hD2.box 3).trans rfl
            have hbx : (w2.alloc (.cells #[.int .u8 (l.kind : Int), St l.term, .int .i64 l.n, .slice a3 l.kids.length c3] 25)).heap[w2.heap.size]? = some (.cells #[.int .u8 (l.kind : Int), St l.term, .int .i64 l.n, .slice a3 l.kids.length c3] 25 (0, 0)) := heap_alloc_new w2 _
            have x0 : (w2.alloc (.cells #[.int .u8 (l.kind : Int), St l.term, .int .i64 l.n, .slice a3 l.kids.length c3] 25)).cell? ⟨w2.heap.size, 0, none⟩ = some (.int .u8 (l.kind : Int)) := (cell_of_heap hbx 0).trans rfl
            have x1 : (w2.alloc (.cells #[.int .u8 (l.kind : Int), St l.term, .int .i64 l.n, .slice a3 l.kids.length c3] 25)).cell? ⟨w2.heap.size, 1, none⟩ = some (St l.term) := (cell_of_heap hbx 1).trans rfl
            have x2 : (w2.alloc (.cells #[.int .u8 (l.kind : Int), St l.term, .int .i64 l.n, .slice a3 l.kids.length c3] 25)).cell? ⟨w2.heap.size, 2, none⟩ = some (.int .i64 l.n) := (cell_of_heap hbx 2).trans rfl
            have x3 : (w2.alloc (.cells #[.int .u8 (l.kind : Int), St l.term, .int .i64 l.n, .slice a3 l.kids.length c3] 25)).cell? ⟨w2.heap.size, 3, none⟩ = some (.slice a3 l.kids.length c3) := (cell_of_heap hbx 3).trans rfl
            have HK1 : Hid (ks.length + 1 = (ks ++ [l]).length) := hid (by simp)
            clear hkd hb hD2 hk2 hrun hD4 hbx HCB hsw
            go_wp2_with (first | (at_builtin; refine wpList_append_run rfl (.tmp 138) (.tmp 140) 23 23 rfl _ _ (.slice ao (ks.length + 1) cap) w4 rfl rfl HRUN.out ?_) | fail)
            go_roundg (n - (i + 1))
            case measure => have := HI.out; omega
            case rel => exact ⟨i + 1, q2', E2, ks ++ [l], y2, .slice ao (ks.length + 1) cap, rfl, HI.out, rfl, rfl, rfl, HE2.out, HNX.out, HYS.out.1, HYS.out.2, HD4.out⟩
        · have hie : i = n := by omega
          subst hie
          have hin : ¬ (i : Int) < (i : Int) := by omega
          have HN : Hid (RES = some (.mk 5 [] 0 ks, y, q)) := hid (by rw [HRES.out, hdk])
          obtain ⟨t1, t2, t3⟩ := hDk.told (by have := H8.out; omega) (.int .u8 5) (.string ⟨#[]⟩) (.int .i64 0) (.slice va ks.length vc)
          have HT1 := hid t1
          have HT2 := hid t2
          have HT3 := hid t3
          have HEE := hid hE
          have q0 := (cell_of_heap hDk.res 0).trans (rfl : _ = some (Value.int .u8 0))
          have q1 := (cell_of_heap hDk.res 1).trans (rfl : _ = some (Value.string ⟨#[]⟩))
          have q2 := (cell_of_heap hDk.res 2).trans (rfl : _ = some (Value.int .i64 0))
          have q3 := (cell_of_heap hDk.res 3).trans (rfl : _ = some (Value.slice none 0 0))
          have qf : ∀ j, wr.frozen? ⟨w.heap.size, j, none⟩ = false := fun j => frozen_of_heap hDk.res j
          have b0 := (cell_of_heap hDk.box 0).trans (rfl : _ = some (Value.int .u8 5))
          have b1 := (cell_of_heap hDk.box 1).trans (rfl : _ = some (Value.string ⟨#[]⟩))
          have b2 := (cell_of_heap hDk.box 2).trans (rfl : _ = some (Value.int .i64 0))
          have b3 := (cell_of_heap hDk.box 3).trans (rfl : _ = some (Value.slice va ks.length vc))
          clear hdk hys hq hDk hE hkl him hi t1 t2 t3
          go_wp2_with fail
          refine bodyPost_ret (v := .tuple #[.agg #[.int .u8 5, .string ⟨#[]⟩, .int .i64 0, .slice va ks.length vc], .int .i64 (E : Int), .int .i64 (q : Int)]) (ret_lock3 Tryz.results46 rfl rfl rfl HT1.out) rfl ?_
          rw [HN.out]
          exact ⟨.slice va ks.length vc, by rw [← HEE.out]; rfl, HT3.out, HT2.out⟩
set_option maxHeartbeats 16000000 in
set_option maxRecDepth 100000 in
theorem dread_p6 (s : Bs) (hs : s.length ≤ 1000000) (g : Nat) (ih : ∀ (q a : Nat) (w : World), q < g → q ≤ 1000 → a ≤ s.length → Calls Tryz.prog 46 #[St s, .int .i64 (a : Int), .int .i64 (q : Int)] w (DrE s.length g w (Lk.dread g q (s.drop a)))) (a p : Nat) (hp0 : 0 < p) (hp : p ≤ 1000) (hpg : p < g + 1) (r : Bs) (ha : a < s.length) (hc : s[a] = 124) (hX : s.drop (a + 1) = r) (w : World) (RES : Option (Lt × Bs × Nat)) (hRES : RES = match Lk.dn 58 r with
      | none => none
      | some (n, x) => if 8 < n then none else match Lk.dreadK (Lk.dread g) n (p - 1) x with
        | none => none
        | some (ks, y, q) => some (.mk 6 [] 0 ks, y, q)) : Calls Tryz.prog 46 #[St s, .int .i64 (a : Int), .int .i64 (p : Int)] w (DrE s.length (g + 1) w RES) := by
  have hsz : (⟨s.toArray⟩ : ByteArray).size = s.length := st_size s
  have hix : ∀ (W : World), (Instr.index 9 (St s) (.int .i64 (a : Int))).run Tryz.prog W = .ok (.int .u8 124) W := fun W => by rw [txt_index s .i64 a ha W, hc]; rfl
  obtain ⟨a1, ha1⟩ : ∃ a1, a1 = a + 1 := ⟨_, rfl⟩
  have HT : Hid (∀ W, Calls Tryz.prog 66 #[St s, .int .i64 (a1 : Int), .int .u8 58] W fun en w' => en = .returned (.tuple #[.int .i64 (dnRes s.length (Lk.dn 58 r)).1, .int .i64 (dnRes s.length (Lk.dn 58 r)).2]) ∧ w' = W) := hid (fun W => by
    have h := dnum_any s a1 (by omega) 58 (by decide) (by omega) W
    rw [ha1, hX, ← ha1] at h
    exact h)
  have HRS : Hid (r <:+ s) := hid (by rw [← hX]; exact List.drop_suffix _ _)
  have HIH : Hid (∀ (q : Nat) (y : Bs) (W : World), q < g → q ≤ 1000 → y <:+ s → Calls Tryz.prog 46 #[St s, .int .i64 ((s.length - y.length : Nat) : Int), .int .i64 (q : Int)] W (DrE s.length g W (Lk.dread g q y))) := hid (fun q y W h1 h2 h3 => by
    have h := ih q (s.length - y.length) W h1 h2 (by omega)
    rw [(Lk.suf_drop h3).1] at h
    exact h)
  obtain ⟨L, hL⟩ : ∃ L, L = s.length := ⟨_, rfl⟩
  rw [← hL] at hsz ha hs HT HIH ⊢
  obtain ⟨i1, i2, i3, i4, i5⟩ := dr_ints (a := a) (p := p) ha1 ha (by omega : L ≤ 1000000) hp0 hp
  obtain ⟨wx, hwx⟩ : ∃ wx, wx = (w.alloc (.cells zeroL 25)).alloc (.cells #[.int .u8 6, .string ⟨#[]⟩, .int .i64 0, .slice none 0 0] 25) := ⟨_, rfl⟩
  have hst : Dk (w.heap.size + 1) 6 g [] (.slice none 0 0) w wx := by
    have e1 : (w.alloc (.cells zeroL 25)).heap.size = w.heap.size + 1 := by simp
    have h1 := heap_alloc_new w (.cells zeroL 25)
    have b1 := below_al w (.cells zeroL 25)
    generalize w.alloc (.cells zeroL 25) = wa at *
    have h2 := heap_alloc_new wa (.cells #[.int .u8 6, .string ⟨#[]⟩, .int .i64 0, .slice none 0 0] 25)
    have b2 := below_al wa (.cells #[.int .u8 6, .string ⟨#[]⟩, .int .i64 0, .slice none 0 0] 25)
    rw [e1] at h2
    have h3 := (b2.block _ (lt_of_heap h1)).trans h1
    have b3 := b1.trans (b2.mono (by omega))
    rw [hwx]
    exact Dk.start b3 h3 h2 (by omega)
  have HST := hid hst
  have HP : Hid (p - 1 < g ∧ p ≤ 1000) := hid ⟨by omega, hp⟩
  have HLS := hid hs
  have z0 := (cell_of_heap hst.res 0).trans (rfl : _ = some (Value.int .u8 0))
  have z1 := (cell_of_heap hst.res 1).trans (rfl : _ = some (Value.string ⟨#[]⟩))
  have z2 := (cell_of_heap hst.res 2).trans (rfl : _ = some (Value.int .i64 0))
  have z3 := (cell_of_heap hst.res 3).trans (rfl : _ = some (Value.slice none 0 0))
  have zf : ∀ j, wx.frozen? ⟨w.heap.size, j, none⟩ = false := fun j => frozen_of_heap hst.res j
  have HZ0 := hid z0
  have HZ1 := hid z1
  have HZ2 := hid z2
  have HZ3 := hid z3
  have HZF := hid zf
  have HTOLD := hid (fun v0 v1 v2 v3 => hst.told (by simp) v0 v1 v2 v3)
  have HLL := hid hL
  clear hL hX hc hs ha hp hp0 ha1 hst ih hpg z0 z1 z2 z3 zf
  obtain ⟨D, hD⟩ : ∃ D, D = Lk.dn 58 r := ⟨_, rfl⟩
  rw [← hD] at HT hRES
  have HDD := hid hD
  have HR0 := hid hRES
  clear hD hRES
  go_enter Tryz.func46, Tryz.ntmps46
  go_wp2_with fail
  rw [show (#[Value.int .u8 0, .string ⟨#[]⟩, .int .i64 0, .slice none 0 0] : Array Value) = zeroL from rfl, ← hwx]
  clear hwx hix
  refine (HT.out wx).mono ?_
  rintro e w1 ⟨rfl, rfl⟩
  clear HT
  have q0 := HZ0.out
  have q1 := HZ1.out
  have q2 := HZ2.out
  have q3 := HZ3.out
  have qf := HZF.out
  cases D with
  | none =>
    rw [show dnRes L none = (0, -1) from rfl]
    go_wp2_with fail
    refine bodyPost_ret (v := .tuple #[.agg zeroL, .int .i64 (-1), .int .i64 0]) (ret_lock3 Tryz.results46 rfl rfl rfl (HTOLD.out _ _ _ _).1) rfl ?_
    rw [show RES = none from HR0.out]
    exact ⟨0, 0, rfl, (HTOLD.out _ _ _ _).2.1⟩
  | some dd =>
    obtain ⟨n, x⟩ := dd
    have hxs : x <:+ s := (Lk.dn_suf HDD.out.symm).trans HRS.out
    obtain ⟨E, hE⟩ : ∃ E, E = L - x.length := ⟨_, rfl⟩
    rw [show dnRes L (some (n, x)) = ((n : Int), (E : Int)) by rw [hE]; rfl]
    have hE0 : ¬ (E : Int) < 0 := by omega
    have HR1 : Hid (RES = if 8 < n then none else match Lk.dreadK (Lk.dread g) n (p - 1) x with | none => none | some (ks, y, q) => some (.mk 6 [] 0 ks, y, q)) := hid HR0.out
    clear HR0
    by_cases h8 : 8 < n
    · have h8i : (8 : Int) < (n : Int) := by omega
      have HN : Hid (RES = none) := hid (by rw [HR1.out, if_pos h8])
      clear h8 hE
      go_wp2_with fail
      refine bodyPost_ret (v := .tuple #[.agg zeroL, .int .i64 (-1), .int .i64 0]) (ret_lock3 Tryz.results46 rfl rfl rfl (HTOLD.out _ _ _ _).1) rfl ?_
      rw [HN.out]
      exact ⟨0, 0, rfl, (HTOLD.out _ _ _ _).2.1⟩
    · have h8i : ¬ (8 : Int) < (n : Int) := by omega
      have HRES : Hid (RES = (match Lk.dreadK (Lk.dread g) n (p - 1) x with | none => none | some (ks, y, q) => some (.mk 6 [] 0 ks, y, q))) := hid (by rw [HR1.out, if_neg h8])
      clear HR1
      have H8 : Hid (n ≤ 8) := hid (by omega)
      have HS0 : Hid (x <:+ s ∧ E = L - x.length) := hid ⟨hxs, hE⟩
      clear h8 hE hxs q0 q1 q2 q3 qf
      go_wp2_with fail
      go_loopg [2, 17, 18] n (fun gg v2 v17 v18 wr => ∃ (i q E : Nat) (ks : List Lt) (y : Bs) (v : Value), gg = n - i ∧ i ≤ n ∧ v2 = .int .i64 (q : Int) ∧ v17 = .int .i64 (E : Int) ∧ v18 = .int .i64 (i : Int) ∧ E = L - y.length ∧ Lk.dreadK (Lk.dread g) i (p - 1) x = some (ks, y, q) ∧ y <:+ s ∧ q ≤ p - 1 ∧ Dk (w.heap.size + 1) 6 g ks v w wr)
      case atStart => exact ⟨0, p - 1, E, [], x, .slice none 0 0, rfl, Nat.zero_le _, rfl, rfl, rfl, HS0.out.2, rfl, HS0.out.1, Nat.le_refl _, HST.out⟩
      case round =>
        obtain ⟨i, q, E, ks, y, v, rfl, hi, rfl, rfl, rfl, hE, hdk, hys, hq, hDk⟩ := hrel
        have hkl := Lk.dreadK_len hdk
        obtain ⟨_, _, hrow, _⟩ := hDk.row
        obtain ⟨va, vc, rfl⟩ : ∃ va vc, v = .slice va ks.length vc := by
          obtain ⟨l, hl, hr, _⟩ := hDk.row
          obtain ⟨va, vc, e⟩ := row_shape hr
          exact ⟨va, vc, by rw [e, ← hl, List.length_map]⟩
        clear hrow
        by_cases him : i < n
        · have hi0 : (0 : Int) ≤ (i : Int) := Int.natCast_nonneg _
          have hin : (i : Int) < (n : Int) := by omega
          have hiw : IntKind.i64.wrap ((i : Int) + 1) = ((i + 1 : Nat) : Int) := by rw [IntKind.wrap_i64]; have := H8.out; omega
          have HCA : Hid (Calls Tryz.prog 46 #[St s, .int .i64 (E : Int), .int .i64 (q : Int)] wr (DrE L g wr (Lk.dread g q y))) := hid (by rw [hE]; exact HIH.out q y wr (by have := HP.out; omega) (by have := HP.out; omega) hys)
          have HDK := hid hDk
          have HI := hid him
          have HKL := hid hkl
          cases hdr : Lk.dread g q y with
          | none =>
            have HN : Hid (RES = none) := hid (by
              have h1 : Lk.dreadK (Lk.dread g) (i + 1) (p - 1) x = none := by rw [Lk.dreadK, hdk]; simp only; rw [hdr]
              rw [HRES.out, Lk.dreadK_none h1 n him])
            rw [hdr] at HCA
            clear hdr hdk hys hq hDk hE hkl him hi
            go_wp2_with fail
            refine HCA.out.mono ?_
            rintro e w2 ⟨kk, qq, rfl, hb⟩
            have hD2 := (HDK.out.low hb).low (below_al w2 (.cells #[.int .u8 (kk : Int), St [], .int .i64 0, .slice none 0 0] 25))
            have q0 := (cell_of_heap hD2.res 0).trans (rfl : _ = some (Value.int .u8 0))
            have q1 := (cell_of_heap hD2.res 1).trans (rfl : _ = some (Value.string ⟨#[]⟩))
            have q2 := (cell_of_heap hD2.res 2).trans (rfl : _ = some (Value.int .i64 0))
            have q3 := (cell_of_heap hD2.res 3).trans (rfl : _ = some (Value.slice none 0 0))
            have qf : ∀ j, (w2.alloc (.cells #[.int .u8 (kk : Int), St [], .int .i64 0, .slice none 0 0] 25)).frozen? ⟨w.heap.size, j, none⟩ = false := fun j => frozen_of_heap hD2.res j
            have HTO := hid (fun v0 v1 v2 v3 => hD2.told (by have := HKL.out; have := H8.out; have := HI.out; omega) v0 v1 v2 v3)
            clear hb hD2 HCA
            go_wp2_with fail
            refine bodyPost_ret (v := .tuple #[.agg zeroL, .int .i64 (-1), .int .i64 0]) (ret_lock3 Tryz.results46 rfl rfl rfl (HTO.out _ _ _ _).1) rfl ?_
            rw [HN.out]
            exact ⟨0, 0, rfl, (HTO.out _ _ _ _).2.1⟩
          | some R3 =>
            obtain ⟨l, y2, q2'⟩ := R3
            obtain ⟨hs2, hq2, hlr⟩ := Lk.dread_suf g q y l y2 q2' hdr
            have HNX : Hid (Lk.dreadK (Lk.dread g) (i + 1) (p - 1) x = some (ks ++ [l], y2, q2')) := hid (by rw [Lk.dreadK, hdk]; simp only; rw [hdr])
            rw [hdr] at HCA
            have HYS : Hid (y2 <:+ s ∧ q2' ≤ p - 1) := hid ⟨hs2.trans hys, by omega⟩
            have HLR := hid hlr
            obtain ⟨E2, hE2⟩ : ∃ E2, E2 = L - y2.length := ⟨_, rfl⟩
            have HE2 := hid hE2
            have HCB : Hid (Calls Tryz.prog 46 #[St s, .int .i64 (E : Int), .int .i64 (q : Int)] wr fun e w' => ∃ a3 c3, e = .returned (.tuple #[.agg #[.int .u8 (l.kind : Int), St l.term, .int .i64 l.n, .slice a3 l.kids.length c3], .int .i64 (E2 : Int), .int .i64 (q2' : Int)]) ∧ (Kd (fun h => wr.heap.size ≤ h) w' g (.slice a3 l.kids.length c3) l.kids ∧ Below wr.heap.size wr w')) := hid (HCA.out.mono (fun e w' ⟨kv, h1, h2, h3⟩ => by
              obtain ⟨_, a3, c3, rfl⟩ := h2.shape
              rw [← hE2] at h1
              exact ⟨a3, c3, h1, h2, h3⟩))
            have hE20 : ¬ (E2 : Int) < 0 := by omega
            clear hdr hdk hys hq hDk hE hkl him hi HCA hs2 hq2 hlr hE2
            go_wp2_with fail
            refine HCB.out.mono ?_
            rintro e w2 ⟨a3, c3, rfl, hkd, hb⟩
            have hD2 := (HDK.out.low hb).low (below_al w2 (.cells #[.int .u8 (l.kind : Int), St l.term, .int .i64 l.n, .slice a3 l.kids.length c3] 25))
            have hsw : (w2.alloc (.cells #[.int .u8 (l.kind : Int), St l.term, .int .i64 l.n, .slice a3 l.kids.length c3] 25)).heap.size = w2.heap.size + 1 := by simp
            have hk2 : Kd (kb (w.heap.size + 1) (.slice va ks.length vc) (w2.alloc (.cells #[.int .u8 (l.kind : Int), St l.term, .int .i64 l.n, .slice a3 l.kids.length c3] 25))) (w2.alloc (.cells #[.int .u8 (l.kind : Int), St l.term, .int .i64 l.n, .slice a3 l.kids.length c3] 25)) g (.slice a3 l.kids.length c3) l.kids := ((HDK.out.kid hkd).low (below_al w2 _)).base (fun h hh => ⟨hh.1, by rw [hsw]; have := hh.2.1; omega, hh.2.2⟩)
            obtain ⟨ao, cap, w4, hrun, hcf, hD4⟩ := hD2.append l (.slice a3 l.kids.length c3) rfl HLR.out hk2 (by have := HKL.out; have := H8.out; have := HI.out; omega)
            rw [hsw] at hrun
            have HRUN : Hid (∀ ty, (Builtin.append_ #[23, 23] ty #[.slice va ks.length vc, .slice (some ⟨w2.heap.size + 1, 0, none⟩) 1 1]).run Tryz.prog ((w2.alloc (.cells #[.int .u8 (l.kind : Int), St l.term, .int .i64 l.n, .slice a3 l.kids.length c3] 25)).alloc (.cells #[.int .u8 (l.kind : Int), St l.term, .int .i64 l.n, .slice a3 l.kids.length c3] 25)) = .ok (.slice ao (ks.length + 1) cap) w4) := hid hrun
            have HD4 := hid hD4
            obtain ⟨f3, ff⟩ := hcf
            have c3' : (w2.alloc (.cells #[.int .u8 (l.kind : Int), St l.term, .int .i64 l.n, .slice a3 l.kids.length c3] 25)).cell? ⟨w.heap.size + 1, 3, none⟩ = some (.slice va ks.length vc) := (cell_of_heap hD2.box 3).trans rfl
            have hbx : (w2.alloc (.cells #[.int .u8 (l.kind : Int), St l.term, .int .i64 l.n, .slice a3 l.kids.length c3] 25)).heap[w2.heap.size]? = some (.cells #[.int .u8 (l.kind : Int), St l.term, .int .i64 l.n, .slice a3 l.kids.length c3] 25 (0, 0)) := heap_alloc_new w2 _
            have x0 : (w2.alloc (.cells #[.int .u8 (l.kind : Int), St l.term, .int .i64 l.n, .slice a3 l.kids.length c3] 25)).cell? ⟨w2.heap.size, 0, none⟩ = some (.int .u8 (l.kind : Int)) := (cell_of_heap hbx 0).trans rfl
            have x1 : (w2.alloc (.cells #[.int .u8 (l.kind : Int), St l.term, .int .i64 l.n, .slice a3 l.kids.length c3] 25)).cell? ⟨w2.heap.size, 1, none⟩ = some (St l.term) := (cell_of_heap hbx 1).trans rfl
            have x2 : (w2.alloc (.cells #[.int .u8 (l.kind : Int), St l.term, .int .i64 l.n, .slice a3 l.kids.length c3] 25)).cell? ⟨w2.heap.size, 2, none⟩ = some (.int .i64 l.n) := (cell_of_heap hbx 2).trans rfl
            have x3 : (w2.alloc (.cells #[.int .u8 (l.kind : Int), St l.term, .int .i64 l.n, .slice a3 l.kids.length c3] 25)).cell? ⟨w2.heap.size, 3, none⟩ = some (.slice a3 l.kids.length c3) := (cell_of_heap hbx 3).trans rfl
            have HK1 : Hid (ks.length + 1 = (ks ++ [l]).length) := hid (by simp)
            clear hkd hb hD2 hk2 hrun hD4 hbx HCB hsw
            go_wp2_with (first | (at_builtin; refine wpList_append_run rfl (.tmp 138) (.tmp 140) 23 23 rfl _ _ (.slice ao (ks.length + 1) cap) w4 rfl rfl HRUN.out ?_) | fail)
            go_roundg (n - (i + 1))
            case measure => have := HI.out; omega
            case rel => exact ⟨i + 1, q2', E2, ks ++ [l], y2, .slice ao (ks.length + 1) cap, rfl, HI.out, rfl, rfl, rfl, HE2.out, HNX.out, HYS.out.1, HYS.out.2, HD4.out⟩
        · have hie : i = n := by omega
          subst hie
          have hin : ¬ (i : Int) < (i : Int) := by omega
          have HN : Hid (RES = some (.mk 6 [] 0 ks, y, q)) := hid (by rw [HRES.out, hdk])
          obtain ⟨t1, t2, t3⟩ := hDk.told (by have := H8.out; omega) (.int .u8 6) (.string ⟨#[]⟩) (.int .i64 0) (.slice va ks.length vc)
          have HT1 := hid t1
          have HT2 := hid t2
          have HT3 := hid t3
          have HEE := hid hE
          have q0 := (cell_of_heap hDk.res 0).trans (rfl : _ = some (Value.int .u8 0))
          have q1 := (cell_of_heap hDk.res 1).trans (rfl : _ = some (Value.string ⟨#[]⟩))
          have q2 := (cell_of_heap hDk.res 2).trans (rfl : _ = some (Value.int .i64 0))
          have q3 := (cell_of_heap hDk.res 3).trans (rfl : _ = some (Value.slice none 0 0))
          have qf : ∀ j, wr.frozen? ⟨w.heap.size, j, none⟩ = false := fun j => frozen_of_heap hDk.res j
          have b0 := (cell_of_heap hDk.box 0).trans (rfl : _ = some (Value.int .u8 6))
          have b1 := (cell_of_heap hDk.box 1).trans (rfl : _ = some (Value.string ⟨#[]⟩))
          have b2 := (cell_of_heap hDk.box 2).trans (rfl : _ = some (Value.int .i64 0))
          have b3 := (cell_of_heap hDk.box 3).trans (rfl : _ = some (Value.slice va ks.length vc))
          clear hdk hys hq hDk hE hkl him hi t1 t2 t3
          go_wp2_with fail
          refine bodyPost_ret (v := .tuple #[.agg #[.int .u8 6, .string ⟨#[]⟩, .int .i64 0, .slice va ks.length vc], .int .i64 (E : Int), .int .i64 (q : Int)]) (ret_lock3 Tryz.results46 rfl rfl rfl HT1.out) rfl ?_
          rw [HN.out]
          exact ⟨.slice va ks.length vc, by rw [← HEE.out]; rfl, HT3.out, HT2.out⟩
end Go.Proofs.YtdllpklecdmghaaGreatDoor
