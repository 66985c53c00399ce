import Derived.Test.YtdllpklecdmghaaGreatDoorDkTAll
import Derived.Test.YtdllpklecdmghaaGreatDoorDkAll
import Derived.Test.YtdllpklecdmghaaGreatDoorLkBkAll
import Derived.Test.YtdllpklecdmghaaGreatDoorKnHAll
import Derived.Test.YtdllpklecdmghaaGreatDoorLkMo
import Derived.Test.YtdllpklecdmghaaGreatDoorLkLN
import Derived.Test.YtdllpklecdmghaaGreatDoorLkMk
import Derived.Test.YtdllpklecdmghaaGreatDoorDkIAll
import Derived.Test.YtdllpklecdmghaaGreatDoorDkLAll
/- The document's Read. -/
namespace Go.Proofs.YtdllpklecdmghaaGreatDoor
open Go.RowKit
open Lk (Lt)
theorem Sc.kindOf_le (c : UInt8) : Sc.kindOf c ≤ 6 := by
  unfold Sc.kindOf
  split
  · omega
  · split
    · omega
    · split
      · omega
      · split
        · omega
        · split
          · omega
          · split <;> omega
set_option maxHeartbeats 4000000 in
theorem dread_no (s : Bs) (a p g : Nat) (h : s.length ≤ a ∨ p = 0) (ha : a ≤ s.length) (hp : p ≤ 1000) (w : World) : Calls Tryz.prog 46 #[St s, .int .i64 (a : Int), .int .i64 (p : Int)] w (DrE s.length g w none) := by
  have hsz : (⟨s.toArray⟩ : ByteArray).size = s.length := st_size s
  generalize s.length = L at *
  have hz := heap_alloc_new w (.cells zeroL 25)
  have HZ := hid hz
  have HB := hid (below_al w (.cells zeroL 25))
  clear hz
  by_cases hL : L ≤ a
  · have hLi : (L : Int) ≤ (a : Int) := by omega
    clear h hL
    go_enter Tryz.func46, Tryz.ntmps46
    go_wp2_with fail
    refine bodyPost_ret (v := .tuple #[.agg zeroL, .int .i64 (-1), .int .i64 0]) (ret_lock3 Tryz.results46 rfl rfl rfl HZ.out) rfl ?_
    exact ⟨0, 0, rfl, HB.out⟩
  · have hLi : ¬ (L : Int) ≤ (a : Int) := by omega
    obtain rfl : p = 0 := by omega
    clear h hL
    go_enter Tryz.func46, Tryz.ntmps46
    go_wp2_with fail
    refine bodyPost_ret (v := .tuple #[.agg zeroL, .int .i64 (-1), .int .i64 0]) (ret_lock3 Tryz.results46 rfl rfl rfl HZ.out) rfl ?_
    exact ⟨0, 0, rfl, HB.out⟩
set_option maxHeartbeats 4000000 in
theorem dread_x (s : Bs) (hs : s.length ≤ 1000000) (a p g : Nat) (hp0 : 0 < p) (hp : p ≤ 1000) (ha : a < s.length) (hc : Sc.kindOf s[a] = 0) (w : World) : Calls Tryz.prog 46 #[St s, .int .i64 (a : Int), .int .i64 (p : Int)] w (DrE s.length g w none) := by
  have hsz : (⟨s.toArray⟩ : ByteArray).size = s.length := st_size s
  obtain ⟨c, hcc⟩ : ∃ c, c = s[a] := ⟨_, rfl⟩
  rw [← hcc] at hc
  have hix : ∀ (W : World), (Instr.index 9 (St s) (.int .i64 (a : Int))).run Tryz.prog W = .ok (.int .u8 (c.toNat : Int)) W := fun W => by rw [hcc]; exact txt_index s .i64 a ha W
  have hn : ∀ k : Nat, k < 256 → Sc.kindOf (UInt8.ofNat k) ≠ 0 → ((c.toNat : Int) == (k : Int)) = false := fun k hk h => by
    rw [beq_eq_false_iff_ne]
    intro e
    rw [(u8_is c k hk).1 e] at hc
    exact h hc
  have n1 := hn 115 (by decide) (by decide)
  have n2 := hn 112 (by decide) (by decide)
  have n3 := hn 97 (by decide) (by decide)
  have n4 := hn 111 (by decide) (by decide)
  have n5 := hn 38 (by decide) (by decide)
  have n6 := hn 124 (by decide) (by decide)
  have m1 : ¬ (c.toNat : Int) = 115 := by simpa using n1
  have m2 : ¬ (c.toNat : Int) = 112 := by simpa using n2
  have m3 : ¬ (c.toNat : Int) = 97 := by simpa using n3
  have m4 : ¬ (c.toNat : Int) = 111 := by simpa using n4
  have m5 : ¬ (c.toNat : Int) = 38 := by simpa using n5
  have m6 : ¬ (c.toNat : Int) = 124 := by simpa using n6
  obtain ⟨L, hL⟩ : ∃ L, L = s.length := ⟨_, rfl⟩
  rw [← hL] at hsz ha hs ⊢
  obtain ⟨_, i2, i3, i4, i5⟩ := dr_ints (a := a) (a1 := a + 1) (p := p) rfl ha (by omega : L ≤ 1000000) hp0 hp
  have hz := heap_alloc_new w (.cells zeroL 25)
  obtain ⟨w0, hw0⟩ : ∃ w0, w0 = w.alloc (.cells zeroL 25) := ⟨_, rfl⟩
  rw [← hw0] at hz
  have hb0 : Below w.heap.size w w0 := by rw [hw0]; exact below_al _ _
  have hb1 := below_al w0 (.cells #[.int .u8 5, .string ⟨#[]⟩, .int .i64 0, .slice none 0 0] 25)
  have hz1 := (hb1.block _ (lt_of_heap hz)).trans hz
  have HZ := hid hz1
  have HB := hid (hb0.trans (hb1.mono hb0.size))
  subst hw0
  clear hL hc hcc hs ha hp hp0 hn hz hz1 hb0 hb1 n1 n2 n3 n4 n5 n6
  go_enter Tryz.func46, Tryz.ntmps46
  go_wp2_with fail
  refine bodyPost_ret (v := .tuple #[.agg zeroL, .int .i64 (-1), .int .i64 0]) (ret_lock3 Tryz.results46 rfl rfl rfl HZ.out) rfl ?_
  exact ⟨0, 0, rfl, HB.out⟩
theorem DrE.more {L g h : Nat} (hg : g ≤ h) {w : World} {r : Option (Lt × Bs × Nat)} {e : Ending} {w' : World} (he : DrE L g w r e w') : DrE L h w r e w' := by
  match r, he with
  | none, he => exact he
  | some (l, y, q), ⟨kv, h1, h2, h3⟩ => exact ⟨kv, h1, h2.more hg, h3⟩
theorem dread_all (s : Bs) (hs : s.length ≤ 1000000) : ∀ (g q a : Nat) (w : World), q < g → q ≤ 1000 → a ≤ s.length → Calls Tryz.prog 46 #[St s, .int .i64 (a : Int), .int .i64 (q : Int)] w (DrE s.length g w (Lk.dread g q (s.drop a)))
  | 0, q, a, w, hq, _, _ => absurd hq (by omega)
  | g + 1, p, a, w, hpg, hp, ha => by
    have ih := dread_all s hs g
    by_cases hno : s.length ≤ a ∨ p = 0
    · have hr : Lk.dread (g + 1) p (s.drop a) = none := by
        rcases hno with h | h
        · rw [List.drop_of_length_le h, Lk.dread]
        · cases s.drop a with
          | nil => rw [Lk.dread]
          | cons c r => rw [Lk.dread, if_pos h]
      rw [hr]
      exact dread_no s a p (g + 1) hno ha hp w
    · have hal : a < s.length := by omega
      have hp0 : 0 < p := by omega
      have hdc : s.drop a = s[a] :: s.drop (a + 1) := List.drop_eq_getElem_cons hal
      rw [hdc, Lk.dread, if_neg (by omega)]
      by_cases k1 : Sc.kindOf s[a] = 1
      · have hc : s[a] = 115 := by rw [Lk.letter_kind (c := s[a]) (by omega), k1]; rfl
        rw [if_pos (.inl k1), k1]
        exact (dread_t1 s hs a p hp0 hp _ hal hc rfl w).mono (fun e w' h => h.more (Nat.zero_le _))
      · by_cases k2 : Sc.kindOf s[a] = 2
        · have hc : s[a] = 112 := by rw [Lk.letter_kind (c := s[a]) (by omega), k2]; rfl
          rw [if_pos (.inr k2), k2]
          exact (dread_t2 s hs a p hp0 hp _ hal hc rfl w).mono (fun e w' h => h.more (Nat.zero_le _))
        · rw [if_neg (by omega)]
          by_cases k3 : Sc.kindOf s[a] = 3
          · have hc : s[a] = 97 := by rw [Lk.letter_kind (c := s[a]) (by omega), k3]; rfl
            rw [if_pos (.inl k3), k3]
            exact (dread_n3 s hs a p hp0 hp _ hal hc rfl w).mono (fun e w' h => h.more (Nat.zero_le _))
          · by_cases k4 : Sc.kindOf s[a] = 4
            · have hc : s[a] = 111 := by rw [Lk.letter_kind (c := s[a]) (by omega), k4]; rfl
              rw [if_pos (.inr k4), k4]
              exact (dread_n4 s hs a p hp0 hp _ hal hc rfl w).mono (fun e w' h => h.more (Nat.zero_le _))
            · rw [if_neg (by omega)]
              by_cases k5 : Sc.kindOf s[a] = 5
              · have hc : s[a] = 38 := by rw [Lk.letter_kind (c := s[a]) (by omega), k5]; rfl
                rw [if_pos (.inl k5), k5]
                exact dread_p5 s hs g ih a p hp0 hp hpg _ hal hc rfl w _ rfl
              · by_cases k6 : Sc.kindOf s[a] = 6
                · have hc : s[a] = 124 := by rw [Lk.letter_kind (c := s[a]) (by omega), k6]; rfl
                  rw [if_pos (.inr k6), k6]
                  exact dread_p6 s hs g ih a p hp0 hp hpg _ hal hc rfl w _ rfl
                · rw [if_neg (by omega)]
                  have k0 : Sc.kindOf s[a] = 0 := by
                    have := Sc.kindOf_le s[a]
                    omega
                  exact dread_x s hs a p (g + 1) hp0 hp hal k0 w
end Go.Proofs.YtdllpklecdmghaaGreatDoor
/- The document's Read; the law LockReads. -/
namespace Go.Proofs.YtdllpklecdmghaaGreatDoor
open Go.RowKit
open Lk (Lt)
theorem rd_none {s : Bs} (h : Lk.drdRes s = none) : rdL s = Lt.zero ∧ rdE s = 110 := by
  rw [Lk.drd_is] at h
  unfold rdL rdE
  rw [h]
  exact ⟨rfl, rfl⟩
theorem rd_somel {s : Bs} {l : Lt} (h : Lk.drdRes s = some l) : rdL s = l ∧ rdE s = 0 := by
  rw [Lk.drd_is] at h
  unfold rdL rdE
  rw [h]
  exact ⟨rfl, rfl⟩
theorem dr_len {L : Nat} {y s : Bs} (hL : L = s.length) (hy : y <:+ s) : (y = [] → L - y.length = L) ∧ (y ≠ [] → L - y.length ≠ L) := by
  have h := hy.length_le
  refine ⟨fun e => by rw [e]; rfl, fun e => ?_⟩
  have := List.length_pos_iff.2 e
  omega
set_option maxHeartbeats 8000000 in
theorem dRead_any (s : Bs) (hs : s.length ≤ 1000000) (w : World) : Calls Tryz.prog 17 #[St s] w fun e w' => ∃ a c, e = .returned (.tuple #[.agg #[.int .u8 ((rdL s).kind : Int), St (rdL s).term, .int .i64 (rdL s).n, .slice a (rdL s).kids.length c], .int .i64 (rdE s)]) ∧ (Kd (fun h => w.heap.size ≤ h) w' 65 (.slice a (rdL s).kids.length c) (rdL s).kids ∧ Below w.heap.size w w') := by
  have hsz : (⟨s.toArray⟩ : ByteArray).size = s.length := st_size s
  have HC : Hid (∀ W, Calls Tryz.prog 46 #[St s, .int .i64 0, .int .i64 64] W (DrE s.length 65 W (Lk.dread 65 64 s))) := hid (fun W => dread_all s hs 65 64 0 W (by decide) (by decide) (Nat.zero_le _))
  have HD : Hid (Lk.drdRes s = match Lk.dread 65 64 s with
    | none => none
    | some (l, y, _) => if y = [] ∧ Lk.right l = true then some l else none) := hid rfl
  have HSF : Hid (∀ l y q, Lk.dread 65 64 s = some (l, y, q) → y <:+ s) := hid (fun l y q h => (Lk.dread_suf 65 64 s l y q h).1)
  have HNO := hid (@rd_none s)
  have HYE : Hid (∀ l, Lk.drdRes s = some l → rdL s = l ∧ rdE s = 0) := hid (fun l h => rd_somel h)
  obtain ⟨L, hL⟩ : ∃ L, L = s.length := ⟨_, rfl⟩
  have HDL : Hid (∀ y, y <:+ s → (y = [] → L - y.length = L) ∧ (y ≠ [] → L - y.length ≠ L)) := hid (fun y h => dr_len hL h)
  rw [← hL] at hsz HC
  obtain ⟨w0, hw0⟩ : ∃ w0, w0 = w.alloc (.cells zeroL 25) := ⟨_, rfl⟩
  have HB0 : Hid (Below w.heap.size w w0) := hid (by rw [hw0]; exact below_al _ _)
  have HZ0 : Hid (w0.heap[w.heap.size]? = some (.cells zeroL 25 (0, 0))) := hid (by rw [hw0]; exact heap_alloc_new w _)
  have HSZ : Hid (w0.heap.size = w.heap.size + 1) := hid (by rw [hw0]; simp)
  clear hL hs
  go_enter Tryz.func17, Tryz.ntmps17
  go_wp2_with fail
  rw [show (#[Value.int .u8 0, .string ⟨#[]⟩, .int .i64 0, .slice none 0 0] : Array Value) = zeroL from rfl, ← hw0]
  clear hw0
  cases hd : Lk.dread 65 64 s with
  | none =>
    have HR := hid (HNO.out (by rw [HD.out, hd]))
    have HCX := hid (HC.out w0)
    rw [hd] at HCX
    clear HC HD HSF HNO HYE hd
    refine HCX.out.mono ?_
    rintro e w1 ⟨k, q, rfl, hb⟩
    have hb2 := hb.trans ((below_al w1 (.cells #[.int .u8 (k : Int), St [], .int .i64 0, .slice none 0 0] 25)).mono hb.size)
    have hz := (hb2.block _ (lt_of_heap HZ0.out)).trans HZ0.out
    have HZ := hid hz
    have HBX := hid (HB0.out.trans (hb2.mono HB0.out.size))
    have q0 := (cell_of_heap hz 0).trans (rfl : _ = some (Value.int .u8 0))
    have q1 := (cell_of_heap hz 1).trans (rfl : _ = some (Value.string ⟨#[]⟩))
    have q2 := (cell_of_heap hz 2).trans (rfl : _ = some (Value.int .i64 0))
    have q3 := (cell_of_heap hz 3).trans (rfl : _ = some (Value.slice none 0 0))
    have qf : ∀ j, (w1.alloc (.cells #[.int .u8 (k : Int), St [], .int .i64 0, .slice none 0 0] 25)).frozen? ⟨w.heap.size, j, none⟩ = false := fun j => frozen_of_heap hz j
    have HST := hid (fun v0 v1 v2 v3 => setL_same hz 0 v0 v1 v2 v3)
    have hne : ¬ (-1 : Int) = (L : Int) := by omega
    have hnb : ((-1 : Int) == (L : Int)) = false := beq_eq_false_iff_ne.2 hne
    clear hb hb2 hz HCX
    go_wp2_with fail
    refine bodyPost_ret (v := .tuple #[.agg zeroL, .int .i64 110]) (ret_lock2 Tryz.results17 rfl rfl (HST.out _ _ _ _)) rfl ?_
    rw [HR.out.1, HR.out.2]
    exact ⟨none, 0, rfl, Kd.nil _ _ _, setL_below HBX.out (Nat.le_refl _) 0 _ _ _ _⟩
  | some d =>
    obtain ⟨l, y, q⟩ := d
    have HSY := hid (HSF.out l y q hd)
    have HCX := hid (HC.out w0)
    have HDR : Hid (Lk.drdRes s = if y = [] ∧ Lk.right l = true then some l else none) := hid (by rw [HD.out, hd])
    rw [hd] at HCX
    clear HC HD HSF hd
    obtain ⟨E, hE⟩ : ∃ E, E = L - y.length := ⟨_, rfl⟩
    obtain ⟨d1, d2⟩ := HDL.out y HSY.out
    rw [← hE] at d1 d2
    have HCY : Hid (Calls Tryz.prog 46 #[St s, .int .i64 0, .int .i64 64] w0 fun e w' => ∃ a3 c3, e = .returned (.tuple #[.agg #[.int .u8 (l.kind : Int), St l.term, .int .i64 l.n, .slice a3 l.kids.length c3], .int .i64 (E : Int), .int .i64 (q : Int)]) ∧ (Kd (fun h => w0.heap.size ≤ h) w' 65 (.slice a3 l.kids.length c3) l.kids ∧ Below w0.heap.size w0 w')) := hid (HCX.out.mono (fun e w' ⟨kv, h1, h2, h3⟩ => by
      obtain ⟨_, a3, c3, rfl⟩ := h2.shape
      rw [← hE] at h1
      exact ⟨a3, c3, h1, h2, h3⟩))
    clear HCX hE
    refine HCY.out.mono ?_
    rintro e w1 ⟨a3, c3, rfl, hk, hb⟩
    obtain ⟨w2, hw2⟩ : ∃ w2, w2 = w1.alloc (.cells #[.int .u8 (l.kind : Int), St l.term, .int .i64 l.n, .slice a3 l.kids.length c3] 25) := ⟨_, rfl⟩
    have hb12 : Below w1.heap.size w1 w2 := by rw [hw2]; exact below_al _ _
    have hb2 := hb.trans (hb12.mono hb.size)
    have hk2 := hk.low hb12
    have hbx : w2.heap[w1.heap.size]? = some (.cells #[.int .u8 (l.kind : Int), St l.term, .int .i64 l.n, .slice a3 l.kids.length c3] 25 (0, 0)) := by rw [hw2]; exact heap_alloc_new w1 _
    have hz := (hb2.block _ (lt_of_heap HZ0.out)).trans HZ0.out
    have HBX := hid (HB0.out.trans (hb2.mono HB0.out.size))
    have HK2 := hid hk2
    have HZ := hid hz
    have HBB := hid hbx
    clear hk hb hb12 hb2 hk2 HCY
    by_cases hEL : E = L
    · have hy : y = [] := Classical.byContradiction (fun h => d2 h hEL)
      subst hEL
      have HRT : Hid (Calls Tryz.prog 11 #[.agg #[.int .u8 (l.kind : Int), St l.term, .int .i64 l.n, .slice a3 l.kids.length c3]] w2 fun e w' => e = .returned (.bool (Lk.right l)) ∧ Below w2.heap.size w2 w') := hid (dR_any 65 l _ w2 HK2.out)
      have x0 := (cell_of_heap hbx 0).trans (rfl : _ = some (Value.int .u8 (l.kind : Int)))
      have x1 := (cell_of_heap hbx 1).trans (rfl : _ = some (St l.term))
      have x2 := (cell_of_heap hbx 2).trans (rfl : _ = some (Value.int .i64 l.n))
      have x3 := (cell_of_heap hbx 3).trans (rfl : _ = some (Value.slice a3 l.kids.length c3))
      rw [hw2] at x0 x1 x2 x3
      clear hz hbx d1 d2
      go_wp2_with fail
      rw [← hw2]
      clear hw2 x0 x1 x2 x3
      refine HRT.out.mono ?_
      rintro e w3 ⟨rfl, hb⟩
      have hz := (hb.block _ (lt_of_heap HZ.out)).trans HZ.out
      have hbx := (hb.block _ (lt_of_heap HBB.out)).trans HBB.out
      have HK3 := hid (HK2.out.low hb)
      have HB3 := hid (HBX.out.trans (hb.mono HBX.out.size))
      have q0 := (cell_of_heap hz 0).trans (rfl : _ = some (Value.int .u8 0))
      have q1 := (cell_of_heap hz 1).trans (rfl : _ = some (Value.string ⟨#[]⟩))
      have q2 := (cell_of_heap hz 2).trans (rfl : _ = some (Value.int .i64 0))
      have q3 := (cell_of_heap hz 3).trans (rfl : _ = some (Value.slice none 0 0))
      have qf : ∀ j, w3.frozen? ⟨w.heap.size, j, none⟩ = false := fun j => frozen_of_heap hz j
      have HST := hid (fun v0 v1 v2 v3 => setL_same hz 0 v0 v1 v2 v3)
      clear hb hz HRT
      cases hr : Lk.right l with
      | false =>
        have HR := hid (HNO.out (by rw [HDR.out, if_neg (fun h => by rw [hr] at h; cases h.2)]))
        clear hr hbx hy HDR HNO HYE
        go_wp2_with fail
        refine bodyPost_ret (v := .tuple #[.agg zeroL, .int .i64 110]) (ret_lock2 Tryz.results17 rfl rfl (HST.out _ _ _ _)) rfl ?_
        rw [HR.out.1, HR.out.2]
        exact ⟨none, 0, rfl, Kd.nil _ _ _, setL_below HB3.out (Nat.le_refl _) 0 _ _ _ _⟩
      | true =>
        have HR := hid (HYE.out l (by rw [HDR.out, if_pos ⟨hy, hr⟩]))
        have x0 := (cell_of_heap hbx 0).trans (rfl : _ = some (Value.int .u8 (l.kind : Int)))
        have x1 := (cell_of_heap hbx 1).trans (rfl : _ = some (St l.term))
        have x2 := (cell_of_heap hbx 2).trans (rfl : _ = some (Value.int .i64 l.n))
        have x3 := (cell_of_heap hbx 3).trans (rfl : _ = some (Value.slice a3 l.kids.length c3))
        clear hr hbx hy HDR HNO HYE
        go_wp2_with fail
        refine bodyPost_ret (v := .tuple #[.agg #[.int .u8 (l.kind : Int), St l.term, .int .i64 l.n, .slice a3 l.kids.length c3], .int .i64 0]) (ret_lock2 Tryz.results17 rfl rfl (HST.out _ _ _ _)) rfl ?_
        rw [HR.out.1, HR.out.2]
        exact ⟨a3, c3, rfl, (HK3.out.same (fun h (hh : w0.heap.size ≤ h) _ => setL_other _ _ _ _ _ _ _ (by have := HSZ.out; omega))).base (fun h (hh : w0.heap.size ≤ h) => by have := HSZ.out; show w.heap.size ≤ h; omega), setL_below HB3.out (Nat.le_refl _) 0 _ _ _ _⟩
    · have hEi : ¬ (E : Int) = (L : Int) := by omega
      have hEb : ((E : Int) == (L : Int)) = false := beq_eq_false_iff_ne.2 hEi
      have HR := hid (HNO.out (by rw [HDR.out, if_neg (fun h => hEL (d1 h.1))]))
      have q0 := (cell_of_heap hz 0).trans (rfl : _ = some (Value.int .u8 0))
      have q1 := (cell_of_heap hz 1).trans (rfl : _ = some (Value.string ⟨#[]⟩))
      have q2 := (cell_of_heap hz 2).trans (rfl : _ = some (Value.int .i64 0))
      have q3 := (cell_of_heap hz 3).trans (rfl : _ = some (Value.slice none 0 0))
      have qf : ∀ j, w2.frozen? ⟨w.heap.size, j, none⟩ = false := fun j => frozen_of_heap hz j
      have HST := hid (fun v0 v1 v2 v3 => setL_same hz 0 v0 v1 v2 v3)
      clear hz hbx d1 d2 hEL HDR HNO HYE
      subst hw2
      go_wp2_with fail
      refine bodyPost_ret (v := .tuple #[.agg zeroL, .int .i64 110]) (ret_lock2 Tryz.results17 rfl rfl (HST.out _ _ _ _)) rfl ?_
      rw [HR.out.1, HR.out.2]
      exact ⟨none, 0, rfl, Kd.nil _ _ _, setL_below HBX.out (Nat.le_refl _) 0 _ _ _ _⟩
end Go.Proofs.YtdllpklecdmghaaGreatDoor
/- LockReads: the law. -/
namespace Go.Proofs.YtdllpklecdmghaaGreatDoor
open Go.RowKit
open Lk (Lt)
set_option maxRecDepth 100000 in
set_option maxHeartbeats 16000000 in
theorem reads_any (s : Bs) (hl : s.length ≤ 140737488355328) (w : World) (hp : Pw w) : Calls Tryz.prog 4 #[St s] w fun e w' => e = .returned (.bool true) ∧ Below w.heap.size w w' := by
  have hsz : (⟨s.toArray⟩ : ByteArray).size = s.length := st_size s
  have HL := hid hl
  have HP := hid hp
  clear hl hp
  by_cases h3 : 3000 < s.length
  · have h3i : (3000 : Int) < (s.length : Int) := by omega
    clear h3
    go_enter Tryz.func4, Tryz.ntmps4
    go_wp2_with fail
    go_ret
    exact ⟨rfl, Below.refl _ _⟩
  · have h3i : ¬ (3000 : Int) < (s.length : Int) := by omega
    have H1 := hid (read_box s w HL.out)
    have H2 : Hid (∀ W, Calls Tryz.prog 17 #[St s] W fun e w' => ∃ a c, e = .returned (.tuple #[.agg #[.int .u8 ((rdL s).kind : Int), St (rdL s).term, .int .i64 (rdL s).n, .slice a (rdL s).kids.length c], .int .i64 (rdE s)]) ∧ (Kd (fun h => W.heap.size ≤ h) w' 65 (.slice a (rdL s).kids.length c) (rdL s).kids ∧ Below W.heap.size W w')) := hid (fun W => dRead_any s (by omega) W)
    have H3 : Hid (∀ W a1 c1 a2 c2, (∃ d, Kd (fun _ => True) W d (.slice a1 (rdL s).kids.length c1) (rdL s).kids) → Kd (fun _ => True) W 65 (.slice a2 (rdL s).kids.length c2) (rdL s).kids → Calls Tryz.prog 18 #[.agg #[.int .u8 ((rdL s).kind : Int), St (rdL s).term, .int .i64 (rdL s).n, .slice a1 (rdL s).kids.length c1], .agg #[.int .u8 ((rdL s).kind : Int), St (rdL s).term, .int .i64 (rdL s).n, .slice a2 (rdL s).kids.length c2]] W fun e w' => e = .returned (.bool true) ∧ Below W.heap.size W w') := hid (fun W a1 c1 a2 c2 ⟨d, h1⟩ h2 => by
      have h := slock_any d (rdL s) (rdL s) _ _ 65 W h1 h2
      rw [(Lk.same_iff (rdL s) (rdL s)).2 rfl] at h
      exact h)
    have H4 : Hid (∀ W, Below w.heap.size w W → Calls Tryz.prog 15 #[] W fun e w' => e = .returned (.bool true) ∧ Below w.heap.size w w') := hid (fun W hW => (works_any W (HP.out.below hW)).mono (fun e w' ⟨h1, h2⟩ => ⟨h1, hW.trans (h2.mono hW.size)⟩))
    clear h3
    generalize rdE s = E at *
    generalize rdL s = R at *
    go_enter Tryz.func4, Tryz.ntmps4
    go_wp2_with fail
    refine H1.out.mono ?_
    rintro e w1 ⟨⟨a1, c1, rfl, hx⟩, hb⟩
    obtain ⟨w2, hw2⟩ : ∃ w2, w2 = w1.alloc (.cells #[.int .u8 (R.kind : Int), St R.term, .int .i64 R.n, .slice a1 R.kids.length c1] 25) := ⟨_, rfl⟩
    rw [← hw2] at hx
    have hb2 : Below w.heap.size w w2 := by rw [hw2]; exact hb.trans ((below_al w1 _).mono hb.size)
    have HX := hid hx
    have HB2 := hid hb2
    clear hx hb hb2 H1
    go_wp2_with fail
    rw [← hw2]
    refine (H2.out w2).mono ?_
    rintro e w3 ⟨a2, c2, rfl, hk, hb⟩
    obtain ⟨w4, hw4⟩ : ∃ w4, w4 = w3.alloc (.cells #[.int .u8 (R.kind : Int), St R.term, .int .i64 R.n, .slice a2 R.kids.length c2] 25) := ⟨_, rfl⟩
    have hb34 : Below w3.heap.size w3 w4 := by rw [hw4]; exact below_al _ _
    have hb4 := hb.trans (hb34.mono hb.size)
    have hx4 := HX.out.low hb4
    have hk4 : Kd (fun _ => True) w4 65 (.slice a2 R.kids.length c2) R.kids := (hk.base (fun _ _ => trivial)).low hb34
    have hbx : w4.heap[w3.heap.size]? = some (.cells #[.int .u8 (R.kind : Int), St R.term, .int .i64 R.n, .slice a2 R.kids.length c2] 25 (0, 0)) := by rw [hw4]; exact heap_alloc_new w3 _
    obtain ⟨t0, t1, t2, t3⟩ := hx4.cells
    have x0 := (cell_of_heap hbx 0).trans (rfl : _ = some (Value.int .u8 (R.kind : Int)))
    have x1 := (cell_of_heap hbx 1).trans (rfl : _ = some (St R.term))
    have x2 := (cell_of_heap hbx 2).trans (rfl : _ = some (Value.int .i64 R.n))
    have x3 := (cell_of_heap hbx 3).trans (rfl : _ = some (Value.slice a2 R.kids.length c2))
    have HS := hid (H3.out w4 a1 c1 a2 c2 ⟨_, hx4.2⟩ hk4)
    have HB4 := hid (HB2.out.trans (hb4.mono HB2.out.size))
    clear hk hb hb34 hb4 hx4 hk4 hbx H2 H3 hw2
    subst hw4
    go_wp2_with fail
    refine HS.out.mono ?_
    rintro e w5 ⟨rfl, hb⟩
    have HW := hid (H4.out w5 (HB4.out.trans (hb.mono HB4.out.size)))
    clear hb HS t0 t1 t2 t3 x0 x1 x2 x3
    go_wp2_with fail
    refine HW.out.mono ?_
    rintro e w6 ⟨rfl, hb⟩
    have HZ := hid hb
    clear hb
    go_wp2_with fail
    go_ret
    exact ⟨rfl, HZ.out⟩
end Go.Proofs.YtdllpklecdmghaaGreatDoor
/- LockKnown: its frame behind the list, and what the list's locks are. -/
namespace Go.Proofs.YtdllpklecdmghaaGreatDoor
open Go.RowKit
open Lk (Lt)
set_option maxRecDepth 100000 in
theorem lit_is (s : Nat → Value) : (#[s 0, s 1, s 2, s 3, s 4, s 5, s 6, s 7, s 8, s 9, s 10, s 11, s 12, s 13, s 14, s 15, s 16, s 17, s 18, s 19, s 20, s 21, s 22, s 23, s 24, s 25, s 26, s 27, s 28, s 29, s 30, s 31, s 32, s 33, s 34, s 35, s 36, s 37, s 38, s 39, s 40, s 41, s 42, s 43, s 44, s 45, s 46, s 47, s 48, s 49, s 50, s 51, s 52, s 53, s 54, s 55, s 56, s 57, s 58, s 59, s 60, s 61, s 62, s 63, s 64, s 65, s 66, s 67, s 68, s 69, s 70, s 71, s 72, s 73, s 74, s 75, s 76, s 77, s 78, s 79, s 80, s 81, s 82, s 83, s 84, s 85, s 86, s 87, s 88, s 89, s 90, s 91, s 92, s 93, s 94, s 95, s 96, s 97, s 98, s 99, s 100, s 101, s 102, s 103, s 104, s 105, s 106, s 107, s 108, s 109, s 110, s 111, s 112, s 113, s 114, s 115, s 116, s 117, s 118, s 119, s 120, s 121, s 122, s 123, s 124, s 125, s 126, s 127, s 128, s 129, s 130, s 131, s 132, s 133, s 134, s 135, s 136, s 137, s 138, s 139, s 140, s 141, s 142, s 143, s 144, s 145, s 146, s 147, s 148, s 149, s 150, s 151, s 152, s 153, s 154, s 155, s 156, s 157, s 158, s 159, s 160, s 161, s 162, s 163, s 164, s 165, s 166, s 167, s 168, s 169, s 170, s 171, s 172, s 173, s 174, s 175, s 176, s 177, s 178, s 179, s 180, s 181, s 182, s 183, s 184, s 185, s 186, s 187, s 188, s 189, s 190, s 191, s 192, s 193, s 194, s 195, s 196, s 197, s 198, s 199, s 200, s 201, s 202, s 203, s 204, s 205, s 206, s 207, s 208, s 209, s 210, s 211, s 212, s 213, s 214, s 215, s 216, s 217, s 218, s 219, s 220, s 221, s 222, s 223, s 224, s 225, s 226, s 227, s 228, s 229, s 230, s 231, s 232, s 233, s 234, s 235, s 236, s 237, s 238, s 239, s 240, s 241, s 242, s 243, s 244, s 245, s 246, s 247, s 248, s 249, s 250, s 251, s 252, s 253, s 254, s 255, s 256, s 257, s 258, s 259, s 260, s 261, s 262, s 263, s 264, s 265, s 266, s 267, s 268, s 269, s 270, s 271, s 272, s 273, s 274, s 275, s 276, s 277, s 278, s 279, s 280, s 281, s 282, s 283, s 284, s 285, s 286, s 287, s 288, s 289, s 290, s 291, s 292, s 293, s 294, s 295, s 296, s 297, s 298, s 299, s 300, s 301, s 302, s 303, s 304, s 305, s 306, s 307, s 308, s 309, s 310, s 311, s 312, s 313, s 314, s 315, s 316, s 317, s 318, s 319, s 320, s 321, s 322] : Array Value) = ((List.range 323).map s).toArray := by rfl
theorem act_lit (a : Act) (h : a.tmps.size = 323) : ∃ s : Nat → Value, s 5 = gt a 5 ∧ a = ⟨#[s 0, s 1, s 2, s 3, s 4, s 5, s 6, s 7, s 8, s 9, s 10, s 11, s 12, s 13, s 14, s 15, s 16, s 17, s 18, s 19, s 20, s 21, s 22, s 23, s 24, s 25, s 26, s 27, s 28, s 29, s 30, s 31, s 32, s 33, s 34, s 35, s 36, s 37, s 38, s 39, s 40, s 41, s 42, s 43, s 44, s 45, s 46, s 47, s 48, s 49, s 50, s 51, s 52, s 53, s 54, s 55, s 56, s 57, s 58, s 59, s 60, s 61, s 62, s 63, s 64, s 65, s 66, s 67, s 68, s 69, s 70, s 71, s 72, s 73, s 74, s 75, s 76, s 77, s 78, s 79, s 80, s 81, s 82, s 83, s 84, s 85, s 86, s 87, s 88, s 89, s 90, s 91, s 92, s 93, s 94, s 95, s 96, s 97, s 98, s 99, s 100, s 101, s 102, s 103, s 104, s 105, s 106, s 107, s 108, s 109, s 110, s 111, s 112, s 113, s 114, s 115, s 116, s 117, s 118, s 119, s 120, s 121, s 122, s 123, s 124, s 125, s 126, s 127, s 128, s 129, s 130, s 131, s 132, s 133, s 134, s 135, s 136, s 137, s 138, s 139, s 140, s 141, s 142, s 143, s 144, s 145, s 146, s 147, s 148, s 149, s 150, s 151, s 152, s 153, s 154, s 155, s 156, s 157, s 158, s 159, s 160, s 161, s 162, s 163, s 164, s 165, s 166, s 167, s 168, s 169, s 170, s 171, s 172, s 173, s 174, s 175, s 176, s 177, s 178, s 179, s 180, s 181, s 182, s 183, s 184, s 185, s 186, s 187, s 188, s 189, s 190, s 191, s 192, s 193, s 194, s 195, s 196, s 197, s 198, s 199, s 200, s 201, s 202, s 203, s 204, s 205, s 206, s 207, s 208, s 209, s 210, s 211, s 212, s 213, s 214, s 215, s 216, s 217, s 218, s 219, s 220, s 221, s 222, s 223, s 224, s 225, s 226, s 227, s 228, s 229, s 230, s 231, s 232, s 233, s 234, s 235, s 236, s 237, s 238, s 239, s 240, s 241, s 242, s 243, s 244, s 245, s 246, s 247, s 248, s 249, s 250, s 251, s 252, s 253, s 254, s 255, s 256, s 257, s 258, s 259, s 260, s 261, s 262, s 263, s 264, s 265, s 266, s 267, s 268, s 269, s 270, s 271, s 272, s 273, s 274, s 275, s 276, s 277, s 278, s 279, s 280, s 281, s 282, s 283, s 284, s 285, s 286, s 287, s 288, s 289, s 290, s 291, s 292, s 293, s 294, s 295, s 296, s 297, s 298, s 299, s 300, s 301, s 302, s 303, s 304, s 305, s 306, s 307, s 308, s 309, s 310, s 311, s 312, s 313, s 314, s 315, s 316, s 317, s 318, s 319, s 320, s 321, s 322], a.defers⟩ := by
  refine ⟨fun i => gt a i, rfl, ?_⟩
  cases a with
  | mk t d =>
    have h' : t.size = 323 := h
    congr 1
    refine Eq.trans ?_ (lit_is (fun i => gt ⟨t, d⟩ i)).symm
    apply Array.ext
    · simp [h']
    · intro i h1 h2
      simp [gt, h1]
theorem Kd.take {b : Nat → Prop} {w : World} {d n c : Nat} {a : Option Addr} {ks : List Lt} (h : Kd b w d (.slice a n c) ks) (k : Nat) (hk : k ≤ ks.length) (c' : Nat) : Kd b w (d + 1) (.slice a k c') (ks.take k) := by
  obtain ⟨hl, ao, cap, e, hr⟩ := h.up.parts
  have ha : a = ao := by injection e
  subst ha
  have hlen : (ks.take k).length = k := by rw [List.length_take]; omega
  refine ⟨by omega, a, c', by rw [hlen], fun h0 => ?_⟩
  obtain ⟨g, o, e2, hg, hc⟩ := hr (by omega)
  refine ⟨g, o, e2, hg, fun i hi => ?_⟩
  have hi' : i < ks.length := by omega
  have hx : (ks.take k)[i] = ks[i] := by simp
  rw [hx]
  obtain ⟨kv, h1, h2, d', h3, h4⟩ := hc i hi'
  exact ⟨kv, h1, h2, Kd.more (by omega) h4⟩
def LkAt (W : World) (g o : Nat) (x : Lt) (a : Option Addr) (m c : Nat) : Prop :=
  W.cell? ⟨g, o, none⟩ = some (.int .u8 (x.kind : Int)) ∧ W.cell? ⟨g, o + 1, none⟩ = some (St x.term) ∧ W.cell? ⟨g, o + 2, none⟩ = some (.int .i64 x.n) ∧ W.cell? ⟨g, o + 3, none⟩ = some (.slice a m c)
theorem row_locks {ks : List Lt} {v : Value} {w : World} (h : RowV ks v w) (h0 : 0 < ks.length) :
    ∃ g o c, v = .slice (some ⟨g, o, none⟩) ks.length c ∧ g < w.heap.size ∧ (∃ d, Kd (fun k => k < w.heap.size) w d (.slice (some ⟨g, o, none⟩) ks.length c) ks) ∧
      ∀ i, i < ks.length → ∃ (x : Lt) (a : Option Addr) (c d : Nat), Lr x ∧ ∀ W, Below w.heap.size w W → LkAt W g (o + i * 4) x a x.kids.length c ∧ Kd (fun k => k < w.heap.size) W d (.slice a x.kids.length c) x.kids := by
  obtain ⟨d, hd⟩ := h
  have hl := hd.lts
  obtain ⟨_, ao, cap, rfl, hr⟩ := hl.parts
  obtain ⟨g, o, rfl, hg, hc⟩ := hr h0
  refine ⟨g, o, cap, rfl, hg, ⟨d, hl⟩, fun i hi => ?_⟩
  obtain ⟨kv, h1, h2, d', _, h4⟩ := hc i hi
  obtain ⟨_, a, c, rfl⟩ := h4.shape
  refine ⟨ks[i], a, c, d', h2, fun W hW => ⟨⟨?_, ?_, ?_, ?_⟩, h4.low hW⟩⟩
  · exact (hW.cell (p := ⟨g, o + i * 4, none⟩) hg).trans (h1 0 _ rfl)
  · exact (hW.cell (p := ⟨g, o + i * 4 + 1, none⟩) hg).trans (h1 1 _ rfl)
  · exact (hW.cell (p := ⟨g, o + i * 4 + 2, none⟩) hg).trans (h1 2 _ rfl)
  · exact (hW.cell (p := ⟨g, o + i * 4 + 3, none⟩) hg).trans (h1 3 _ rfl)
end Go.Proofs.YtdllpklecdmghaaGreatDoor
