import Derived.Test.YtdllpklecdmghaaGreatDoorDkTAll
import Derived.Test.YtdllpklecdmghaaGreatDoorDkAll
import Derived.Test.YtdllpklecdmghaaGreatDoorLkBk
/- The document's Read. -/
namespace Go.Proofs.YtdllpklecdmghaaGreatDoor
open Go.RowKit
open Lk (Lt)

theorem Sc.kindOf_le (c : UInt8) : Sc.kindOf c ≤ 6 := by
  unfold Sc.kindOf
  split
  · omega
  · split
    · omega
    · split
      · omega
      · split
        · omega
        · split
          · omega
          · split <;> omega
set_option maxHeartbeats 4000000 in
/-- no place, or no room -/
theorem dread_no (s : Bs) (a p g : Nat) (h : s.length ≤ a ∨ p = 0) (ha : a ≤ s.length) (hp : p ≤ 1000) (w : World) : Calls Tryz.prog 46 #[St s, .int .i64 (a : Int), .int .i64 (p : Int)] w (DrE s.length g w none) := by
  have hsz : (⟨s.toArray⟩ : ByteArray).size = s.length := st_size s
  generalize s.length = L at *
  have hz := heap_alloc_new w (.cells zeroL 25)
  have HZ := hid hz
  have HB := hid (below_al w (.cells zeroL 25))
  clear hz
  by_cases hL : L ≤ a
  · have hLi : (L : Int) ≤ (a : Int) := by omega
    clear h hL
    go_enter Tryz.func46, Tryz.ntmps46
    go_wp2_with fail
    refine bodyPost_ret (v := .tuple #[.agg zeroL, .int .i64 (-1), .int .i64 0]) (ret_lock3 Tryz.results46 rfl rfl rfl HZ.out) rfl ?_
    exact ⟨0, 0, rfl, HB.out⟩
  · have hLi : ¬ (L : Int) ≤ (a : Int) := by omega
    obtain rfl : p = 0 := by omega
    clear h hL
    go_enter Tryz.func46, Tryz.ntmps46
    go_wp2_with fail
    refine bodyPost_ret (v := .tuple #[.agg zeroL, .int .i64 (-1), .int .i64 0]) (ret_lock3 Tryz.results46 rfl rfl rfl HZ.out) rfl ?_
    exact ⟨0, 0, rfl, HB.out⟩
set_option maxHeartbeats 4000000 in
/-- no part begins so -/
theorem dread_x (s : Bs) (hs : s.length ≤ 1000000) (a p g : Nat) (hp0 : 0 < p) (hp : p ≤ 1000) (ha : a < s.length) (hc : Sc.kindOf s[a] = 0) (w : World) : Calls Tryz.prog 46 #[St s, .int .i64 (a : Int), .int .i64 (p : Int)] w (DrE s.length g w none) := by
  have hsz : (⟨s.toArray⟩ : ByteArray).size = s.length := st_size s
  obtain ⟨c, hcc⟩ : ∃ c, c = s[a] := ⟨_, rfl⟩
  rw [← hcc] at hc
  have hix : ∀ (W : World), (Instr.index 9 (St s) (.int .i64 (a : Int))).run Tryz.prog W = .ok (.int .u8 (c.toNat : Int)) W := fun W => by rw [hcc]; exact txt_index s .i64 a ha W
  have hn : ∀ k : Nat, k < 256 → Sc.kindOf (UInt8.ofNat k) ≠ 0 → ((c.toNat : Int) == (k : Int)) = false := fun k hk h => by
    rw [beq_eq_false_iff_ne]
    intro e
    rw [(u8_is c k hk).1 e] at hc
    exact h hc
  have n1 := hn 115 (by decide) (by decide)
  have n2 := hn 112 (by decide) (by decide)
  have n3 := hn 97 (by decide) (by decide)
  have n4 := hn 111 (by decide) (by decide)
  have n5 := hn 38 (by decide) (by decide)
  have n6 := hn 124 (by decide) (by decide)
  have m1 : ¬ (c.toNat : Int) = 115 := by simpa using n1
  have m2 : ¬ (c.toNat : Int) = 112 := by simpa using n2
  have m3 : ¬ (c.toNat : Int) = 97 := by simpa using n3
  have m4 : ¬ (c.toNat : Int) = 111 := by simpa using n4
  have m5 : ¬ (c.toNat : Int) = 38 := by simpa using n5
  have m6 : ¬ (c.toNat : Int) = 124 := by simpa using n6
  obtain ⟨L, hL⟩ : ∃ L, L = s.length := ⟨_, rfl⟩
  rw [← hL] at hsz ha hs ⊢
  obtain ⟨_, i2, i3, i4, i5⟩ := dr_ints (a := a) (a1 := a + 1) (p := p) rfl ha (by omega : L ≤ 1000000) hp0 hp
  have hz := heap_alloc_new w (.cells zeroL 25)
  obtain ⟨w0, hw0⟩ : ∃ w0, w0 = w.alloc (.cells zeroL 25) := ⟨_, rfl⟩
  rw [← hw0] at hz
  have hb0 : Below w.heap.size w w0 := by rw [hw0]; exact below_al _ _
  have hb1 := below_al w0 (.cells #[.int .u8 5, .string ⟨#[]⟩, .int .i64 0, .slice none 0 0] 25)
  have hz1 := (hb1.block _ (lt_of_heap hz)).trans hz
  have HZ := hid hz1
  have HB := hid (hb0.trans (hb1.mono hb0.size))
  subst hw0
  clear hL hc hcc hs ha hp hp0 hn hz hz1 hb0 hb1 n1 n2 n3 n4 n5 n6
  go_enter Tryz.func46, Tryz.ntmps46
  go_wp2_with fail
  refine bodyPost_ret (v := .tuple #[.agg zeroL, .int .i64 (-1), .int .i64 0]) (ret_lock3 Tryz.results46 rfl rfl rfl HZ.out) rfl ?_
  exact ⟨0, 0, rfl, HB.out⟩
theorem DrE.more {L g h : Nat} (hg : g ≤ h) {w : World} {r : Option (Lt × Bs × Nat)} {e : Ending} {w' : World} (he : DrE L g w r e w') : DrE L h w r e w' := by
  match r, he with
  | none, he => exact he
  | some (l, y, q), ⟨kv, h1, h2, h3⟩ => exact ⟨kv, h1, h2.more hg, h3⟩
/-- the document's read -/
theorem dread_all (s : Bs) (hs : s.length ≤ 1000000) : ∀ (g q a : Nat) (w : World), q < g → q ≤ 1000 → a ≤ s.length → Calls Tryz.prog 46 #[St s, .int .i64 (a : Int), .int .i64 (q : Int)] w (DrE s.length g w (Lk.dread g q (s.drop a)))
  | 0, q, a, w, hq, _, _ => absurd hq (by omega)
  | g + 1, p, a, w, hpg, hp, ha => by
    have ih := dread_all s hs g
    by_cases hno : s.length ≤ a ∨ p = 0
    · have hr : Lk.dread (g + 1) p (s.drop a) = none := by
        rcases hno with h | h
        · rw [List.drop_of_length_le h, Lk.dread]
        · cases s.drop a with
          | nil => rw [Lk.dread]
          | cons c r => rw [Lk.dread, if_pos h]
      rw [hr]
      exact dread_no s a p (g + 1) hno ha hp w
    · have hal : a < s.length := by omega
      have hp0 : 0 < p := by omega
      have hdc : s.drop a = s[a] :: s.drop (a + 1) := List.drop_eq_getElem_cons hal
      rw [hdc, Lk.dread, if_neg (by omega)]
      by_cases k1 : Sc.kindOf s[a] = 1
      · have hc : s[a] = 115 := by rw [Lk.letter_kind (c := s[a]) (by omega), k1]; rfl
        rw [if_pos (.inl k1), k1]
        exact (dread_t1 s hs a p hp0 hp _ hal hc rfl w).mono (fun e w' h => h.more (Nat.zero_le _))
      · by_cases k2 : Sc.kindOf s[a] = 2
        · have hc : s[a] = 112 := by rw [Lk.letter_kind (c := s[a]) (by omega), k2]; rfl
          rw [if_pos (.inr k2), k2]
          exact (dread_t2 s hs a p hp0 hp _ hal hc rfl w).mono (fun e w' h => h.more (Nat.zero_le _))
        · rw [if_neg (by omega)]
          by_cases k3 : Sc.kindOf s[a] = 3
          · have hc : s[a] = 97 := by rw [Lk.letter_kind (c := s[a]) (by omega), k3]; rfl
            rw [if_pos (.inl k3), k3]
            exact (dread_n3 s hs a p hp0 hp _ hal hc rfl w).mono (fun e w' h => h.more (Nat.zero_le _))
          · by_cases k4 : Sc.kindOf s[a] = 4
            · have hc : s[a] = 111 := by rw [Lk.letter_kind (c := s[a]) (by omega), k4]; rfl
              rw [if_pos (.inr k4), k4]
              exact (dread_n4 s hs a p hp0 hp _ hal hc rfl w).mono (fun e w' h => h.more (Nat.zero_le _))
            · rw [if_neg (by omega)]
              by_cases k5 : Sc.kindOf s[a] = 5
              · have hc : s[a] = 38 := by rw [Lk.letter_kind (c := s[a]) (by omega), k5]; rfl
                rw [if_pos (.inl k5), k5]
                exact dread_p5 s hs g ih a p hp0 hp hpg _ hal hc rfl w _ rfl
              · by_cases k6 : Sc.kindOf s[a] = 6
                · have hc : s[a] = 124 := by rw [Lk.letter_kind (c := s[a]) (by omega), k6]; rfl
                  rw [if_pos (.inr k6), k6]
                  exact dread_p6 s hs g ih a p hp0 hp hpg _ hal hc rfl w _ rfl
                · rw [if_neg (by omega)]
                  have k0 : Sc.kindOf s[a] = 0 := by
                    have := Sc.kindOf_le s[a]
                    omega
                  exact dread_x s hs a p (g + 1) hp0 hp hal k0 w
end Go.Proofs.YtdllpklecdmghaaGreatDoor

/- The document's Read; the law LockReads. -/
namespace Go.Proofs.YtdllpklecdmghaaGreatDoor
open Go.RowKit
open Lk (Lt)

/-- what the document's Read tells -/
theorem rd_none {s : Bs} (h : Lk.drdRes s = none) : rdL s = Lt.zero ∧ rdE s = 110 := by
  rw [Lk.drd_is] at h
  unfold rdL rdE
  rw [h]
  exact ⟨rfl, rfl⟩
theorem rd_somel {s : Bs} {l : Lt} (h : Lk.drdRes s = some l) : rdL s = l ∧ rdE s = 0 := by
  rw [Lk.drd_is] at h
  unfold rdL rdE
  rw [h]
  exact ⟨rfl, rfl⟩
theorem dr_len {L : Nat} {y s : Bs} (hL : L = s.length) (hy : y <:+ s) : (y = [] → L - y.length = L) ∧ (y ≠ [] → L - y.length ≠ L) := by
  have h := hy.length_le
  refine ⟨fun e => by rw [e]; rfl, fun e => ?_⟩
  have := List.length_pos_iff.2 e
  omega
set_option maxHeartbeats 8000000 in
theorem dRead_any (s : Bs) (hs : s.length ≤ 1000000) (w : World) : Calls Tryz.prog 17 #[St s] w fun e w' => ∃ a c, e = .returned (.tuple #[.agg #[.int .u8 ((rdL s).kind : Int), St (rdL s).term, .int .i64 (rdL s).n, .slice a (rdL s).kids.length c], .int .i64 (rdE s)]) ∧ (Kd (fun h => w.heap.size ≤ h) w' 65 (.slice a (rdL s).kids.length c) (rdL s).kids ∧ Below w.heap.size w w') := by
  have hsz : (⟨s.toArray⟩ : ByteArray).size = s.length := st_size s
  have HC : Hid (∀ W, Calls Tryz.prog 46 #[St s, .int .i64 0, .int .i64 64] W (DrE s.length 65 W (Lk.dread 65 64 s))) := hid (fun W => dread_all s hs 65 64 0 W (by decide) (by decide) (Nat.zero_le _))
  have HD : Hid (Lk.drdRes s = match Lk.dread 65 64 s with
    | none => none
    | some (l, y, _) => if y = [] ∧ Lk.right l = true then some l else none) := hid rfl
  have HSF : Hid (∀ l y q, Lk.dread 65 64 s = some (l, y, q) → y <:+ s) := hid (fun l y q h => (Lk.dread_suf 65 64 s l y q h).1)
  have HNO := hid (@rd_none s)
  have HYE : Hid (∀ l, Lk.drdRes s = some l → rdL s = l ∧ rdE s = 0) := hid (fun l h => rd_somel h)
  obtain ⟨L, hL⟩ : ∃ L, L = s.length := ⟨_, rfl⟩
  have HDL : Hid (∀ y, y <:+ s → (y = [] → L - y.length = L) ∧ (y ≠ [] → L - y.length ≠ L)) := hid (fun y h => dr_len hL h)
  rw [← hL] at hsz HC
  obtain ⟨w0, hw0⟩ : ∃ w0, w0 = w.alloc (.cells zeroL 25) := ⟨_, rfl⟩
  have HB0 : Hid (Below w.heap.size w w0) := hid (by rw [hw0]; exact below_al _ _)
  have HZ0 : Hid (w0.heap[w.heap.size]? = some (.cells zeroL 25 (0, 0))) := hid (by rw [hw0]; exact heap_alloc_new w _)
  have HSZ : Hid (w0.heap.size = w.heap.size + 1) := hid (by rw [hw0]; simp)
  clear hL hs
  go_enter Tryz.func17, Tryz.ntmps17
  go_wp2_with fail
  rw [show (#[Value.int .u8 0, .string ⟨#[]⟩, .int .i64 0, .slice none 0 0] : Array Value) = zeroL from rfl, ← hw0]
  clear hw0
  cases hd : Lk.dread 65 64 s with
  | none =>
    have HR := hid (HNO.out (by rw [HD.out, hd]))
    have HCX := hid (HC.out w0)
    rw [hd] at HCX
    clear HC HD HSF HNO HYE hd
    refine HCX.out.mono ?_
    rintro e w1 ⟨k, q, rfl, hb⟩
    have hb2 := hb.trans ((below_al w1 (.cells #[.int .u8 (k : Int), St [], .int .i64 0, .slice none 0 0] 25)).mono hb.size)
    have hz := (hb2.block _ (lt_of_heap HZ0.out)).trans HZ0.out
    have HZ := hid hz
    have HBX := hid (HB0.out.trans (hb2.mono HB0.out.size))
    have q0 := (cell_of_heap hz 0).trans (rfl : _ = some (Value.int .u8 0))
    have q1 := (cell_of_heap hz 1).trans (rfl : _ = some (Value.string ⟨#[]⟩))
    have q2 := (cell_of_heap hz 2).trans (rfl : _ = some (Value.int .i64 0))
    have q3 := (cell_of_heap hz 3).trans (rfl : _ = some (Value.slice none 0 0))
    have qf : ∀ j, (w1.alloc (.cells #[.int .u8 (k : Int), St [], .int .i64 0, .slice none 0 0] 25)).frozen? ⟨w.heap.size, j, none⟩ = false := fun j => frozen_of_heap hz j
    have HST := hid (fun v0 v1 v2 v3 => setL_same hz 0 v0 v1 v2 v3)
    have hne : ¬ (-1 : Int) = (L : Int) := by omega
    have hnb : ((-1 : Int) == (L : Int)) = false := beq_eq_false_iff_ne.2 hne
    clear hb hb2 hz HCX
    go_wp2_with fail
    refine bodyPost_ret (v := .tuple #[.agg zeroL, .int .i64 110]) (ret_lock2 Tryz.results17 rfl rfl (HST.out _ _ _ _)) rfl ?_
    rw [HR.out.1, HR.out.2]
    exact ⟨none, 0, rfl, Kd.nil _ _ _, setL_below HBX.out (Nat.le_refl _) 0 _ _ _ _⟩
  | some d =>
    obtain ⟨l, y, q⟩ := d
    have HSY := hid (HSF.out l y q hd)
    have HCX := hid (HC.out w0)
    have HDR : Hid (Lk.drdRes s = if y = [] ∧ Lk.right l = true then some l else none) := hid (by rw [HD.out, hd])
    rw [hd] at HCX
    clear HC HD HSF hd
    obtain ⟨E, hE⟩ : ∃ E, E = L - y.length := ⟨_, rfl⟩
    obtain ⟨d1, d2⟩ := HDL.out y HSY.out
    rw [← hE] at d1 d2
    have HCY : Hid (Calls Tryz.prog 46 #[St s, .int .i64 0, .int .i64 64] w0 fun e w' => ∃ a3 c3, e = .returned (.tuple #[.agg #[.int .u8 (l.kind : Int), St l.term, .int .i64 l.n, .slice a3 l.kids.length c3], .int .i64 (E : Int), .int .i64 (q : Int)]) ∧ (Kd (fun h => w0.heap.size ≤ h) w' 65 (.slice a3 l.kids.length c3) l.kids ∧ Below w0.heap.size w0 w')) := hid (HCX.out.mono (fun e w' ⟨kv, h1, h2, h3⟩ => by
      obtain ⟨_, a3, c3, rfl⟩ := h2.shape
      rw [← hE] at h1
      exact ⟨a3, c3, h1, h2, h3⟩))
    clear HCX hE
    refine HCY.out.mono ?_
    rintro e w1 ⟨a3, c3, rfl, hk, hb⟩
    obtain ⟨w2, hw2⟩ : ∃ w2, w2 = w1.alloc (.cells #[.int .u8 (l.kind : Int), St l.term, .int .i64 l.n, .slice a3 l.kids.length c3] 25) := ⟨_, rfl⟩
    have hb12 : Below w1.heap.size w1 w2 := by rw [hw2]; exact below_al _ _
    have hb2 := hb.trans (hb12.mono hb.size)
    have hk2 := hk.low hb12
    have hbx : w2.heap[w1.heap.size]? = some (.cells #[.int .u8 (l.kind : Int), St l.term, .int .i64 l.n, .slice a3 l.kids.length c3] 25 (0, 0)) := by rw [hw2]; exact heap_alloc_new w1 _
    have hz := (hb2.block _ (lt_of_heap HZ0.out)).trans HZ0.out
    have HBX := hid (HB0.out.trans (hb2.mono HB0.out.size))
    have HK2 := hid hk2
    have HZ := hid hz
    have HBB := hid hbx
    clear hk hb hb12 hb2 hk2 HCY
    by_cases hEL : E = L
    · have hy : y = [] := Classical.byContradiction (fun h => d2 h hEL)
      subst hEL
      have HRT : Hid (Calls Tryz.prog 11 #[.agg #[.int .u8 (l.kind : Int), St l.term, .int .i64 l.n, .slice a3 l.kids.length c3]] w2 fun e w' => e = .returned (.bool (Lk.right l)) ∧ Below w2.heap.size w2 w') := hid (dR_any 65 l _ w2 HK2.out)
      have x0 := (cell_of_heap hbx 0).trans (rfl : _ = some (Value.int .u8 (l.kind : Int)))
      have x1 := (cell_of_heap hbx 1).trans (rfl : _ = some (St l.term))
      have x2 := (cell_of_heap hbx 2).trans (rfl : _ = some (Value.int .i64 l.n))
      have x3 := (cell_of_heap hbx 3).trans (rfl : _ = some (Value.slice a3 l.kids.length c3))
      rw [hw2] at x0 x1 x2 x3
      clear hz hbx d1 d2
      go_wp2_with fail
      rw [← hw2]
      clear hw2 x0 x1 x2 x3
      refine HRT.out.mono ?_
      rintro e w3 ⟨rfl, hb⟩
      have hz := (hb.block _ (lt_of_heap HZ.out)).trans HZ.out
      have hbx := (hb.block _ (lt_of_heap HBB.out)).trans HBB.out
      have HK3 := hid (HK2.out.low hb)
      have HB3 := hid (HBX.out.trans (hb.mono HBX.out.size))
      have q0 := (cell_of_heap hz 0).trans (rfl : _ = some (Value.int .u8 0))
      have q1 := (cell_of_heap hz 1).trans (rfl : _ = some (Value.string ⟨#[]⟩))
      have q2 := (cell_of_heap hz 2).trans (rfl : _ = some (Value.int .i64 0))
      have q3 := (cell_of_heap hz 3).trans (rfl : _ = some (Value.slice none 0 0))
      have qf : ∀ j, w3.frozen? ⟨w.heap.size, j, none⟩ = false := fun j => frozen_of_heap hz j
      have HST := hid (fun v0 v1 v2 v3 => setL_same hz 0 v0 v1 v2 v3)
      clear hb hz HRT
      cases hr : Lk.right l with
      | false =>
        have HR := hid (HNO.out (by rw [HDR.out, if_neg (fun h => by rw [hr] at h; cases h.2)]))
        clear hr hbx hy HDR HNO HYE
        go_wp2_with fail
        refine bodyPost_ret (v := .tuple #[.agg zeroL, .int .i64 110]) (ret_lock2 Tryz.results17 rfl rfl (HST.out _ _ _ _)) rfl ?_
        rw [HR.out.1, HR.out.2]
        exact ⟨none, 0, rfl, Kd.nil _ _ _, setL_below HB3.out (Nat.le_refl _) 0 _ _ _ _⟩
      | true =>
        have HR := hid (HYE.out l (by rw [HDR.out, if_pos ⟨hy, hr⟩]))
        have x0 := (cell_of_heap hbx 0).trans (rfl : _ = some (Value.int .u8 (l.kind : Int)))
        have x1 := (cell_of_heap hbx 1).trans (rfl : _ = some (St l.term))
        have x2 := (cell_of_heap hbx 2).trans (rfl : _ = some (Value.int .i64 l.n))
        have x3 := (cell_of_heap hbx 3).trans (rfl : _ = some (Value.slice a3 l.kids.length c3))
        clear hr hbx hy HDR HNO HYE
        go_wp2_with fail
        refine bodyPost_ret (v := .tuple #[.agg #[.int .u8 (l.kind : Int), St l.term, .int .i64 l.n, .slice a3 l.kids.length c3], .int .i64 0]) (ret_lock2 Tryz.results17 rfl rfl (HST.out _ _ _ _)) rfl ?_
        rw [HR.out.1, HR.out.2]
        exact ⟨a3, c3, rfl, (HK3.out.same (fun h (hh : w0.heap.size ≤ h) _ => setL_other _ _ _ _ _ _ _ (by have := HSZ.out; omega))).base (fun h (hh : w0.heap.size ≤ h) => by have := HSZ.out; show w.heap.size ≤ h; omega), setL_below HB3.out (Nat.le_refl _) 0 _ _ _ _⟩
    · have hEi : ¬ (E : Int) = (L : Int) := by omega
      have hEb : ((E : Int) == (L : Int)) = false := beq_eq_false_iff_ne.2 hEi
      have HR := hid (HNO.out (by rw [HDR.out, if_neg (fun h => hEL (d1 h.1))]))
      have q0 := (cell_of_heap hz 0).trans (rfl : _ = some (Value.int .u8 0))
      have q1 := (cell_of_heap hz 1).trans (rfl : _ = some (Value.string ⟨#[]⟩))
      have q2 := (cell_of_heap hz 2).trans (rfl : _ = some (Value.int .i64 0))
      have q3 := (cell_of_heap hz 3).trans (rfl : _ = some (Value.slice none 0 0))
      have qf : ∀ j, w2.frozen? ⟨w.heap.size, j, none⟩ = false := fun j => frozen_of_heap hz j
      have HST := hid (fun v0 v1 v2 v3 => setL_same hz 0 v0 v1 v2 v3)
      clear hz hbx d1 d2 hEL HDR HNO HYE
      subst hw2
      go_wp2_with fail
      refine bodyPost_ret (v := .tuple #[.agg zeroL, .int .i64 110]) (ret_lock2 Tryz.results17 rfl rfl (HST.out _ _ _ _)) rfl ?_
      rw [HR.out.1, HR.out.2]
      exact ⟨none, 0, rfl, Kd.nil _ _ _, setL_below HBX.out (Nat.le_refl _) 0 _ _ _ _⟩
end Go.Proofs.YtdllpklecdmghaaGreatDoor

/- LockReads: the law. -/
namespace Go.Proofs.YtdllpklecdmghaaGreatDoor
open Go.RowKit
open Lk (Lt)

set_option maxRecDepth 100000 in
set_option maxHeartbeats 16000000 in
theorem reads_any (s : Bs) (hl : s.length ≤ 140737488355328) (w : World) (hp : Pw w) : Calls Tryz.prog 4 #[St s] w fun e w' => e = .returned (.bool true) ∧ Below w.heap.size w w' := by
  have hsz : (⟨s.toArray⟩ : ByteArray).size = s.length := st_size s
  have HL := hid hl
  have HP := hid hp
  clear hl hp
  by_cases h3 : 3000 < s.length
  · have h3i : (3000 : Int) < (s.length : Int) := by omega
    clear h3
    go_enter Tryz.func4, Tryz.ntmps4
    go_wp2_with fail
    go_ret
    exact ⟨rfl, Below.refl _ _⟩
  · have h3i : ¬ (3000 : Int) < (s.length : Int) := by omega
    have H1 := hid (read_box s w HL.out)
    have H2 : Hid (∀ W, Calls Tryz.prog 17 #[St s] W fun e w' => ∃ a c, e = .returned (.tuple #[.agg #[.int .u8 ((rdL s).kind : Int), St (rdL s).term, .int .i64 (rdL s).n, .slice a (rdL s).kids.length c], .int .i64 (rdE s)]) ∧ (Kd (fun h => W.heap.size ≤ h) w' 65 (.slice a (rdL s).kids.length c) (rdL s).kids ∧ Below W.heap.size W w')) := hid (fun W => dRead_any s (by omega) W)
    have H3 : Hid (∀ W a1 c1 a2 c2, (∃ d, Kd (fun _ => True) W d (.slice a1 (rdL s).kids.length c1) (rdL s).kids) → Kd (fun _ => True) W 65 (.slice a2 (rdL s).kids.length c2) (rdL s).kids → Calls Tryz.prog 18 #[.agg #[.int .u8 ((rdL s).kind : Int), St (rdL s).term, .int .i64 (rdL s).n, .slice a1 (rdL s).kids.length c1], .agg #[.int .u8 ((rdL s).kind : Int), St (rdL s).term, .int .i64 (rdL s).n, .slice a2 (rdL s).kids.length c2]] W fun e w' => e = .returned (.bool true) ∧ Below W.heap.size W w') := hid (fun W a1 c1 a2 c2 ⟨d, h1⟩ h2 => by
      have h := slock_any d (rdL s) (rdL s) _ _ 65 W h1 h2
      rw [(Lk.same_iff (rdL s) (rdL s)).2 rfl] at h
      exact h)
    have H4 : Hid (∀ W, Below w.heap.size w W → Calls Tryz.prog 15 #[] W fun e w' => e = .returned (.bool true) ∧ Below w.heap.size w w') := hid (fun W hW => (works_any W (HP.out.below hW)).mono (fun e w' ⟨h1, h2⟩ => ⟨h1, hW.trans (h2.mono hW.size)⟩))
    clear h3
    generalize rdE s = E at *
    generalize rdL s = R at *
    go_enter Tryz.func4, Tryz.ntmps4
    go_wp2_with fail
    refine H1.out.mono ?_
    rintro e w1 ⟨⟨a1, c1, rfl, hx⟩, hb⟩
    obtain ⟨w2, hw2⟩ : ∃ w2, w2 = w1.alloc (.cells #[.int .u8 (R.kind : Int), St R.term, .int .i64 R.n, .slice a1 R.kids.length c1] 25) := ⟨_, rfl⟩
    rw [← hw2] at hx
    have hb2 : Below w.heap.size w w2 := by rw [hw2]; exact hb.trans ((below_al w1 _).mono hb.size)
    have HX := hid hx
    have HB2 := hid hb2
    clear hx hb hb2 H1
    go_wp2_with fail
    rw [← hw2]
    refine (H2.out w2).mono ?_
    rintro e w3 ⟨a2, c2, rfl, hk, hb⟩
    obtain ⟨w4, hw4⟩ : ∃ w4, w4 = w3.alloc (.cells #[.int .u8 (R.kind : Int), St R.term, .int .i64 R.n, .slice a2 R.kids.length c2] 25) := ⟨_, rfl⟩
    have hb34 : Below w3.heap.size w3 w4 := by rw [hw4]; exact below_al _ _
    have hb4 := hb.trans (hb34.mono hb.size)
    have hx4 := HX.out.low hb4
    have hk4 : Kd (fun _ => True) w4 65 (.slice a2 R.kids.length c2) R.kids := (hk.base (fun _ _ => trivial)).low hb34
    have hbx : w4.heap[w3.heap.size]? = some (.cells #[.int .u8 (R.kind : Int), St R.term, .int .i64 R.n, .slice a2 R.kids.length c2] 25 (0, 0)) := by rw [hw4]; exact heap_alloc_new w3 _
    obtain ⟨t0, t1, t2, t3⟩ := hx4.cells
    have x0 := (cell_of_heap hbx 0).trans (rfl : _ = some (Value.int .u8 (R.kind : Int)))
    have x1 := (cell_of_heap hbx 1).trans (rfl : _ = some (St R.term))
    have x2 := (cell_of_heap hbx 2).trans (rfl : _ = some (Value.int .i64 R.n))
    have x3 := (cell_of_heap hbx 3).trans (rfl : _ = some (Value.slice a2 R.kids.length c2))
    have HS := hid (H3.out w4 a1 c1 a2 c2 ⟨_, hx4.2⟩ hk4)
    have HB4 := hid (HB2.out.trans (hb4.mono HB2.out.size))
    clear hk hb hb34 hb4 hx4 hk4 hbx H2 H3 hw2
    subst hw4
    go_wp2_with fail
    refine HS.out.mono ?_
    rintro e w5 ⟨rfl, hb⟩
    have HW := hid (H4.out w5 (HB4.out.trans (hb.mono HB4.out.size)))
    clear hb HS t0 t1 t2 t3 x0 x1 x2 x3
    go_wp2_with fail
    refine HW.out.mono ?_
    rintro e w6 ⟨rfl, hb⟩
    have HZ := hid hb
    clear hb
    go_wp2_with fail
    go_ret
    exact ⟨rfl, HZ.out⟩
end Go.Proofs.YtdllpklecdmghaaGreatDoor
