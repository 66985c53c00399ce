import Derived.Test.YtdllpklecdmghaaGreatDoorFrAll
import Derived.Test.YtdllpklecdmghaaGreatDoorRRfAll
/- The document's count of a lock's parts, and whether it is right. -/
namespace Go.Proofs.YtdllpklecdmghaaGreatDoor
open Go.RowKit
open Lk (Lt)
theorem Lk.sizes_take_le (ks : List Lt) (i : Nat) : Lk.sizes (ks.take i) ≤ Lk.sizes ks := by
  by_cases h : i < ks.length
  · have := Lk.size_take ks i h
    omega
  · rw [List.take_of_length_le (by omega)]
    exact Nat.le_refl _
set_option maxHeartbeats 4000000 in
theorem count_any {b : Nat → Prop} (d : Nat) : ∀ (l : Lt) (kv : Value) (w : World) (t : Nat), Kd b w d kv l.kids → t ≤ 1000 → Calls Tryz.prog 36 #[.agg (lcs l kv), .int .i64 (t : Int)] w fun e w' => e = .returned (.int .i64 ((min (Lk.size l) (t + 1) : Nat) : Int)) ∧ Below w.heap.size w w' := by
  induction d using Nat.strongRecOn with
  | ind d ih =>
    intro l kv w t hk ht
    obtain ⟨kd, tm, n, ks⟩ := l
    obtain ⟨hl, ao, cap, rfl, hks⟩ := hk.parts
    clear hk
    have hl : ks.length ≤ 140737488355328 := hl
    have hks : Kr b w d ao ks := hks
    show Calls Tryz.prog 36 #[.agg #[.int .u8 (kd : Int), St tm, .int .i64 n, .slice ao ks.length cap], .int .i64 (t : Int)] w fun e w' => e = .returned (.int .i64 ((min (Lk.size (.mk kd tm n ks)) (t + 1) : Nat) : Int)) ∧ Below w.heap.size w w'
    obtain ⟨R, hR⟩ : ∃ R, R = min (Lk.size (.mk kd tm n ks)) (t + 1) := ⟨_, rfl⟩
    rw [← hR]
    have HR : Hid (R = min (1 + Lk.sizes ks) (t + 1)) := hid (by rw [hR, Lk.size])
    obtain ⟨m, hm⟩ : ∃ m, m = ks.length := ⟨_, rfl⟩
    rw [← hm] at hl ⊢
    have HM := hid hm
    have HKS := hid hks
    have HL := hid hl
    have HT := hid ht
    have HIH := hid ih
    clear hks hm ih hR hl
    obtain ⟨w0, hw0⟩ : ∃ w0, w0 = w.alloc (.cells #[.int .u8 (kd : Int), St tm, .int .i64 n, .slice ao m cap] 25) := ⟨_, rfl⟩
    have HB0 : Hid (Below w.heap.size w w0) := hid (by rw [hw0]; exact below_al _ _)
    have HC0 : Hid (∀ W, Below w0.heap.size w0 W → W.cell? ⟨w.heap.size, 3, none⟩ = some (.slice ao m cap)) := hid (fun W hW => cell_later hW (by rw [hw0]; exact (cell_of_heap (heap_alloc_new w _) 3).trans rfl))
    have HZ : Hid (1 = min (1 + Lk.sizes (ks.take 0)) (t + 1)) := hid (by rw [List.take_zero, Lk.sizes]; omega)
    clear ht
    go_enter Tryz.func36, Tryz.ntmps36
    go_wp2_with fail
    rw [← hw0]
    clear hw0
    go_loopg [5, 6] m (fun gg v5 v6 wr => ∃ i q : Nat, gg = m - i ∧ i ≤ m ∧ v5 = .int .i64 (q : Int) ∧ v6 = .int .i64 (i : Int) ∧ q = min (1 + Lk.sizes (ks.take i)) (t + 1) ∧ Below w0.heap.size w0 wr)
    case atStart => exact ⟨0, 1, rfl, Nat.zero_le _, rfl, rfl, HZ.out, Below.refl _ _⟩
    case round =>
      obtain ⟨i, q, rfl, hi, rfl, rfl, hq, hB⟩ := hrel
      have c3 := HC0.out wr hB
      have hBw : Below w.heap.size w wr := HB0.out.trans (hB.mono HB0.out.size)
      by_cases him : i < m ∧ q ≤ t
      · have hik : i < ks.length := by have := HM.out; omega
        have hks' : Kr b wr d ao ks := HKS.out.low hBw
        obtain ⟨g, o, hg, _, hc⟩ := hks' (show 0 < ks.length by omega)
        subst hg
        obtain ⟨kv, hcs, hlr, d', hd', hkd⟩ := hc i hik
        obtain ⟨x, hx⟩ : ∃ x, x = ks[i] := ⟨_, rfl⟩
        have hst := Lk.size_step ks i hik
        rw [← hx] at hcs hlr hkd hst
        obtain ⟨_, a2, c2, rfl⟩ := hkd.shape
        have e0 : wr.cell? ⟨g, o + i * 4, none⟩ = some (.int .u8 (x.kind : Int)) := hcs 0 _ rfl
        have e1 : wr.cell? ⟨g, o + i * 4 + 1, none⟩ = some (St x.term) := hcs 1 _ rfl
        have e2 : wr.cell? ⟨g, o + i * 4 + 2, none⟩ = some (.int .i64 x.n) := hcs 2 _ rfl
        have e3 : wr.cell? ⟨g, o + i * 4 + 3, none⟩ = some (.slice a2 x.kids.length c2) := hcs 3 _ rfl
        have HCA : Hid (Calls Tryz.prog 36 #[.agg #[.int .u8 (x.kind : Int), St x.term, .int .i64 x.n, .slice a2 x.kids.length c2], .int .i64 ((t - q : Nat) : Int)] wr fun e w' => e = .returned (.int .i64 ((min (Lk.size x) (t - q + 1) : Nat) : Int)) ∧ Below w0.heap.size w0 w') := hid ((HIH.out d' hd' x _ wr (t - q) hkd (by have := HT.out; omega)).mono (fun e w' ⟨h1, h2⟩ => ⟨h1, hB.trans (h2.mono hB.size)⟩))
        have HNX : Hid (q + min (Lk.size x) (t - q + 1) = min (1 + Lk.sizes (ks.take (i + 1))) (t + 1)) := hid (by
          rw [hst]
          omega)
        obtain ⟨gx, hgx⟩ : ∃ gx, gx = min (Lk.size x) (t - q + 1) := ⟨_, rfl⟩
        rw [← hgx] at HCA HNX
        have hgl : gx ≤ t - q + 1 := by omega
        have hiw : IntKind.i64.wrap ((i : Int) + 1) = ((i + 1 : Nat) : Int) := by rw [IntKind.wrap_i64]; have := HL.out; omega
        have htq : IntKind.i64.wrap ((t : Int) - (q : Int)) = ((t - q : Nat) : Int) := by rw [IntKind.wrap_i64]; have := HT.out; omega
        have hqw : IntKind.i64.wrap ((q : Int) + (gx : Int)) = ((q + gx : Nat) : Int) := by rw [IntKind.wrap_i64]; have := HT.out; omega
        have hi0 : (0 : Int) ≤ (i : Int) := Int.natCast_nonneg _
        have hi1 : (i : Int) < (m : Int) := by omega
        have hqt : (q : Int) ≤ (t : Int) := by omega
        have HI := hid him
        clear hcs hlr hkd hc hik him hi hx hB hBw hks' hq hst hgx hgl
        go_wp2_with fail
        refine HCA.out.mono ?_
        rintro e w2 ⟨rfl, hb2⟩
        have HB2 := hid hb2
        clear hb2 HCA
        go_wp2_with fail
        go_roundg (m - (i + 1))
        case measure => have := HI.out; omega
        case rel => exact ⟨i + 1, q + gx, rfl, by have := HI.out; omega, rfl, rfl, HNX.out, HB2.out⟩
      · have HE : Hid (R = q) := hid (by
          rw [HR.out, hq]
          have := Lk.sizes_take_le ks i
          by_cases h1 : i < m
          · omega
          · rw [List.take_of_length_le (by have := HM.out; omega)])
        have HBE := hid hBw
        by_cases h1 : i < m
        · have hi1 : (i : Int) < (m : Int) := by omega
          have hqt : ¬ (q : Int) ≤ (t : Int) := by omega
          clear hB hBw hi him hq
          go_wp2_with fail
          go_ret
          exact ⟨by rw [HE.out]; rfl, HBE.out⟩
        · have hi1 : ¬ (i : Int) < (m : Int) := by omega
          clear hB hBw hi him hq
          go_wp2_with fail
          go_ret
          exact ⟨by rw [HE.out]; rfl, HBE.out⟩
end Go.Proofs.YtdllpklecdmghaaGreatDoor
/- Whether a lock's parts are right, by the document. -/
namespace Go.Proofs.YtdllpklecdmghaaGreatDoor
open Go.RowKit
open Lk (Lt)
theorem Lk.oks_step : ∀ (ks : List Lt) (i : Nat) (hi : i < ks.length), Lk.oks (ks.take (i + 1)) = (Lk.oks (ks.take i) && Lk.ok ks[i])
  | x :: ks, 0, _ => by simp [Lk.oks]
  | x :: ks, i + 1, hi => by
    have := Lk.oks_step ks i (by simpa using hi)
    rw [List.take_succ_cons, List.take_succ_cons, Lk.oks, Lk.oks, List.getElem_cons_succ, this, Bool.and_assoc]
theorem Lk.oks_no : ∀ (ks : List Lt) (i : Nat) (hi : i < ks.length), Lk.ok ks[i] = false → Lk.oks ks = false
  | x :: ks, 0, _, h => by rw [Lk.oks]; simp at h; rw [h]; rfl
  | x :: ks, i + 1, hi, h => by
    rw [Lk.oks, Lk.oks_no ks i (by simpa using hi) (by simpa using h), Bool.and_false]
theorem dk_key (c : UInt8) (r : Bs) (h : Tm.deep (c :: r) ≠ 0) : Lk.isKey (c :: r) = (decide ((c.toNat : Int) = 80) || decide ((c.toNat : Int) = 87) || decide ((c.toNat : Int) = 76)) := by
  rw [← opF_key, opF_val h]
theorem dk_hash (c : UInt8) (r : Bs) (h : Tm.deep (c :: r) ≠ 0) : Lk.isOp (c :: r) 72 = decide ((c.toNat : Int) = 72) := by
  rw [← opF_hash, opF_val h]
theorem dk_no (t : Bs) (h : Tm.deep t = 0) : Lk.isKey t = false ∧ Lk.isOp t 72 = false := by
  unfold Lk.isKey Lk.isOp
  rw [h]
  exact ⟨rfl, rfl⟩
set_option maxHeartbeats 4000000 in
theorem right_term (kd : Nat) (hkd : kd = 1 ∨ kd = 2) (t : Bs) (n : Int) (ao : Option Addr) (m cap : Nat) (w : World) : Calls Tryz.prog 37 #[.agg #[.int .u8 (kd : Int), St t, .int .i64 n, .slice ao m cap]] w fun e w' => e = .returned (.bool (fitV kd t n m)) ∧ Below w.heap.size w w' := by
  obtain ⟨w0, hw0⟩ : ∃ w0, w0 = w.alloc (.cells #[.int .u8 (kd : Int), St t, .int .i64 n, .slice ao m cap] 25) := ⟨_, rfl⟩
  have hB0 : Below w.heap.size w w0 := by rw [hw0]; exact below_al _ _
  have hbk : w0.heap[w.heap.size]? = some (.cells #[.int .u8 (kd : Int), St t, .int .i64 n, .slice ao m cap] 25 (0, 0)) := by rw [hw0]; exact heap_alloc_new w _
  have HC0 : Hid (∀ W, Below w0.heap.size w0 W → W.cell? ⟨w.heap.size, 0, none⟩ = some (.int .u8 (kd : Int)) ∧ W.cell? ⟨w.heap.size, 1, none⟩ = some (St t)) := hid (fun W hW => by
    have h := (hW.block _ (lt_of_heap hbk)).trans hbk
    exact ⟨(cell_of_heap h 0).trans rfl, (cell_of_heap h 1).trans rfl⟩)
  have HB0 := hid hB0
  have HR60 : Hid (Calls Tryz.prog 60 #[St t] w0 fun e w' => e = .returned (.bool (Tm.deep t != 0)) ∧ Below w0.heap.size w0 w') := hid (rright_any t w0)
  clear hB0 hbk
  rcases hkd with rfl | rfl
  · have hw0 : w0 = w.alloc (.cells #[.int .u8 1, St t, .int .i64 n, .slice ao m cap] 25) := hw0
    have HC0 : Hid (∀ W, Below w0.heap.size w0 W → W.cell? ⟨w.heap.size, 0, none⟩ = some (.int .u8 1) ∧ W.cell? ⟨w.heap.size, 1, none⟩ = some (St t)) := HC0
    have HRF : Hid (fitV 1 t n m = (decide (n = 0) && decide (m = 0) && Lk.isKey t)) := hid rfl
    generalize fitV 1 t n m = R at *
    by_cases hn : n = 0
    · subst hn
      by_cases hm0 : m = 0
      · subst hm0
        by_cases hd : Tm.deep t = 0
        · have HK := hid (dk_no t hd).1
          have hz : (Tm.deep t != 0) = false := by rw [hd]; rfl
          rw [hz] at HR60
          clear hd hz
          go_enter Tryz.func37, Tryz.ntmps37
          go_wp2_with fail
          rw [← hw0]
          refine HR60.out.mono ?_
          rintro e w1 ⟨rfl, hb⟩
          have HB := hid (HB0.out.trans (hb.mono HB0.out.size))
          clear hb HR60 hw0
          go_wp2_with fail
          go_ret
          exact ⟨by rw [HRF.out, HK.out]; rfl, HB.out⟩
        · obtain ⟨c, r, rfl⟩ : ∃ c r, t = c :: r := by
            cases t with
            | nil => exact absurd rfl (Tm.deep_is hd).1.2.1
            | cons c r => exact ⟨c, r, rfl⟩
          have HK := hid (dk_key c r hd)
          have hz : (Tm.deep (c :: r) != 0) = true := by simpa using hd
          rw [hz] at HR60
          obtain ⟨l, hl⟩ : ∃ l, l = c :: r := ⟨_, rfl⟩
          rw [← hl] at HR60 HK HRF HC0 hw0 ⊢
          have hsz : 0 < (⟨l.toArray⟩ : ByteArray).size := by rw [st_size, hl]; simp
          have hix := st_idx hl hsz
          clear hd hz hl
          go_enter Tryz.func37, Tryz.ntmps37
          go_wp2_with fail
          rw [← hw0]
          refine HR60.out.mono ?_
          rintro e w1 ⟨rfl, hb⟩
          obtain ⟨c0, c1⟩ := HC0.out w1 hb
          have HB := hid (HB0.out.trans (hb.mono HB0.out.size))
          clear hb HR60 hw0
          have HRK : Hid (R = (decide ((c.toNat : Int) = 80) || decide ((c.toNat : Int) = 87) || decide ((c.toNat : Int) = 76))) := hid (by rw [HRF.out, HK.out]; rfl)
          clear HRF HK
          by_cases h1 : (c.toNat : Int) = 80
          · go_wp2_with fail
            go_ret
            exact ⟨by rw [HRK.out]; simp [h1], HB.out⟩
          · by_cases h2 : (c.toNat : Int) = 87
            · go_wp2_with fail
              go_ret
              exact ⟨by rw [HRK.out]; simp [h2], HB.out⟩
            · by_cases h3 : (c.toNat : Int) = 76
              · go_wp2_with fail
                go_ret
                exact ⟨by rw [HRK.out]; simp [h3], HB.out⟩
              · go_wp2_with fail
                go_ret
                exact ⟨by rw [HRK.out]; simp [h1, h2, h3], HB.out⟩
      · have hm1 : (0 : Int) < (m : Int) := by omega
        have HK : Hid (R = false) := hid (by rw [HRF.out]; simp [hm0])
        clear HRF HR60
        go_enter Tryz.func37, Tryz.ntmps37
        go_wp2_with fail
        go_ret
        exact ⟨by rw [HK.out]; rfl, below_al _ _⟩
    · have HK : Hid (R = false) := hid (by rw [HRF.out]; simp [hn])
      clear HRF HR60
      go_enter Tryz.func37, Tryz.ntmps37
      go_wp2_with fail
      go_ret
      exact ⟨by rw [HK.out]; rfl, below_al _ _⟩
  · have hw0 : w0 = w.alloc (.cells #[.int .u8 2, St t, .int .i64 n, .slice ao m cap] 25) := hw0
    have HC0 : Hid (∀ W, Below w0.heap.size w0 W → W.cell? ⟨w.heap.size, 0, none⟩ = some (.int .u8 2) ∧ W.cell? ⟨w.heap.size, 1, none⟩ = some (St t)) := HC0
    have HRF : Hid (fitV 2 t n m = (decide (n = 0) && decide (m = 0) && Lk.isOp t 72)) := hid rfl
    generalize fitV 2 t n m = R at *
    by_cases hn : n = 0
    · subst hn
      by_cases hm0 : m = 0
      · subst hm0
        by_cases hd : Tm.deep t = 0
        · have HK := hid (dk_no t hd).2
          have hz : (Tm.deep t != 0) = false := by rw [hd]; rfl
          rw [hz] at HR60
          clear hd hz
          go_enter Tryz.func37, Tryz.ntmps37
          go_wp2_with fail
          rw [← hw0]
          refine HR60.out.mono ?_
          rintro e w1 ⟨rfl, hb⟩
          have HB := hid (HB0.out.trans (hb.mono HB0.out.size))
          clear hb HR60 hw0
          go_wp2_with fail
          go_ret
          exact ⟨by rw [HRF.out, HK.out]; rfl, HB.out⟩
        · obtain ⟨c, r, rfl⟩ : ∃ c r, t = c :: r := by
            cases t with
            | nil => exact absurd rfl (Tm.deep_is hd).1.2.1
            | cons c r => exact ⟨c, r, rfl⟩
          have HK := hid (dk_hash c r hd)
          have hz : (Tm.deep (c :: r) != 0) = true := by simpa using hd
          rw [hz] at HR60
          obtain ⟨l, hl⟩ : ∃ l, l = c :: r := ⟨_, rfl⟩
          rw [← hl] at HR60 HK HRF HC0 hw0 ⊢
          have hsz : 0 < (⟨l.toArray⟩ : ByteArray).size := by rw [st_size, hl]; simp
          have hix := st_idx hl hsz
          clear hd hz hl
          go_enter Tryz.func37, Tryz.ntmps37
          go_wp2_with fail
          rw [← hw0]
          refine HR60.out.mono ?_
          rintro e w1 ⟨rfl, hb⟩
          obtain ⟨c0, c1⟩ := HC0.out w1 hb
          have HB := hid (HB0.out.trans (hb.mono HB0.out.size))
          clear hb HR60 hw0
          have HRK : Hid (R = decide ((c.toNat : Int) = 72)) := hid (by rw [HRF.out, HK.out]; rfl)
          clear HRF HK
          by_cases h1 : (c.toNat : Int) = 72
          · go_wp2_with fail
            go_ret
            exact ⟨by rw [HRK.out]; simp [h1], HB.out⟩
          · go_wp2_with fail
            go_ret
            exact ⟨by rw [HRK.out]; simp [h1], HB.out⟩
      · have hm1 : (0 : Int) < (m : Int) := by omega
        have HK : Hid (R = false) := hid (by rw [HRF.out]; simp [hm0])
        clear HRF HR60
        go_enter Tryz.func37, Tryz.ntmps37
        go_wp2_with fail
        go_ret
        exact ⟨by rw [HK.out]; rfl, below_al _ _⟩
    · have HK : Hid (R = false) := hid (by rw [HRF.out]; simp [hn])
      clear HRF HR60
      go_enter Tryz.func37, Tryz.ntmps37
      go_wp2_with fail
      go_ret
      exact ⟨by rw [HK.out]; rfl, below_al _ _⟩
end Go.Proofs.YtdllpklecdmghaaGreatDoor
/- Whether a lock's parts are right, by the document: the kinds with a number, and all others. -/
namespace Go.Proofs.YtdllpklecdmghaaGreatDoor
open Go.RowKit
open Lk (Lt)
set_option maxHeartbeats 4000000 in
theorem right_num (kd : Nat) (hkd : kd = 3 ∨ kd = 4) (t : Bs) (n : Int) (ao : Option Addr) (m cap : Nat) (w : World) : Calls Tryz.prog 37 #[.agg #[.int .u8 (kd : Int), St t, .int .i64 n, .slice ao m cap]] w fun e w' => e = .returned (.bool (fitV kd t n m)) ∧ Below w.heap.size w w' := by
  rcases hkd with rfl | rfl
  · have HRF : Hid (fitV 3 t n m = (decide (t.length = 0) && decide (m = 0) && decide (0 ≤ n) && decide (n ≤ 1073741823))) := hid rfl
    generalize fitV 3 t n m = R at *
    cases t with
    | nil =>
      by_cases hm0 : m = 0
      · subst hm0
        by_cases h0 : 0 ≤ n
        · by_cases h1 : n < 1073741824
          · go_enter Tryz.func37, Tryz.ntmps37
            go_wp2_with fail
            go_ret
            exact ⟨by rw [HRF.out]; simp [h0, show n ≤ 1073741823 by omega], below_al _ _⟩
          · go_enter Tryz.func37, Tryz.ntmps37
            go_wp2_with fail
            go_ret
            exact ⟨by rw [HRF.out]; simp [h0, show ¬ n ≤ 1073741823 by omega], below_al _ _⟩
        · go_enter Tryz.func37, Tryz.ntmps37
          go_wp2_with fail
          go_ret
          exact ⟨by rw [HRF.out, decide_eq_false (show ¬ 0 ≤ n by omega)]; simp, below_al _ _⟩
      · have hm1 : ¬ (m : Int) = 0 := by omega
        go_enter Tryz.func37, Tryz.ntmps37
        go_wp2_with fail
        go_ret
        exact ⟨by rw [HRF.out]; simp [hm0], below_al _ _⟩
    | cons c r =>
      have HK : Hid (R = false) := hid (by rw [HRF.out]; simp)
      obtain ⟨l, hl⟩ : ∃ l, l = c :: r := ⟨_, rfl⟩
      rw [← hl]
      have hne : (l == []) = false := by rw [hl]; rfl
      have hem : List.isEmpty l = false := by rw [hl]; rfl
      have hnn : ¬ l = [] := by rw [hl]; simp
      clear hl HRF
      go_enter Tryz.func37, Tryz.ntmps37
      go_wp2_with fail
      go_ret
      exact ⟨by rw [HK.out]; rfl, below_al _ _⟩
  · have HRF : Hid (fitV 4 t n m = (decide (t.length = 0) && decide (m = 0) && decide (0 ≤ n) && decide (n ≤ 1073741823))) := hid rfl
    generalize fitV 4 t n m = R at *
    cases t with
    | nil =>
      by_cases hm0 : m = 0
      · subst hm0
        by_cases h0 : 0 ≤ n
        · by_cases h1 : n < 1073741824
          · go_enter Tryz.func37, Tryz.ntmps37
            go_wp2_with fail
            go_ret
            exact ⟨by rw [HRF.out]; simp [h0, show n ≤ 1073741823 by omega], below_al _ _⟩
          · go_enter Tryz.func37, Tryz.ntmps37
            go_wp2_with fail
            go_ret
            exact ⟨by rw [HRF.out]; simp [h0, show ¬ n ≤ 1073741823 by omega], below_al _ _⟩
        · go_enter Tryz.func37, Tryz.ntmps37
          go_wp2_with fail
          go_ret
          exact ⟨by rw [HRF.out, decide_eq_false (show ¬ 0 ≤ n by omega)]; simp, below_al _ _⟩
      · have hm1 : ¬ (m : Int) = 0 := by omega
        go_enter Tryz.func37, Tryz.ntmps37
        go_wp2_with fail
        go_ret
        exact ⟨by rw [HRF.out]; simp [hm0], below_al _ _⟩
    | cons c r =>
      have HK : Hid (R = false) := hid (by rw [HRF.out]; simp)
      obtain ⟨l, hl⟩ : ∃ l, l = c :: r := ⟨_, rfl⟩
      rw [← hl]
      have hne : (l == []) = false := by rw [hl]; rfl
      have hem : List.isEmpty l = false := by rw [hl]; rfl
      have hnn : ¬ l = [] := by rw [hl]; simp
      clear hl HRF
      go_enter Tryz.func37, Tryz.ntmps37
      go_wp2_with fail
      go_ret
      exact ⟨by rw [HK.out]; rfl, below_al _ _⟩
theorem right_else (kd : Nat) (h : ¬ (kd = 1 ∨ kd = 2 ∨ kd = 3 ∨ kd = 4 ∨ kd = 5 ∨ kd = 6)) (t : Bs) (n : Int) (ao : Option Addr) (m cap : Nat) (w : World) : Calls Tryz.prog 37 #[.agg #[.int .u8 (kd : Int), St t, .int .i64 n, .slice ao m cap]] w fun e w' => e = .returned (.bool (fitV kd t n m)) ∧ Below w.heap.size w w' := by
  have HR : Hid (fitV kd t n m = false) := hid (by unfold fitV; rw [if_neg (by omega), if_neg (by omega), if_neg (by omega), if_neg (by omega)])
  have i1 : ¬ (kd : Int) = 1 := by omega
  have i2 : ¬ (kd : Int) = 2 := by omega
  have i3 : ¬ (kd : Int) = 3 := by omega
  have i4 : ¬ (kd : Int) = 4 := by omega
  have i5 : ¬ (kd : Int) = 5 := by omega
  have i6 : ¬ (kd : Int) = 6 := by omega
  clear h
  generalize fitV kd t n m = R at *
  go_enter Tryz.func37, Tryz.ntmps37
  go_wp2_with fail
  go_ret
  exact ⟨by rw [HR.out]; rfl, below_al _ _⟩
end Go.Proofs.YtdllpklecdmghaaGreatDoor
/- Whether a lock is right, by the document. -/
namespace Go.Proofs.YtdllpklecdmghaaGreatDoor
open Go.RowKit
open Lk (Lt)
set_option maxHeartbeats 8000000 in
theorem right_parts {b : Nat → Prop} (d : Nat) (ih : ∀ d' < d, ∀ (l : Lt) (kv : Value) (w : World), Kd b w d' kv l.kids → Calls Tryz.prog 37 #[.agg (lcs l kv)] w fun e w' => e = .returned (.bool (Lk.ok l)) ∧ Below w.heap.size w w') (kd : Nat) (hkd : kd = 5 ∨ kd = 6) (t : Bs) (n : Int) (ao : Option Addr) (m cap : Nat) (ks : List Lt) (hm : m = ks.length) (w : World) (hks : Kr b w d ao ks) : Calls Tryz.prog 37 #[.agg #[.int .u8 (kd : Int), St t, .int .i64 n, .slice ao m cap]] w fun e w' => e = .returned (.bool (fitV kd t n m && Lk.oks ks)) ∧ Below w.heap.size w w' := by
  have HM := hid hm
  have HKS := hid hks
  have HIH := hid ih
  clear hks hm ih
  obtain ⟨w0, hw0⟩ : ∃ w0, w0 = w.alloc (.cells #[.int .u8 (kd : Int), St t, .int .i64 n, .slice ao m cap] 25) := ⟨_, rfl⟩
  have HB0 : Hid (Below w.heap.size w w0) := hid (by rw [hw0]; exact below_al _ _)
  have HC0 : Hid (∀ W, Below w0.heap.size w0 W → W.cell? ⟨w.heap.size, 3, none⟩ = some (.slice ao m cap)) := hid (fun W hW => cell_later hW (by rw [hw0]; exact (cell_of_heap (heap_alloc_new w _) 3).trans rfl))
  rcases hkd with rfl | rfl
  · have hw0 : w0 = w.alloc (.cells #[.int .u8 5, St t, .int .i64 n, .slice ao m cap] 25) := hw0
    have HC0 : Hid (∀ W, Below w0.heap.size w0 W → W.cell? ⟨w.heap.size, 3, none⟩ = some (.slice ao m cap)) := HC0
    have HRF : Hid (fitV 5 t n m = (decide (t.length = 0) && decide (n = 0) && decide (m ≠ 0) && decide (m ≤ 8))) := hid rfl
    generalize fitV 5 t n m = R at *
    cases t with
    | cons c r =>
      have HK : Hid (R = false) := hid (by rw [HRF.out]; simp)
      obtain ⟨l, hl⟩ : ∃ l, l = c :: r := ⟨_, rfl⟩
      rw [← hl]
      have hne : (l == []) = false := by rw [hl]; rfl
      have hem : List.isEmpty l = false := by rw [hl]; rfl
      have hnn : ¬ l = [] := by rw [hl]; simp
      clear hl HRF hw0
      go_enter Tryz.func37, Tryz.ntmps37
      go_wp2_with fail
      go_ret
      exact ⟨by rw [HK.out]; rfl, below_al _ _⟩
    | nil =>
      by_cases hn : n = 0
      · subst hn
        by_cases hm0 : m = 0
        · subst hm0
          clear hw0
          go_enter Tryz.func37, Tryz.ntmps37
          go_wp2_with fail
          go_ret
          exact ⟨by rw [HRF.out]; rfl, below_al _ _⟩
        · have hm1 : ¬ (m : Int) < 1 := by omega
          by_cases hm8 : m ≤ 8
          · have hm9 : ¬ (8 : Int) < (m : Int) := by omega
            have HRT : Hid (R = true) := hid (by rw [HRF.out]; simp [hm0, hm8])
            have HM8 := hid hm8
            clear HRF hm0 hm8
            go_enter Tryz.func37, Tryz.ntmps37
            go_wp2_with fail
            rw [← hw0]
            clear hw0
            go_loopg [4] m (fun gg v4 wr => ∃ i : Nat, gg = m - i ∧ i ≤ m ∧ v4 = .int .i64 (i : Int) ∧ Lk.oks (ks.take i) = true ∧ Below w0.heap.size w0 wr)
            case atStart => exact ⟨0, rfl, Nat.zero_le _, rfl, rfl, Below.refl _ _⟩
            case round =>
              obtain ⟨i, rfl, hi, rfl, hok, hB⟩ := hrel
              have c3 := HC0.out wr hB
              have hBw : Below w.heap.size w wr := HB0.out.trans (hB.mono HB0.out.size)
              by_cases him : i < m
              · have hik : i < ks.length := by have := HM.out; omega
                obtain ⟨g, o, hg, _, hc⟩ := (HKS.out.low hBw) (show 0 < ks.length by omega)
                subst hg
                obtain ⟨kv, hcs, hlr, d', hd', hkd⟩ := hc i hik
                have hst := Lk.oks_step ks i hik
                have hno := Lk.oks_no ks i hik
                obtain ⟨x, hx⟩ : ∃ x, x = ks[i] := ⟨_, rfl⟩
                rw [← hx] at hcs hlr hkd hst hno
                obtain ⟨_, a2, c2, rfl⟩ := hkd.shape
                have e0 : wr.cell? ⟨g, o + i * 4, none⟩ = some (.int .u8 (x.kind : Int)) := hcs 0 _ rfl
                have e1 : wr.cell? ⟨g, o + i * 4 + 1, none⟩ = some (St x.term) := hcs 1 _ rfl
                have e2 : wr.cell? ⟨g, o + i * 4 + 2, none⟩ = some (.int .i64 x.n) := hcs 2 _ rfl
                have e3 : wr.cell? ⟨g, o + i * 4 + 3, none⟩ = some (.slice a2 x.kids.length c2) := hcs 3 _ rfl
                have HCA : Hid (Calls Tryz.prog 37 #[.agg #[.int .u8 (x.kind : Int), St x.term, .int .i64 x.n, .slice a2 x.kids.length c2]] wr fun e w' => e = .returned (.bool (Lk.ok x)) ∧ Below w0.heap.size w0 w') := hid ((HIH.out d' hd' x _ wr hkd).mono (fun e w' ⟨h1, h2⟩ => ⟨h1, hB.trans (h2.mono hB.size)⟩))
                have HST : Hid (Lk.ok x = true → Lk.oks (ks.take (i + 1)) = true) := hid (fun h => by rw [hst, hok, h]; rfl)
                have HNO := hid hno
                have hiw : IntKind.i64.wrap ((i : Int) + 1) = ((i + 1 : Nat) : Int) := by rw [IntKind.wrap_i64]; have := HM8.out; omega
                have hi0 : (0 : Int) ≤ (i : Int) := Int.natCast_nonneg _
                have hi1 : (i : Int) < (m : Int) := by omega
                have HI := hid him
                clear hcs hlr hkd hc hik him hi hx hB hBw hst hno hok
                go_wp2_with fail
                refine HCA.out.mono ?_
                rintro e w2 ⟨rfl, hb2⟩
                have HB2 := hid hb2
                clear hb2 HCA
                cases hox : Lk.ok x with
                | false =>
                  have HZ := hid (HNO.out hox)
                  have HBZ := hid (HB0.out.trans (HB2.out.mono HB0.out.size))
                  clear hox HNO HST
                  go_wp2_with fail
                  go_ret
                  exact ⟨by rw [HZ.out, Bool.and_false]; rfl, HBZ.out⟩
                | true =>
                  have HZ := hid (HST.out hox)
                  clear hox HNO HST
                  go_wp2_with fail
                  go_roundg (m - (i + 1))
                  case measure => have := HI.out; omega
                  case rel => exact ⟨i + 1, rfl, by have := HI.out; omega, rfl, HZ.out, HB2.out⟩
              · have hi1 : ¬ (i : Int) < (m : Int) := by omega
                have HBE := hid hBw
                have HZ : Hid (Lk.oks ks = true) := hid (by rw [List.take_of_length_le (by have := HM.out; omega)] at hok; exact hok)
                clear hB hBw hi him hok
                go_wp2_with fail
                go_ret
                exact ⟨by rw [HRT.out, HZ.out]; rfl, HBE.out⟩
          · have hm9 : (8 : Int) < (m : Int) := by omega
            have HK : Hid (R = false) := hid (by rw [HRF.out]; simp [hm8])
            clear HRF hw0
            go_enter Tryz.func37, Tryz.ntmps37
            go_wp2_with fail
            go_ret
            exact ⟨by rw [HK.out]; rfl, below_al _ _⟩
      · have HK : Hid (R = false) := hid (by rw [HRF.out]; simp [hn])
        clear HRF hw0
        go_enter Tryz.func37, Tryz.ntmps37
        go_wp2_with fail
        go_ret
        exact ⟨by rw [HK.out]; rfl, below_al _ _⟩
  · have hw0 : w0 = w.alloc (.cells #[.int .u8 6, St t, .int .i64 n, .slice ao m cap] 25) := hw0
    have HC0 : Hid (∀ W, Below w0.heap.size w0 W → W.cell? ⟨w.heap.size, 3, none⟩ = some (.slice ao m cap)) := HC0
    have HRF : Hid (fitV 6 t n m = (decide (t.length = 0) && decide (n = 0) && decide (m ≠ 0) && decide (m ≤ 8))) := hid rfl
    generalize fitV 6 t n m = R at *
    cases t with
    | cons c r =>
      have HK : Hid (R = false) := hid (by rw [HRF.out]; simp)
      obtain ⟨l, hl⟩ : ∃ l, l = c :: r := ⟨_, rfl⟩
      rw [← hl]
      have hne : (l == []) = false := by rw [hl]; rfl
      have hem : List.isEmpty l = false := by rw [hl]; rfl
      have hnn : ¬ l = [] := by rw [hl]; simp
      clear hl HRF hw0
      go_enter Tryz.func37, Tryz.ntmps37
      go_wp2_with fail
      go_ret
      exact ⟨by rw [HK.out]; rfl, below_al _ _⟩
    | nil =>
      by_cases hn : n = 0
      · subst hn
        by_cases hm0 : m = 0
        · subst hm0
          clear hw0
          go_enter Tryz.func37, Tryz.ntmps37
          go_wp2_with fail
          go_ret
          exact ⟨by rw [HRF.out]; rfl, below_al _ _⟩
        · have hm1 : ¬ (m : Int) < 1 := by omega
          by_cases hm8 : m ≤ 8
          · have hm9 : ¬ (8 : Int) < (m : Int) := by omega
            have HRT : Hid (R = true) := hid (by rw [HRF.out]; simp [hm0, hm8])
            have HM8 := hid hm8
            clear HRF hm0 hm8
            go_enter Tryz.func37, Tryz.ntmps37
            go_wp2_with fail
            rw [← hw0]
            clear hw0
            go_loopg [4] m (fun gg v4 wr => ∃ i : Nat, gg = m - i ∧ i ≤ m ∧ v4 = .int .i64 (i : Int) ∧ Lk.oks (ks.take i) = true ∧ Below w0.heap.size w0 wr)
            case atStart => exact ⟨0, rfl, Nat.zero_le _, rfl, rfl, Below.refl _ _⟩
            case round =>
              obtain ⟨i, rfl, hi, rfl, hok, hB⟩ := hrel
              have c3 := HC0.out wr hB
              have hBw : Below w.heap.size w wr := HB0.out.trans (hB.mono HB0.out.size)
              by_cases him : i < m
              · have hik : i < ks.length := by have := HM.out; omega
                obtain ⟨g, o, hg, _, hc⟩ := (HKS.out.low hBw) (show 0 < ks.length by omega)
                subst hg
                obtain ⟨kv, hcs, hlr, d', hd', hkd⟩ := hc i hik
                have hst := Lk.oks_step ks i hik
                have hno := Lk.oks_no ks i hik
                obtain ⟨x, hx⟩ : ∃ x, x = ks[i] := ⟨_, rfl⟩
                rw [← hx] at hcs hlr hkd hst hno
                obtain ⟨_, a2, c2, rfl⟩ := hkd.shape
                have e0 : wr.cell? ⟨g, o + i * 4, none⟩ = some (.int .u8 (x.kind : Int)) := hcs 0 _ rfl
                have e1 : wr.cell? ⟨g, o + i * 4 + 1, none⟩ = some (St x.term) := hcs 1 _ rfl
                have e2 : wr.cell? ⟨g, o + i * 4 + 2, none⟩ = some (.int .i64 x.n) := hcs 2 _ rfl
                have e3 : wr.cell? ⟨g, o + i * 4 + 3, none⟩ = some (.slice a2 x.kids.length c2) := hcs 3 _ rfl
                have HCA : Hid (Calls Tryz.prog 37 #[.agg #[.int .u8 (x.kind : Int), St x.term, .int .i64 x.n, .slice a2 x.kids.length c2]] wr fun e w' => e = .returned (.bool (Lk.ok x)) ∧ Below w0.heap.size w0 w') := hid ((HIH.out d' hd' x _ wr hkd).mono (fun e w' ⟨h1, h2⟩ => ⟨h1, hB.trans (h2.mono hB.size)⟩))
                have HST : Hid (Lk.ok x = true → Lk.oks (ks.take (i + 1)) = true) := hid (fun h => by rw [hst, hok, h]; rfl)
                have HNO := hid hno
                have hiw : IntKind.i64.wrap ((i : Int) + 1) = ((i + 1 : Nat) : Int) := by rw [IntKind.wrap_i64]; have := HM8.out; omega
                have hi0 : (0 : Int) ≤ (i : Int) := Int.natCast_nonneg _
                have hi1 : (i : Int) < (m : Int) := by omega
                have HI := hid him
                clear hcs hlr hkd hc hik him hi hx hB hBw hst hno hok
                go_wp2_with fail
                refine HCA.out.mono ?_
                rintro e w2 ⟨rfl, hb2⟩
                have HB2 := hid hb2
                clear hb2 HCA
                cases hox : Lk.ok x with
                | false =>
                  have HZ := hid (HNO.out hox)
                  have HBZ := hid (HB0.out.trans (HB2.out.mono HB0.out.size))
                  clear hox HNO HST
                  go_wp2_with fail
                  go_ret
                  exact ⟨by rw [HZ.out, Bool.and_false]; rfl, HBZ.out⟩
                | true =>
                  have HZ := hid (HST.out hox)
                  clear hox HNO HST
                  go_wp2_with fail
                  go_roundg (m - (i + 1))
                  case measure => have := HI.out; omega
                  case rel => exact ⟨i + 1, rfl, by have := HI.out; omega, rfl, HZ.out, HB2.out⟩
              · have hi1 : ¬ (i : Int) < (m : Int) := by omega
                have HBE := hid hBw
                have HZ : Hid (Lk.oks ks = true) := hid (by rw [List.take_of_length_le (by have := HM.out; omega)] at hok; exact hok)
                clear hB hBw hi him hok
                go_wp2_with fail
                go_ret
                exact ⟨by rw [HRT.out, HZ.out]; rfl, HBE.out⟩
          · have hm9 : (8 : Int) < (m : Int) := by omega
            have HK : Hid (R = false) := hid (by rw [HRF.out]; simp [hm8])
            clear HRF hw0
            go_enter Tryz.func37, Tryz.ntmps37
            go_wp2_with fail
            go_ret
            exact ⟨by rw [HK.out]; rfl, below_al _ _⟩
      · have HK : Hid (R = false) := hid (by rw [HRF.out]; simp [hn])
        clear HRF hw0
        go_enter Tryz.func37, Tryz.ntmps37
        go_wp2_with fail
        go_ret
        exact ⟨by rw [HK.out]; rfl, below_al _ _⟩
theorem dright_any {b : Nat → Prop} (d : Nat) : ∀ (l : Lt) (kv : Value) (w : World), Kd b w d kv l.kids → Calls Tryz.prog 37 #[.agg (lcs l kv)] w fun e w' => e = .returned (.bool (Lk.ok l)) ∧ Below w.heap.size w w' := by
  induction d using Nat.strongRecOn with
  | ind d ih =>
    intro l kv w hk
    obtain ⟨kd, t, n, ks⟩ := l
    obtain ⟨hl, ao, cap, rfl, hks⟩ := hk.parts
    have hks : Kr b w d ao ks := hks
    have hok : Lk.ok (.mk kd t n ks) = (fitV kd t n ks.length && Lk.oks ks) := by rw [Lk.ok]; rfl
    have hno : kd ≤ 4 → fitV kd t n ks.length = true → ks = [] := fun hkd hf => by
      by_cases h0 : ks.length = 0
      · exact List.eq_nil_of_length_eq_zero h0
      · exfalso
        have hd : decide (ks.length = 0) = false := decide_eq_false h0
        unfold fitV at hf
        rw [hd] at hf
        split at hf
        · simp at hf
        · split at hf
          · simp at hf
          · split at hf
            · simp at hf
            · split at hf
              · omega
              · cases hf
    have hz : kd ≤ 4 → Lk.ok (.mk kd t n ks) = fitV kd t n ks.length := fun hkd => by
      rw [hok]
      cases hf : fitV kd t n ks.length with
      | false => rfl
      | true => rw [hno hkd hf]; rfl
    show Calls Tryz.prog 37 #[.agg #[.int .u8 (kd : Int), St t, .int .i64 n, .slice ao ks.length cap]] w fun e w' => e = .returned (.bool (Lk.ok (.mk kd t n ks))) ∧ Below w.heap.size w w'
    by_cases h12 : kd = 1 ∨ kd = 2
    · rw [hz (by omega)]
      exact right_term kd h12 t n ao ks.length cap w
    · by_cases h34 : kd = 3 ∨ kd = 4
      · rw [hz (by omega)]
        exact right_num kd h34 t n ao ks.length cap w
      · by_cases h56 : kd = 5 ∨ kd = 6
        · rw [hok]
          exact right_parts d ih kd h56 t n ao ks.length cap ks rfl w hks
        · have hf : fitV kd t n ks.length = false := by unfold fitV; rw [if_neg (by omega), if_neg (by omega), if_neg (by omega), if_neg (by omega)]
          rw [hok, hf, Bool.false_and, ← hf]
          exact right_else kd (by omega) t n ao ks.length cap w
set_option maxHeartbeats 4000000 in
theorem dR_any {b : Nat → Prop} (d : Nat) (l : Lt) (kv : Value) (w : World) (hk : Kd b w d kv l.kids) : Calls Tryz.prog 11 #[.agg (lcs l kv)] w fun e w' => e = .returned (.bool (Lk.right l)) ∧ Below w.heap.size w w' := by
  obtain ⟨_, ao, cap, rfl⟩ := hk.shape
  have HR : Hid (Lk.right l = (decide (min (Lk.size l) 65 ≤ 64) && Lk.ok l)) := hid (by
    rw [Bool.eq_iff_iff, Lk.right_is, Bool.and_eq_true, decide_eq_true_iff]
    constructor
    · rintro ⟨h1, h2⟩
      exact ⟨by omega, h1⟩
    · rintro ⟨h1, h2⟩
      exact ⟨h2, by omega⟩)
  obtain ⟨w0, hw0⟩ : ∃ w0, w0 = w.alloc (.cells #[.int .u8 (l.kind : Int), St l.term, .int .i64 l.n, .slice ao l.kids.length cap] 25) := ⟨_, rfl⟩
  have hB0 : Below w.heap.size w w0 := by rw [hw0]; exact below_al _ _
  have hbk : w0.heap[w.heap.size]? = some (.cells #[.int .u8 (l.kind : Int), St l.term, .int .i64 l.n, .slice ao l.kids.length cap] 25 (0, 0)) := by rw [hw0]; exact heap_alloc_new w _
  have HC0 : Hid (∀ W, Below w0.heap.size w0 W → W.cell? ⟨w.heap.size, 0, none⟩ = some (.int .u8 (l.kind : Int)) ∧ W.cell? ⟨w.heap.size, 1, none⟩ = some (St l.term) ∧ W.cell? ⟨w.heap.size, 2, none⟩ = some (.int .i64 l.n) ∧ W.cell? ⟨w.heap.size, 3, none⟩ = some (.slice ao l.kids.length cap)) := hid (fun W hW => by
    have h := (hW.block _ (lt_of_heap hbk)).trans hbk
    exact ⟨(cell_of_heap h 0).trans rfl, (cell_of_heap h 1).trans rfl, (cell_of_heap h 2).trans rfl, (cell_of_heap h 3).trans rfl⟩)
  have H1 : Hid (Calls Tryz.prog 36 #[.agg #[.int .u8 (l.kind : Int), St l.term, .int .i64 l.n, .slice ao l.kids.length cap], .int .i64 64] w0 fun e w' => e = .returned (.int .i64 ((min (Lk.size l) 65 : Nat) : Int)) ∧ Below w0.heap.size w0 w') := hid (count_any d l _ w0 64 (hk.low hB0) (by decide))
  have H2 : Hid (∀ W, Below w0.heap.size w0 W → Calls Tryz.prog 37 #[.agg #[.int .u8 (l.kind : Int), St l.term, .int .i64 l.n, .slice ao l.kids.length cap]] W fun e w' => e = .returned (.bool (Lk.ok l)) ∧ Below w0.heap.size w0 w') := hid (fun W hW => (dright_any d l _ W ((hk.low hB0).low hW)).mono (fun e w' ⟨h1, h2⟩ => ⟨h1, hW.trans (h2.mono hW.size)⟩))
  have HB0 := hid hB0
  show Calls Tryz.prog 11 #[.agg #[.int .u8 (l.kind : Int), St l.term, .int .i64 l.n, .slice ao l.kids.length cap]] w fun e w' => e = .returned (.bool (Lk.right l)) ∧ Below w.heap.size w w'
  clear hB0 hbk hk
  generalize Lk.right l = R at *
  generalize Lk.ok l = K at *
  obtain ⟨z, hz⟩ : ∃ z, z = min (Lk.size l) 65 := ⟨_, rfl⟩
  rw [← hz] at HR H1
  clear hz
  go_enter Tryz.func11, Tryz.ntmps11
  go_wp2_with fail
  rw [← hw0]
  clear hw0
  refine H1.out.mono ?_
  rintro e w1 ⟨rfl, hb⟩
  obtain ⟨c0, c1, c2, c3⟩ := HC0.out w1 hb
  have HB1 := hid hb
  clear hb H1
  by_cases hzl : z ≤ 64
  · have hzi : (z : Int) ≤ 64 := by omega
    have HF : Hid (R = K) := hid (by rw [HR.out, decide_eq_true hzl, Bool.true_and])
    clear HR hzl
    go_wp2_with fail
    refine (H2.out w1 HB1.out).mono ?_
    rintro e w2 ⟨rfl, hb⟩
    have HB2 := hid (HB0.out.trans (hb.mono HB0.out.size))
    clear hb H2
    go_wp2_with fail
    go_ret
    exact ⟨by rw [HF.out]; rfl, HB2.out⟩
  · have hzi : ¬ (z : Int) ≤ 64 := by omega
    have HF : Hid (R = false) := hid (by rw [HR.out, decide_eq_false hzl, Bool.false_and])
    have HB2 := hid (HB0.out.trans (HB1.out.mono HB0.out.size))
    clear HR hzl
    go_wp2_with fail
    go_ret
    exact ⟨by rw [HF.out]; rfl, HB2.out⟩
end Go.Proofs.YtdllpklecdmghaaGreatDoor
