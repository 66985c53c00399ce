/- The law TlvStreams. -/
import Derived.Test.YtcmbijckhcckpaaLent
import Derived.Test.YtcmbijckhcckpaaLBack
namespace Go.Proofs.Ytcmbijckhcckpaa
open Go.RowKit

/-- records whose bodies may be written over -/
structure Wb (B : Nat) (w : World) (v : Value) (L : List Rec) : Prop where
  row : ∃ bs, bs.length = L.length ∧ w.ownsRow B 39 2 v L.length (rcells L bs) ∧ ∀ i (h : i < L.length) (h' : i < bs.length), ∃ ab cb, bs[i] = .slice ab L[i].2.length cb ∧ (0 < L[i].2.length → ∃ g cur, ab = some ⟨g, 0, none⟩ ∧ B ≤ g ∧ w.heap[g]? = some (.cells cur 5 (0, 0)) ∧ L[i].2.length ≤ cur.size)
theorem Ro.wb {B : Nat} {w : World} {v : Value} {L : List Rec} (h : Ro B w v L) : Wb B w v L := by
  obtain ⟨bs, h1, h2, h3⟩ := h.row
  refine ⟨bs, h1, h2, fun i hi hi' => ?_⟩
  have h4 := h3 i hi hi'
  rcases h4.2 with ⟨h5, h6⟩ | ⟨g, cap, cur, h5, h6, h7, h8, h9, h10, _⟩
  · rw [h6]; exact ⟨none, 0, h5, fun h => by omega⟩
  · exact ⟨_, _, h5, fun _ => ⟨g, cur, rfl, h6, h7, by omega⟩⟩
theorem Wb.set {B : Nat} {w : World} {v : Value} {L : List Rec} (h : Wb B w v L) {g : Nat} {cur : Array Value} (hg : w.heap[g]? = some (.cells cur 5 (0, 0))) (k : Nat) (x : Value) : Wb B (w.setCell ⟨g, k, none⟩ x) v L := by
  obtain ⟨bs, h1, h2, h3⟩ := h.row
  refine ⟨bs, h1, ownsRow_same h2 (fun r e => Below.heap_setCell _ _ _ _ (fun e' => ?_)), fun i hi hi' => ?_⟩
  · subst e'
    rcases h2.2 with ⟨h5, _⟩ | ⟨r2, _, cur2, h5, _, h7, _⟩
    · rw [h5] at e; cases e
    · rw [h5] at e
      cases e
      simp only at hg
      rw [hg] at h7
      cases h7
  · obtain ⟨ab, cb, h4, h5⟩ := h3 i hi hi'
    refine ⟨ab, cb, h4, fun hp => ?_⟩
    obtain ⟨g2, cur2, e1, e2, e3, e4⟩ := h5 hp
    by_cases hgg : g2 = g
    · subst hgg
      rw [e3] at hg
      cases hg
      exact ⟨g2, _, e1, e2, heap_setCell_same e3 k x, by simpa using e4⟩
    · exact ⟨g2, cur2, e1, e2, (Below.heap_setCell _ _ _ _ hgg).trans e3, e4⟩
theorem below_set {B : Nat} {w0 w : World} {g : Nat} (h : Below B w0 w) (hg : B ≤ g) (k : Nat) (x : Value) : Below B w0 (w.setCell ⟨g, k, none⟩ x) :=
  ⟨h.os, h.tape, h.output, by have := h.size; simpa [World.setCell] using this, fun i hi => by rw [Below.heap_setCell _ _ _ _ (by show i ≠ g; omega)]; exact h.block i hi⟩
/-- the place of a record's body -/
theorem Wb.at {B : Nat} {w : World} {ao : Option Addr} {n cap : Nat} {L : List Rec} (h : Wb B w (.slice ao n cap) L) {i : Nat} (hi : i < L.length) : ∃ r ab cb, ao = some ⟨r, 0, none⟩ ∧ n = L.length ∧ n ≤ cap ∧ w.cell? ⟨r, i * 2 + 1, none⟩ = some (.slice ab L[i].2.length cb) ∧ (0 < L[i].2.length → ∃ g cur, ab = some ⟨g, 0, none⟩ ∧ B ≤ g ∧ w.heap[g]? = some (.cells cur 5 (0, 0)) ∧ L[i].2.length ≤ cur.size) := by
  obtain ⟨bs, h1, h2, h3⟩ := h.row
  have h2' := h2
  obtain ⟨ab, cb, h4, h5⟩ := h3 i hi (by omega)
  rcases h2.2 with ⟨h6, h7⟩ | ⟨g, cap2, cur, h6, h7, h8, h9, _⟩
  · omega
  · cases h6
    have hg := (rcells_get L bs i h1 hi).2
    have := h2'.cells (g := g) rfl _ _ hg
    rw [add_plain, Nat.zero_add, h4] at this
    exact ⟨g, ab, cb, rfl, rfl, h9, this, h5⟩

set_option maxRecDepth 100000 in
set_option maxHeartbeats 16000000 in
theorem streams_any (w : World) (v u : Value) (L : List Rec) (b : Bs) (hL : Rcs w v L) (ht : ∀ i (h : i < L.length), L[i].1 < 18446744073709551616) (hb : Sl w u b) :
    Calls Try.prog 4 #[v, u] w fun e w' => e = .returned (.bool true) ∧ Below w.heap.size w w' := by
  obtain ⟨al, cl, rfl⟩ := hL.shape
  obtain ⟨ab, cb, rfl⟩ := hb.shape
  have HL := hid hL
  have HB := hid hb
  have HT := hid ht
  have HSZ := hid (rsize_any w _ L hL)
  obtain ⟨n, hn⟩ : ∃ n, n = L.length := ⟨_, rfl⟩
  obtain ⟨m, hm⟩ : ∃ m, m = b.length := ⟨_, rfl⟩
  rw [← hn, ← hm]
  rw [← hn] at HSZ
  have HN := hid hn
  have HM := hid hm
  clear hL hb ht hn hm
  go_enter Try.func4, Try.ntmps4
  go_wp2_with fail
  refine HSZ.out.mono ?_
  rintro e w0 ⟨r, rfl, hr, hw0⟩
  subst hw0
  have HR := hid hr
  clear hr HSZ
  by_cases hr3 : r ≤ 3000
  · have hr1 : ¬ (3000 : Int) < (r : Int) := by omega
    have hr2 : decide ((3000 : Int) < (r : Int)) = false := by simpa using hr1
    by_cases hm3 : m ≤ 3000
    · have hm1 : ¬ (3000 : Int) < (m : Int) := by omega
      have HSM := hid (HR.out hr3)
      have HFW := hid (HSM.out.few HT.out)
      have HS1 := hid (rstream_any w0 _ L HL.out HFW.out)
      have HS3 := hid (fun W vv (h : Rcs W vv L) => stream_any W vv L h HFW.out)
      have HR4 := hid (fun W (h : Below w0.heap.size w0 W) => rrecords_any W _ b (HB.out.below h) (by rw [← HM.out]; omega))
      have HR6 := hid (fun W vv (h : Sl W vv b) => records_any W vv b h (by rw [← HM.out]; omega))
      have HLE := hid (fun W (h : Below w0.heap.size w0 W) => lent_any W _ L (HL.out.below h) HSM.out)
      generalize hsr : streamR L = sr at *
      obtain ⟨S, ec⟩ := sr
      generalize hrr : recsB b = rr at *
      obtain ⟨R, er⟩ := rr
      simp only [streamed] at HS1 HS3
      simp only [recorded] at HR4 HR6
      have HRF : Hid (R.length ≤ 140737488355328) := hid (by
        by_cases h : er = 0
        · subst h; have := (recs_few hrr).2; omega
        · rw [recs_err hrr h]; simp)
      have HRB : Hid (∀ i (h : i < R.length), R[i].2.length ≤ 140737488355328) := hid (by
        by_cases h : er = 0
        · subst h; exact fun i hi => ((recs_few hrr).1.2 i hi).2
        · have := recs_err hrr h
          subst this
          exact fun i hi => by simp at hi)
      clear hsr hrr
      obtain ⟨sl, hsl⟩ : ∃ k, k = S.length := ⟨_, rfl⟩
      obtain ⟨rl, hrl⟩ : ∃ k, k = R.length := ⟨_, rfl⟩
      rw [← hsl] at HS1 HS3
      rw [← hrl] at HR4 HR6
      rw [← HN.out] at HS1 HLE
      rw [← HM.out] at HR4
      have HSLN := hid hsl
      have HRLN := hid hrl
      have hrl64 : rl ≤ 140737488355328 := by rw [hrl]; exact HRF.out
      clear hsl hrl
      go_wp2_with fail
      refine HS1.out.mono ?_
      rintro e w1 ⟨a1, c1, rfl, ho1, hb1⟩
      have HC1 := hid (Sl.own ho1 HSLN.out)
      have HB1 := hid hb1
      clear ho1 hb1 HS1
      go_wp2_with fail
      refine (HLE.out _ HB1.out).mono ?_
      rintro e w2 ⟨a2, c2, rfl, ho2, hb2⟩
      have HI2 : Hid (Rcs w2 (.slice a2 n c2) L) := hid ho2.rcs
      have HB2 := hid (two_below HB1.out hb2)
      have HC2 := hid (HC1.out.below hb2)
      clear ho2 hb2 HLE HC1
      go_wp2_with fail
      refine (HS3.out _ _ HI2.out).mono ?_
      rintro e w3 ⟨a3, c3, rfl, ho3, hb3⟩
      have HD3 := hid (Sl.own ho3 HSLN.out)
      have HB3 := hid (two_below HB2.out hb3)
      have HC3 := hid (HC2.out.below hb3)
      have HI3 := hid (HI2.out.below hb3)
      clear ho3 hb3 HS3 HC2 HI2
      go_wp2_with fail
      refine (HR4.out _ HB3.out).mono ?_
      rintro e w4 ⟨a4, c4, rfl, ho4, hb4⟩
      have HA4 : Hid (Rcs w4 (.slice a4 rl c4) R) := hid ho4.rcs
      have HB4 := hid (two_below HB3.out hb4)
      have HD4 := hid (HD3.out.below hb4)
      have HC4 := hid (HC3.out.below hb4)
      have HI4 := hid (HI3.out.below hb4)
      clear ho4 hb4 HR4 HD3 HC3 HI3 HB1 HB2 HB3
      obtain ⟨c5, w5, q5, hs5, hb5⟩ := string_bytes w4 b
      have q4 := (HB.out.below HB4.out).string
      rw [← HM.out] at q5 hs5 q4
      have HS5 := hid hs5
      have HB5 := hid (two_below HB4.out hb5)
      have HA5 := hid (HA4.out.below hb5)
      have HD5 := hid (HD4.out.below hb5)
      have HC5 := hid (HC4.out.below hb5)
      have HI5 := hid (HI4.out.below hb5)
      clear hs5 hb5 HA4 HD4 HC4 HI4 HB4
      go_wp2_with fail
      refine (HR6.out _ _ HS5.out).mono ?_
      rintro e w6 ⟨a6, c6, rfl, ho6, hb6⟩
      have HO6 := hid ho6
      have HF6 := hid hb6
      have p1 := (HD5.out.below hb6).string
      have p2 := (HC5.out.below hb6).string
      have HSA := hid (same_yes w6 _ _ R ho6.rcs (HA5.out.below hb6) (by rw [← HRLN.out]; exact hrl64))
      clear ho6 hb6 q5 q4
      go_wp2_with fail
      refine HSA.out.mono ?_
      rintro e w7 ⟨rfl, hb7⟩
      have HF7 := hid (two_below HF6.out hb7)
      have HO7 := hid (HO6.out.below hb7)
      have HSB := hid (same_yes w7 _ _ L (HI5.out.below HF7.out) (HL.out.below (two_below HB5.out HF7.out)) (by have := HSM.out.1; omega))
      rw [← HN.out] at HSB
      clear hb7 HSA p1 p2 HO6 HF6
      go_wp2_with fail
      refine HSB.out.mono ?_
      rintro e w8 ⟨rfl, hb8⟩
      have HF8 := hid (two_below HF7.out hb8)
      have HO8 := hid (HO7.out.below hb8)
      have p3 := (HS5.out.below HF8.out).string
      have p4 := (HB.out.below (two_below HB5.out HF8.out)).string
      rw [← HM.out] at p4
      clear hb8 HSB HO7 HF7
      go_wp2_with fail
      clear p3 p4
      have HWB := hid HO8.out.wb
      clear HO8
      go_loopg [15, 16] rl (fun gg v15 v16 wr => ∃ i : Nat, i ≤ rl ∧ gg = rl - i ∧ v15 = .int .i64 (i : Int) ∧ Wb w5.heap.size wr (.slice a6 rl c6) R ∧ Below w5.heap.size w5 wr)
      case atStart => exact ⟨0, by omega, by omega, rfl, HWB.out, HF8.out⟩
      case round =>
        obtain ⟨i, hi, rfl, rfl, hwb, hbel⟩ := hrel
        have HW := hid hwb
        have HBE := hid hbel
        clear hwb hbel HWB HF8
        by_cases hil : i < rl
        · have hi1 : (i : Int) < (rl : Int) := by omega
          have hiR : i < R.length := by rw [← HRLN.out]; exact hil
          obtain ⟨rr, _, _, hao, hx1, hcap, hx2, hx3⟩ := HW.out.at hiR
          clear hx1 hx2 hx3
          subst hao
          obtain ⟨q, hq⟩ : ∃ q, q = R[i].2.length := ⟨_, rfl⟩
          have HQ := hid hq
          have hqb : q ≤ 140737488355328 := by rw [hq]; exact HRB.out i hiR
          clear hq
          obtain ⟨w9, rfl⟩ : ∃ w9, w9 = wr := ⟨_, rfl⟩
          go_wp2_with fail
          go_loopg [16] q (fun gg v16 wr => ∃ k : Nat, k ≤ q ∧ gg = q - k ∧ v16 = .int .i64 (k : Int) ∧ Wb w5.heap.size wr (.slice (some ⟨rr, 0, none⟩) rl c6) R ∧ Below w5.heap.size w5 wr)
          case atStart => exact ⟨0, by omega, by omega, rfl, HW.out, HBE.out⟩
          case round =>
            obtain ⟨k, hk, rfl, rfl, hwb, hbel⟩ := hrel
            have HWK := hid hwb
            have HBK := hid hbel
            obtain ⟨rr', ab', cb', hao', hy1, hy2, hcell, hblk⟩ := hwb.at hiR
            clear hy1 hy2
            cases hao'
            rw [← HQ.out] at hcell hblk
            have HBLK := hid hblk
            clear hwb hbel hblk HW HBE
            by_cases hkq : k < q
            · have hk1 : (k : Int) < (q : Int) := by omega
              obtain ⟨g, cur, hab, hgB, hgh, hqs⟩ := HBLK.out (by omega)
              subst hab
              have hck : wr.cell? ⟨g, k, none⟩ = some (cur[k]'(by omega)) := by rw [cell_of_heap hgh]; exact Array.getElem?_eq_getElem (by omega)
              have hfz : wr.frozen? ⟨g, k, none⟩ = false := frozen_of_heap hgh k
              have HWN := hid (HWK.out.set hgh k (.int .u8 238))
              have HBN := hid (below_set HBK.out hgB k (.int .u8 238))
              generalize cur[k]'(by omega) = old at *
              clear hgh hgB hqs HWK HBK
              go_wp2_with fail
              go_roundg (q - (k + 1))
              case measure => omega
              case rel => exact ⟨k + 1, by omega, rfl, by go_num, HWN.out, HBN.out⟩
            · have hk1 : ¬ (k : Int) < (q : Int) := by omega
              go_wp2_with fail
              go_roundg (rl - (i + 1))
              case measure => omega
              case rel => exact ⟨i + 1, by omega, rfl, by go_num, HWK.out, HBK.out⟩
        · have hi1 : ¬ (i : Int) < (rl : Int) := by omega
          obtain ⟨w9, rfl⟩ : ∃ w9, w9 = wr := ⟨_, rfl⟩
          go_wp2_with fail
          refine (HR6.out _ _ (HS5.out.below HBE.out)).mono ?_
          rintro e w10 ⟨a10, c10, rfl, ho10, hb10⟩
          have HF10 := hid (two_below HBE.out hb10)
          have HSC := hid (same_yes w10 _ _ R ho10.rcs (HA5.out.below HF10.out) (by rw [← HRLN.out]; exact hrl64))
          clear ho10 hb10 HBE HW
          go_wp2_with fail
          refine HSC.out.mono ?_
          rintro e w11 ⟨rfl, hb11⟩
          have HF11 := hid (two_below HF10.out hb11)
          have p3 := (HS5.out.below HF11.out).string
          have p4 := (HB.out.below (two_below HB5.out HF11.out)).string
          rw [← HM.out] at p4
          clear hb11 HSC HF10
          go_wp2_with fail
          refine (works_any _).mono ?_
          rintro e w12 ⟨rfl, hb12⟩
          have HB12 := hid (two_below HB5.out (two_below HF11.out hb12))
          clear hb12
          go_wp2_with fail
          go_ret
          exact ⟨rfl, HB12.out⟩
    · have hm1 : (3000 : Int) < (m : Int) := by omega
      go_wp2_with fail
      refine (works_any _).mono ?_
      rintro e w2 ⟨rfl, hb2⟩
      have HB2 := hid hb2
      clear hb2
      go_wp2_with fail
      go_ret
      exact ⟨rfl, HB2.out⟩
  · have hr1 : (3000 : Int) < (r : Int) := by omega
    go_wp2_with fail
    refine (works_any _).mono ?_
    rintro e w2 ⟨rfl, hb2⟩
    have HB2 := hid hb2
    clear hb2
    go_wp2_with fail
    go_ret
    exact ⟨rfl, HB2.out⟩
end Go.Proofs.Ytcmbijckhcckpaa
