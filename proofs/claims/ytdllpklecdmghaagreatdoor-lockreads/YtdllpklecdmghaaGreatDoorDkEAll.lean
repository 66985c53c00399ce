import Derived.Test.YtdllpklecdmghaaGreatDoorDkAll
import Derived.Test.YtdllpklecdmghaaGreatDoorRkM
import Derived.Test.YtdllpklecdmghaaGreatDoorLkGAll
/- A lock, written by the document. -/
namespace Go.Proofs.YtdllpklecdmghaaGreatDoor
open Go.RowKit
open Lk (Lt)

theorem one_conv (W : World) (c : UInt8) : (convert 51 9 (.slice (some ⟨W.heap.size, 0, none⟩) 1 1)).run Tryz.prog (W.alloc (.cells #[.int .u8 (c.toNat : Int)] 5)) = .ok (St [c]) (W.alloc (.cells #[.int .u8 (c.toNat : Int)] 5)) :=
  run_convert_bytes_back (P := Tryz.prog) _ 51 9 5 ⟨W.heap.size, 0, none⟩ 1 [c] Tryz.underlying51 Tryz.underlying5 Tryz.underlying9 (fun j hj => by
    obtain rfl : j = 0 := by simpa using hj
    exact new_cell W _ rfl _ _ 0 _ rfl)
theorem dg_c {x : Nat} (h : x < 58) : UInt8.toNat (UInt8.ofNat x) = x := by
  rw [UInt8.toNat_ofNat_of_lt' (show x < 256 by omega)]
theorem dg_facts (n : Nat) (hn : n ≤ 4294967296) : ∃ (r q : Nat) (c : UInt8), r < 10 ∧ q = n / 10 ∧ c = UInt8.ofNat (48 + r) ∧ r = n % 10 ∧ Int.tmod (n : Int) 10 = (r : Int) ∧ Int.tdiv (n : Int) 10 = (q : Int) ∧ wrap64 (48 + (r : Int)) = (c.toNat : Int) ∧ IntKind.u8.wrap (c.toNat : Int) = (c.toNat : Int) ∧ wrap64 (r : Int) = (r : Int) ∧ wrap64 (q : Int) = (q : Int) := by
  have hc1 : UInt8.toNat (UInt8.ofNat (48 + n % 10)) = 48 + n % 10 := dg_c (by omega)
  refine ⟨n % 10, n / 10, UInt8.ofNat (48 + n % 10), by omega, rfl, rfl, rfl, ?_, ?_, ?_, ?_, ?_, ?_⟩
  · rw [Int.tmod_eq_emod_of_nonneg (by omega)]; rfl
  · rw [Int.tdiv_eq_ediv_of_nonneg (by omega)]; rfl
  · rw [hc1]; unfold wrap64; omega
  · rw [hc1, IntKind.wrap_u8]; omega
  · unfold wrap64; omega
  · unfold wrap64; omega
theorem cat_text (a b : Bs) (h : a.length + b.length ≤ 9223372036854775807) (W : World) : (Op.stringOp .add (⟨a.toArray⟩ : ByteArray) ⟨b.toArray⟩).run Tryz.prog W = .ok (St (a ++ b)) W := by
  have h1 := st_app a b
  have h2 : (⟨a.toArray⟩ : ByteArray).size = a.length := by simp [ByteArray.size]
  have h3 : (⟨b.toArray⟩ : ByteArray).size = b.length := by simp [ByteArray.size]
  have h4 : ¬ (9223372036854775807 : Int) < (a.length : Int) + (b.length : Int) := by omega
  simp [Op.stringOp, h1, h2, h3, h4, go_sem]
theorem dec_le (n : Nat) : (Lib.decDigits n).length ≤ n + 1 := by
  induction n using Nat.strongRecOn with
  | ind n ih =>
    by_cases h : n < 10
    · rw [Lib.decDigits_one h]; simp
    · have := ih (n / 10) (by omega)
      rw [Lib.decDigits, dif_neg h, List.length_append, List.length_singleton]
      omega
theorem dg_nine (n q : Nat) (hn : n ≤ 4294967296) (hq : q = n / 10) : (n < 10 → ¬ (9 : Int) < (n : Int)) ∧ (¬ n < 10 → (9 : Int) < (n : Int) ∧ q < n ∧ q ≤ 4294967296) := ⟨fun h => by omega, fun h => by omega⟩
set_option maxHeartbeats 4000000 in
theorem digits_any (n : Nat) : ∀ (w : World), n ≤ 4294967296 → Calls Tryz.prog 58 #[.int .i64 (n : Int)] w fun e w' => e = .returned (St (Lib.decDigits n)) ∧ Below w.heap.size w w' := by
  induction n using Nat.strongRecOn with
  | ind n ih =>
    intro w hn
    obtain ⟨r, q, c, hr, hq, hc, hrn, e1, e2, e3, e4, e5, e6⟩ := dg_facts n hn
    have hcv := one_conv w c
    by_cases h9 : n < 10
    · have h9i := (dg_nine n q hn hq).1 h9
      have HR : Hid (Lib.decDigits n = [c]) := hid (by rw [Lib.decDigits_one h9, hc, hrn, Nat.mod_eq_of_lt h9])
      clear ih hr hq hc hrn h9 hn
      go_enter Tryz.func58, Tryz.ntmps58
      go_wp2_with fail
      go_ret
      exact ⟨by rw [HR.out]; rfl, below_al _ _⟩
    · obtain ⟨h9i, hqn, hql⟩ := (dg_nine n q hn hq).2 h9
      have HR : Hid (Lib.decDigits n = Lib.decDigits q ++ [c]) := hid (by rw [Lib.decDigits, dif_neg h9, hc, hrn, hq])
      have HI : Hid (∀ W, Calls Tryz.prog 58 #[.int .i64 (q : Int)] W fun e w' => e = .returned (St (Lib.decDigits q)) ∧ Below W.heap.size W w') := hid (fun W => ih q hqn W hql)
      have hl := dec_le q
      have HCAT := hid (cat_text (Lib.decDigits q) [c] (Nat.le_trans (Nat.add_le_add_right hl 1) (by clear e1 e2 e3 e4 e5 e6 hcv hr hc hrn; omega)))
      generalize Lib.decDigits q = D at *
      clear hqn hql hl ih hr hq hc hrn h9 hn
      go_enter Tryz.func58, Tryz.ntmps58
      go_wp2_with fail
      refine (HI.out _).mono ?_
      rintro e w1 ⟨rfl, hb⟩
      have hcat := HCAT.out w1
      clear HCAT e1 e2 e3 e4 e5 e6 hcv
      have HB := hid ((below_al _ _).trans (hb.mono (below_al _ _).size))
      clear hb
      go_wp2_with fail
      go_ret
      exact ⟨by rw [HR.out]; rfl, HB.out⟩
end Go.Proofs.YtdllpklecdmghaaGreatDoor

/- A lock, written by the document. -/
namespace Go.Proofs.YtdllpklecdmghaaGreatDoor
open Go.RowKit
open Lk (Lt)

theorem cat_is {a b c : Bs} (h : c = a ++ b) (hl : c.length ≤ 9223372036854775807) : ∀ W, (Op.stringOp .add (⟨a.toArray⟩ : ByteArray) ⟨b.toArray⟩).run Tryz.prog W = .ok (St c) W := fun W => by
  rw [h, List.length_append] at hl
  rw [h]
  exact cat_text a b hl W
namespace Lk
theorem wrs_step : ∀ (ks : List Lt) (i : Nat) (hi : i < ks.length), wrs (ks.take (i + 1)) = wrs (ks.take i) ++ wr ks[i]
  | x :: ks, 0, _ => by simp [wrs]
  | x :: ks, i + 1, hi => by
    have := wrs_step ks i (by simpa using hi)
    rw [List.take_succ_cons, List.take_succ_cons, wrs, wrs, List.getElem_cons_succ, this, List.append_assoc]
theorem wrs_len : ∀ (ks : List Lt) (i : Nat) (hi : i < ks.length), (wrs (ks.take i)).length + (wr ks[i]).length ≤ (wrs ks).length
  | x :: ks, 0, _ => by simp [wrs]
  | x :: ks, i + 1, hi => by
    have := wrs_len ks i (by simpa using hi)
    rw [List.take_succ_cons, wrs, wrs, List.getElem_cons_succ, List.length_append, List.length_append]
    omega

end Lk
set_option maxHeartbeats 8000000 in
theorem text_any {b : Nat → Prop} (d : Nat) : ∀ (l : Lt) (kv : Value) (w : World), Kd b w d kv l.kids → Lk.ok l = true → (Lk.wr l).length ≤ 1000000000 → Calls Tryz.prog 34 #[.agg (lcs l kv)] w fun e w' => e = .returned (St (Lk.wr l)) ∧ Below w.heap.size w w' := by
  induction d using Nat.strongRecOn with
  | ind d ih =>
    intro l kv w hk hok hlen
    obtain ⟨kd, t, n, ks⟩ := l
    obtain ⟨hl, ao, cap, rfl, hks⟩ := hk.parts
    have hks : Kr b w d ao ks := hks
    rw [Lk.ok, Bool.and_eq_true] at hok
    obtain ⟨hfit, hoks⟩ := hok
    show Calls Tryz.prog 34 #[.agg #[.int .u8 (kd : Int), St t, .int .i64 n, .slice ao ks.length cap]] w fun e w' => e = .returned (St (Lk.wr (.mk kd t n ks))) ∧ Below w.heap.size w w'
    have hkk := Lk.fit_is_kind hfit
    have hkk : 1 ≤ kd ∧ kd ≤ 6 := hkk
    clear hk
    rcases (by omega : kd = 1 ∨ kd = 2 ∨ kd = 3 ∨ kd = 4 ∨ kd = 5 ∨ kd = 6) with k1 | k2 | k3 | k4 | k5 | k6
    · subst k1
      obtain ⟨rfl, rfl, hd⟩ := Lk.fitT (by decide) hfit
      obtain ⟨X, hX⟩ : ∃ X, X = Lk.wr (.mk 1 t 0 []) := ⟨_, rfl⟩
      have hX2 : X = [115] ++ t := by rw [hX, Lk.wr]; rfl
      have hcat := cat_is hX2 (by rw [← hX] at hlen; omega)
      rw [← hX]
      clear hlen hX hX2 hd hfit hoks hks hl ih
      go_enter Tryz.func34, Tryz.ntmps34
      go_wp2_with fail
      go_ret
      exact ⟨rfl, below_al _ _⟩
    · subst k2
      obtain ⟨rfl, rfl, hd⟩ := Lk.fitT (by decide) hfit
      obtain ⟨X, hX⟩ : ∃ X, X = Lk.wr (.mk 2 t 0 []) := ⟨_, rfl⟩
      have hX2 : X = [112] ++ t := by rw [hX, Lk.wr]; rfl
      have hcat := cat_is hX2 (by rw [← hX] at hlen; omega)
      rw [← hX]
      clear hlen hX hX2 hd hfit hoks hks hl ih
      go_enter Tryz.func34, Tryz.ntmps34
      go_wp2_with fail
      go_ret
      exact ⟨rfl, below_al _ _⟩
    · subst k3
      obtain ⟨rfl, rfl, h0, h1⟩ := Lk.fitN (by decide) hfit
      obtain ⟨z, rfl⟩ : ∃ z : Nat, n = (z : Int) := ⟨n.toNat, by omega⟩
      have HD : Hid (∀ W, Calls Tryz.prog 58 #[.int .i64 (z : Int)] W fun e w' => e = .returned (St (Lib.decDigits z)) ∧ Below W.heap.size W w') := hid (fun W => digits_any z W (by omega))
      have hdl := dec_le z
      obtain ⟨X, hX⟩ : ∃ X, X = Lk.wr (.mk 3 [] (z : Int) []) := ⟨_, rfl⟩
      have hX2 : X = ([97] ++ Lib.decDigits z) ++ [59] := by rw [hX, Lk.wr]; rfl
      rw [← hX]
      generalize Lib.decDigits z = D at *
      obtain ⟨Y, hY⟩ : ∃ Y, Y = [97] ++ D := ⟨_, rfl⟩
      rw [← hY] at hX2
      have HC1 := hid (cat_is hY (by rw [hY, List.length_append]; simp; omega))
      have HC2 := hid (cat_is hX2 (by rw [hX2, hY, List.length_append, List.length_append]; simp; omega))
      clear hlen hX hX2 hY hfit hoks hks hl ih h0 h1 hdl
      go_enter Tryz.func34, Tryz.ntmps34
      go_wp2_with fail
      refine (HD.out _).mono ?_
      rintro e w1 ⟨rfl, hb⟩
      have hc1 := HC1.out w1
      have hc2 := HC2.out w1
      have HB := hid ((below_al _ _).trans (hb.mono (below_al _ _).size))
      clear hb HD HC1 HC2
      go_wp2_with fail
      go_ret
      exact ⟨rfl, HB.out⟩
    · subst k4
      obtain ⟨rfl, rfl, h0, h1⟩ := Lk.fitN (by decide) hfit
      obtain ⟨z, rfl⟩ : ∃ z : Nat, n = (z : Int) := ⟨n.toNat, by omega⟩
      have HD : Hid (∀ W, Calls Tryz.prog 58 #[.int .i64 (z : Int)] W fun e w' => e = .returned (St (Lib.decDigits z)) ∧ Below W.heap.size W w') := hid (fun W => digits_any z W (by omega))
      have hdl := dec_le z
      obtain ⟨X, hX⟩ : ∃ X, X = Lk.wr (.mk 4 [] (z : Int) []) := ⟨_, rfl⟩
      have hX2 : X = ([111] ++ Lib.decDigits z) ++ [59] := by rw [hX, Lk.wr]; rfl
      rw [← hX]
      generalize Lib.decDigits z = D at *
      obtain ⟨Y, hY⟩ : ∃ Y, Y = [111] ++ D := ⟨_, rfl⟩
      rw [← hY] at hX2
      have HC1 := hid (cat_is hY (by rw [hY, List.length_append]; simp; omega))
      have HC2 := hid (cat_is hX2 (by rw [hX2, hY, List.length_append, List.length_append]; simp; omega))
      clear hlen hX hX2 hY hfit hoks hks hl ih h0 h1 hdl
      go_enter Tryz.func34, Tryz.ntmps34
      go_wp2_with fail
      refine (HD.out _).mono ?_
      rintro e w1 ⟨rfl, hb⟩
      have hc1 := HC1.out w1
      have hc2 := HC2.out w1
      have HB := hid ((below_al _ _).trans (hb.mono (below_al _ _).size))
      clear hb HD HC1 HC2
      go_wp2_with fail
      go_ret
      exact ⟨rfl, HB.out⟩
    · subst k5
      obtain ⟨rfl, rfl, h0, h8⟩ := Lk.fitK (by decide) hfit
      obtain ⟨m, hm⟩ : ∃ m, m = ks.length := ⟨_, rfl⟩
      rw [← hm] at h0 h8 ⊢
      have HD : Hid (∀ W, Calls Tryz.prog 58 #[.int .i64 (m : Int)] W fun e w' => e = .returned (St (Lib.decDigits m)) ∧ Below W.heap.size W w') := hid (fun W => digits_any m W (by omega))
      have hdl := dec_le m
      obtain ⟨X, hX⟩ : ∃ X, X = Lk.wr (.mk 5 [] 0 ks) := ⟨_, rfl⟩
      have hX2 : X = ([38] ++ Lib.decDigits m) ++ [58] ++ Lk.wrs ks := by rw [hX, Lk.wr, hm]; simp [Lk.letter]
      rw [← hX] at hlen ⊢
      generalize Lib.decDigits m = D at *
      obtain ⟨Y, hY⟩ : ∃ Y, Y = [38] ++ D := ⟨_, rfl⟩
      obtain ⟨Z, hZ⟩ : ∃ Z, Z = Y ++ [58] := ⟨_, rfl⟩
      rw [← hY, ← hZ] at hX2
      have HC1 := hid (cat_is hY (by rw [hY, List.length_append]; simp; omega))
      have HC2 := hid (cat_is hZ (by rw [hZ, hY, List.length_append, List.length_append]; simp; omega))
      have HX2 := hid hX2
      have HLEN := hid hlen
      have HM := hid hm
      have HKS : Hid (Kr b w d ao ks) := hid hks
      have HIH := hid ih
      have HOK := hid hoks
      have HM8 := hid h8
      have HZ0 : Hid (Z = Z ++ Lk.wrs (ks.take 0)) := hid (by rw [List.take_zero, Lk.wrs, List.append_nil])
      obtain ⟨w0, hw0⟩ : ∃ w0, w0 = w.alloc (.cells #[.int .u8 5, St [], .int .i64 0, .slice ao m cap] 25) := ⟨_, rfl⟩
      have HB0 : Hid (Below w.heap.size w w0) := hid (by rw [hw0]; exact below_al _ _)
      have HC0 : Hid (∀ W, Below w0.heap.size w0 W → W.cell? ⟨w.heap.size, 3, none⟩ = some (.slice ao m cap)) := hid (fun W hW => cell_later hW (by rw [hw0]; exact (cell_of_heap (heap_alloc_new w _) 3).trans rfl))
      clear hlen hX hX2 hY hZ hfit hoks hks hl ih h0 hdl hm h8
      go_enter Tryz.func34, Tryz.ntmps34
      go_wp2_with fail
      rw [← hw0]
      clear hw0
      refine (HD.out _).mono ?_
      rintro e w1 ⟨rfl, hb⟩
      have hc1 := HC1.out w1
      have hc2 := HC2.out w1
      have HB1 := hid hb
      have c3 := HC0.out w1 hb
      clear hb HD HC1 HC2
      go_wp2_with fail
      clear hc1 hc2
      go_loopg [3, 4] m (fun gg v3 v4 wr => ∃ i : Nat, ∃ S : Bs, gg = m - i ∧ i ≤ m ∧ v3 = St S ∧ v4 = .int .i64 (i : Int) ∧ S = Z ++ Lk.wrs (ks.take i) ∧ Below w0.heap.size w0 wr)
      case atStart => exact ⟨0, Z, rfl, Nat.zero_le _, rfl, rfl, HZ0.out, HB1.out⟩
      case round =>
        obtain ⟨i, S, rfl, hi, rfl, rfl, hS, hB⟩ := hrel
        have c3 := HC0.out wr hB
        have hBw : Below w.heap.size w wr := HB0.out.trans (hB.mono HB0.out.size)
        by_cases him : i < m
        · have hik : i < ks.length := by have := HM.out; omega
          obtain ⟨g, o, hg, _, hc⟩ := (HKS.out.low hBw) (show 0 < ks.length by omega)
          subst hg
          obtain ⟨kv, hcs, hlr, d', hd', hkd⟩ := hc i hik
          have hst := Lk.wrs_step ks i hik
          have hsl := Lk.wrs_len ks i hik
          have hokx := Lk.oks_get HOK.out _ (List.getElem_mem hik)
          obtain ⟨x, hx⟩ : ∃ x, x = ks[i] := ⟨_, rfl⟩
          rw [← hx] at hcs hlr hkd hst hsl hokx
          obtain ⟨_, a2, c2, rfl⟩ := hkd.shape
          have e0 : wr.cell? ⟨g, o + i * 4, none⟩ = some (.int .u8 (x.kind : Int)) := hcs 0 _ rfl
          have e1 : wr.cell? ⟨g, o + i * 4 + 1, none⟩ = some (St x.term) := hcs 1 _ rfl
          have e2 : wr.cell? ⟨g, o + i * 4 + 2, none⟩ = some (.int .i64 x.n) := hcs 2 _ rfl
          have e3 : wr.cell? ⟨g, o + i * 4 + 3, none⟩ = some (.slice a2 x.kids.length c2) := hcs 3 _ rfl
          have hXl : Z.length + (Lk.wrs ks).length ≤ 1000000000 := by have h1 := HLEN.out; rw [HX2.out, List.length_append] at h1; exact h1
          have HCA : Hid (Calls Tryz.prog 34 #[.agg #[.int .u8 (x.kind : Int), St x.term, .int .i64 x.n, .slice a2 x.kids.length c2]] wr fun e w' => e = .returned (St (Lk.wr x)) ∧ Below w0.heap.size w0 w') := hid ((HIH.out d' hd' x _ wr hkd hokx (by omega)).mono (fun e w' ⟨h1, h2⟩ => ⟨h1, hB.trans (h2.mono hB.size)⟩))
          obtain ⟨S', hS'⟩ : ∃ S', S' = S ++ Lk.wr x := ⟨_, rfl⟩
          have HCT := hid (cat_is hS' (by rw [hS', hS, List.length_append, List.length_append]; omega))
          have HNX : Hid (S' = Z ++ Lk.wrs (ks.take (i + 1))) := hid (by rw [hS', hS, hst, List.append_assoc])
          generalize Lk.wr x = wx at *
          have hiw : IntKind.i64.wrap ((i : Int) + 1) = ((i + 1 : Nat) : Int) := by rw [IntKind.wrap_i64]; have := HM8.out; omega
          have hi0 : (0 : Int) ≤ (i : Int) := Int.natCast_nonneg _
          have hi1 : (i : Int) < (m : Int) := by omega
          have HI := hid him
          clear hcs hlr hkd hc hik him hi hx hB hBw hst hsl hokx hS hS' hXl
          go_wp2_with fail
          refine HCA.out.mono ?_
          rintro e w2 ⟨rfl, hb2⟩
          have HB2 := hid hb2
          have hct := HCT.out w2
          clear hb2 HCA HCT
          go_wp2_with fail
          go_roundg (m - (i + 1))
          case measure => have := HI.out; omega
          case rel => exact ⟨i + 1, S', rfl, by have := HI.out; omega, rfl, rfl, HNX.out, HB2.out⟩
        · have hi1 : ¬ (i : Int) < (m : Int) := by omega
          have HBE := hid hBw
          have HZ : Hid (X = S) := hid (by rw [HX2.out, hS, List.take_of_length_le (by have := HM.out; omega)])
          clear hB hBw hi him hS
          go_wp2_with fail
          go_ret
          exact ⟨by rw [HZ.out]; rfl, HBE.out⟩
    · subst k6
      obtain ⟨rfl, rfl, h0, h8⟩ := Lk.fitK (by decide) hfit
      obtain ⟨m, hm⟩ : ∃ m, m = ks.length := ⟨_, rfl⟩
      rw [← hm] at h0 h8 ⊢
      have HD : Hid (∀ W, Calls Tryz.prog 58 #[.int .i64 (m : Int)] W fun e w' => e = .returned (St (Lib.decDigits m)) ∧ Below W.heap.size W w') := hid (fun W => digits_any m W (by omega))
      have hdl := dec_le m
      obtain ⟨X, hX⟩ : ∃ X, X = Lk.wr (.mk 6 [] 0 ks) := ⟨_, rfl⟩
      have hX2 : X = ([124] ++ Lib.decDigits m) ++ [58] ++ Lk.wrs ks := by rw [hX, Lk.wr, hm]; simp [Lk.letter]
      rw [← hX] at hlen ⊢
      generalize Lib.decDigits m = D at *
      obtain ⟨Y, hY⟩ : ∃ Y, Y = [124] ++ D := ⟨_, rfl⟩
      obtain ⟨Z, hZ⟩ : ∃ Z, Z = Y ++ [58] := ⟨_, rfl⟩
      rw [← hY, ← hZ] at hX2
      have HC1 := hid (cat_is hY (by rw [hY, List.length_append]; simp; omega))
      have HC2 := hid (cat_is hZ (by rw [hZ, hY, List.length_append, List.length_append]; simp; omega))
      have HX2 := hid hX2
      have HLEN := hid hlen
      have HM := hid hm
      have HKS : Hid (Kr b w d ao ks) := hid hks
      have HIH := hid ih
      have HOK := hid hoks
      have HM8 := hid h8
      have HZ0 : Hid (Z = Z ++ Lk.wrs (ks.take 0)) := hid (by rw [List.take_zero, Lk.wrs, List.append_nil])
      obtain ⟨w0, hw0⟩ : ∃ w0, w0 = w.alloc (.cells #[.int .u8 6, St [], .int .i64 0, .slice ao m cap] 25) := ⟨_, rfl⟩
      have HB0 : Hid (Below w.heap.size w w0) := hid (by rw [hw0]; exact below_al _ _)
      have HC0 : Hid (∀ W, Below w0.heap.size w0 W → W.cell? ⟨w.heap.size, 3, none⟩ = some (.slice ao m cap)) := hid (fun W hW => cell_later hW (by rw [hw0]; exact (cell_of_heap (heap_alloc_new w _) 3).trans rfl))
      clear hlen hX hX2 hY hZ hfit hoks hks hl ih h0 hdl hm h8
      go_enter Tryz.func34, Tryz.ntmps34
      go_wp2_with fail
      rw [← hw0]
      clear hw0
      refine (HD.out _).mono ?_
      rintro e w1 ⟨rfl, hb⟩
      have hc1 := HC1.out w1
      have hc2 := HC2.out w1
      have HB1 := hid hb
      have c3 := HC0.out w1 hb
      clear hb HD HC1 HC2
      go_wp2_with fail
      clear hc1 hc2
      go_loopg [3, 4] m (fun gg v3 v4 wr => ∃ i : Nat, ∃ S : Bs, gg = m - i ∧ i ≤ m ∧ v3 = St S ∧ v4 = .int .i64 (i : Int) ∧ S = Z ++ Lk.wrs (ks.take i) ∧ Below w0.heap.size w0 wr)
      case atStart => exact ⟨0, Z, rfl, Nat.zero_le _, rfl, rfl, HZ0.out, HB1.out⟩
      case round =>
        obtain ⟨i, S, rfl, hi, rfl, rfl, hS, hB⟩ := hrel
        have c3 := HC0.out wr hB
        have hBw : Below w.heap.size w wr := HB0.out.trans (hB.mono HB0.out.size)
        by_cases him : i < m
        · have hik : i < ks.length := by have := HM.out; omega
          obtain ⟨g, o, hg, _, hc⟩ := (HKS.out.low hBw) (show 0 < ks.length by omega)
          subst hg
          obtain ⟨kv, hcs, hlr, d', hd', hkd⟩ := hc i hik
          have hst := Lk.wrs_step ks i hik
          have hsl := Lk.wrs_len ks i hik
          have hokx := Lk.oks_get HOK.out _ (List.getElem_mem hik)
          obtain ⟨x, hx⟩ : ∃ x, x = ks[i] := ⟨_, rfl⟩
          rw [← hx] at hcs hlr hkd hst hsl hokx
          obtain ⟨_, a2, c2, rfl⟩ := hkd.shape
          have e0 : wr.cell? ⟨g, o + i * 4, none⟩ = some (.int .u8 (x.kind : Int)) := hcs 0 _ rfl
          have e1 : wr.cell? ⟨g, o + i * 4 + 1, none⟩ = some (St x.term) := hcs 1 _ rfl
          have e2 : wr.cell? ⟨g, o + i * 4 + 2, none⟩ = some (.int .i64 x.n) := hcs 2 _ rfl
          have e3 : wr.cell? ⟨g, o + i * 4 + 3, none⟩ = some (.slice a2 x.kids.length c2) := hcs 3 _ rfl
          have hXl : Z.length + (Lk.wrs ks).length ≤ 1000000000 := by have h1 := HLEN.out; rw [HX2.out, List.length_append] at h1; exact h1
          have HCA : Hid (Calls Tryz.prog 34 #[.agg #[.int .u8 (x.kind : Int), St x.term, .int .i64 x.n, .slice a2 x.kids.length c2]] wr fun e w' => e = .returned (St (Lk.wr x)) ∧ Below w0.heap.size w0 w') := hid ((HIH.out d' hd' x _ wr hkd hokx (by omega)).mono (fun e w' ⟨h1, h2⟩ => ⟨h1, hB.trans (h2.mono hB.size)⟩))
          obtain ⟨S', hS'⟩ : ∃ S', S' = S ++ Lk.wr x := ⟨_, rfl⟩
          have HCT := hid (cat_is hS' (by rw [hS', hS, List.length_append, List.length_append]; omega))
          have HNX : Hid (S' = Z ++ Lk.wrs (ks.take (i + 1))) := hid (by rw [hS', hS, hst, List.append_assoc])
          generalize Lk.wr x = wx at *
          have hiw : IntKind.i64.wrap ((i : Int) + 1) = ((i + 1 : Nat) : Int) := by rw [IntKind.wrap_i64]; have := HM8.out; omega
          have hi0 : (0 : Int) ≤ (i : Int) := Int.natCast_nonneg _
          have hi1 : (i : Int) < (m : Int) := by omega
          have HI := hid him
          clear hcs hlr hkd hc hik him hi hx hB hBw hst hsl hokx hS hS' hXl
          go_wp2_with fail
          refine HCA.out.mono ?_
          rintro e w2 ⟨rfl, hb2⟩
          have HB2 := hid hb2
          have hct := HCT.out w2
          clear hb2 HCA HCT
          go_wp2_with fail
          go_roundg (m - (i + 1))
          case measure => have := HI.out; omega
          case rel => exact ⟨i + 1, S', rfl, by have := HI.out; omega, rfl, rfl, HNX.out, HB2.out⟩
        · have hi1 : ¬ (i : Int) < (m : Int) := by omega
          have HBE := hid hBw
          have HZ : Hid (X = S) := hid (by rw [HX2.out, hS, List.take_of_length_le (by have := HM.out; omega)])
          clear hB hBw hi him hS
          go_wp2_with fail
          go_ret
          exact ⟨by rw [HZ.out]; rfl, HBE.out⟩
end Go.Proofs.YtdllpklecdmghaaGreatDoor
