/- The law TlvOrder. -/
import Derived.Test.YtcmbijckhcckpaaConv
namespace Go.Proofs.Ytcmbijckhcckpaa
open Go.RowKit

theorem add_text (x c : Bs) (h : x.length + c.length ≤ 10000) (W : World) : (Op.stringOp .add (⟨x.toArray⟩ : ByteArray) ⟨c.toArray⟩).run Try.prog W = .ok (St (x ++ c)) W := by
  have e : (⟨x.toArray⟩ : ByteArray) ++ ⟨c.toArray⟩ = ⟨(x ++ c).toArray⟩ := by
    apply ByteArray.ext
    simp
  have h1 := st_size x
  have h2 := st_size c
  have h3 : ((⟨x.toArray⟩ : ByteArray).size : Int) + ((⟨c.toArray⟩ : ByteArray).size : Int) ≤ 9223372036854775807 := by rw [h1, h2]; omega
  simp [Op.stringOp, e]
  exact h3

set_option maxRecDepth 100000 in
set_option maxHeartbeats 16000000 in
theorem order_any (w : World) (a b : Nat) (ha : a < 18446744073709551616) (hb : b < 18446744073709551616) (v : Value) (c : Bs) (hc : Sl w v c) :
    Calls Try.prog 7 #[.int .u64 (a : Int), .int .u64 (b : Int), v] w fun e w' => e = .returned (.bool true) ∧ Below w.heap.size w w' := by
  obtain ⟨ao, cap, rfl⟩ := hc.shape
  have HC := hid hc
  have HP := hid (fun W => put12_any a ha W)
  have HQ := hid (fun W => put12_any b hb W)
  have HLEN : Hid ((putB a).length ≤ 9 ∧ (putB b).length ≤ 9) := hid ⟨by rw [put_len]; exact sizeN_le (formN_lt _), by rw [put_len]; exact sizeN_le (formN_lt _)⟩
  have HGP := hid (get_put ha c)
  have HIN := hid (fun x y => @put_inj a b x y ha hb)
  have HLS := hid (@put_less a b ha hb)
  have HTM := hid (@take_min a b ha hb)
  have HFW := hid (@put_fewer a b)
  clear hc
  obtain ⟨m, hm⟩ : ∃ m, m = c.length := ⟨_, rfl⟩
  rw [← hm]
  have HM := hid hm
  clear hm
  by_cases hbig : 3000 < m
  · have hbig' : (3000 : Int) < (m : Int) := by omega
    go_enter Try.func7, Try.ntmps7
    go_wp2_with fail
    refine (works_any _).mono ?_
    rintro e w1 ⟨rfl, hb1⟩
    have HB1 := hid hb1
    clear hb1
    go_wp2_with fail
    go_ret
    exact ⟨rfl, HB1.out⟩
  · have hbig' : ¬ (3000 : Int) < (m : Int) := by omega
    generalize hx : putB a = x at *
    generalize hy : putB b = y at *
    have HX := hid hx
    have HY := hid hy
    clear hx hy
    obtain ⟨xl, hxl⟩ : ∃ k, k = x.length := ⟨_, rfl⟩
    rw [← hxl] at HP
    have HXL := hid hxl
    obtain ⟨yl, hyl⟩ : ∃ k, k = y.length := ⟨_, rfl⟩
    rw [← hyl] at HQ
    have HYL := hid hyl
    clear hxl hyl
    go_enter Try.func7, Try.ntmps7
    go_upto_region 3 with (fail)
    go_region_held (fun _ => True) (trivial) (first | (go_at_call_of 12 a; refine (HP.out _).mono ?_; rintro e w3 ⟨a3, c3, rfl, ho3, hb3⟩; have HS3 := hid (Sl.own ho3 HXL.out); have HB3 := hid hb3; have q3 := (Sl.own ho3 HXL.out).string; clear ho3 hb3) | (go_at_call_of 12 b; refine (HQ.out _).mono ?_; rintro e w4 ⟨a4, c4, rfl, ho4, hb4⟩; have HB4 := hid hb4; have q4 := (Sl.own ho4 HYL.out).string; have q5 := (HS3.out.below hb4).string; clear ho4 hb4))
    all_goals
      have HB4' : Hid (Below w.heap.size w w4) := hid (two_below (below_drew (Below.refl _ _)) (two_below HB3.out HB4.out))
      have hsx : (⟨x.toArray⟩ : ByteArray).size = xl := by rw [st_size, HXL.out]
      have hsy : (⟨y.toArray⟩ : ByteArray).size = yl := by rw [st_size, HYL.out]
      have hx9 : xl ≤ 9 := by rw [HXL.out]; exact HLEN.out.1
      have hy9 : yl ≤ 9 := by rw [HYL.out]; exact HLEN.out.2
      have hadd := fun W => add_text x c (by have := HXL.out; have := HM.out; have := HLEN.out.1; omega) W
      clear HP HQ HS3 HB3 HB4 q3 q4 q5 ha hb
      by_cases hab : a = b
      · subst hab
        have hxy : y = x := HY.out.symm.trans HX.out
        subst hxy
        have hll : xl = yl := HXL.out.trans HYL.out.symm
        subst hll
        have hbl : Op.bytesLess y y = false := by
          rw [bytesLess_blt, HLS.out rfl]
          simp
        clear hsy hy9
        go_upto_region 5 with (fail)
        go_quiet (fail)
        have HB5 := hid (below_drewN HB4'.out nq)
        generalize w4.drewN nq = w5 at *
        have q6 := (HC.out.below HB5.out).string
        rw [← HM.out] at q6
        obtain ⟨c7, w7, q7, hs7, hb7⟩ := string_bytes w5 (y ++ c)
        have HB7 := hid (two_below HB5.out hb7)
        have HGE := hid (get_any _ w7 _ hs7 (by have := HM.out; have := HXL.out; simp; omega))
        rw [HGP.out] at HGE
        have hln : (y ++ c).length = xl + m := by rw [List.length_append, HXL.out, HM.out]
        rw [hln] at q7 HGE
        have HGX : Hid (gotten (a, y.length, 0) = .returned (.tuple #[.int .u64 (a : Int), .int .i64 (xl : Int), .int .i64 0])) := hid (by rw [HXL.out]; rfl)
        rw [HGX.out] at HGE
        clear hs7 hb7 hln HB5
        go_wp2_with fail
        refine HGE.out.mono ?_
        rintro e w8 ⟨rfl, hw8⟩
        subst hw8
        go_wp2_with fail
        refine (works_any _).mono ?_
        rintro e w9 ⟨rfl, hb9⟩
        have HB9 := hid (two_below HB7.out hb9)
        clear hb9
        go_wp2_with fail
        go_ret
        exact ⟨rfl, HB9.out⟩
      · have hxy : (x == y) = false := by
          simp only [beq_eq_false_iff_ne, ne_eq]
          exact fun e => hab (HIN.out [] [] (by rw [e])).1
        have hab1 : ((a : Int) == (b : Int)) = false := by simp; omega
        have hab2 : ((a : Int) != (b : Int)) = true := by simp; omega
        have htk : ∀ k, k = min xl yl → (x.take k == y.take k) = false := fun k hk => by
          simp only [beq_eq_false_iff_ne, ne_eq]
          exact fun e => hab (HTM.out (by rw [← HXL.out, ← HYL.out, ← hk]; exact e))
        have hst : ∀ k, k = min xl yl → (∀ W, (Instr.sliceAt 9 (St x) none (some (.int .i64 (k : Int))) none).run Try.prog W = .ok (St (x.take k)) W) ∧ (∀ W, (Instr.sliceAt 9 (St y) none (some (.int .i64 (k : Int))) none).run Try.prog W = .ok (St (y.take k)) W) := fun k hk =>
          ⟨slice_text x k (by rw [← HXL.out]; omega), slice_text y k (by rw [← HYL.out]; omega)⟩
        by_cases hlt : xl < yl
        · have hf := HFW.out (by rw [← HXL.out, ← HYL.out]; exact hlt)
          have hf1 : (a : Int) < (b : Int) := by omega
          have hf2 : ¬ (b : Int) ≤ (a : Int) := by omega
          have hlt1 : ¬ (yl : Int) < (xl : Int) := by omega
          have hlt2 : ((xl : Int) == (yl : Int)) = false := by simp; omega
          have hlt3 : (xl : Int) < (yl : Int) := by omega
          have hpq := htk xl (by omega)
          obtain ⟨hs1, hs2⟩ := hst xl (by omega)
          generalize x.take xl = px at *
          generalize y.take xl = py at *
          clear htk hst hf hlt
          go_upto_region 5 with (fail)
          go_quiet (fail)
          have HB5 := hid (below_drewN HB4'.out nq)
          generalize w4.drewN nq = w5 at *
          have q6 := (HC.out.below HB5.out).string
          rw [← HM.out] at q6
          obtain ⟨c7, w7, q7, hs7, hb7⟩ := string_bytes w5 (x ++ c)
          have HB7 := hid (two_below HB5.out hb7)
          have HGE := hid (get_any _ w7 _ hs7 (by have := HM.out; have := HXL.out; simp; omega))
          rw [HGP.out] at HGE
          have hln : (x ++ c).length = xl + m := by rw [List.length_append, HXL.out, HM.out]
          rw [hln] at q7 HGE
          have HGX : Hid (gotten (a, x.length, 0) = .returned (.tuple #[.int .u64 (a : Int), .int .i64 (xl : Int), .int .i64 0])) := hid (by rw [HXL.out]; rfl)
          rw [HGX.out] at HGE
          clear hs7 hb7 hln HB5
          go_wp2_with fail
          refine HGE.out.mono ?_
          rintro e w8 ⟨rfl, hw8⟩
          subst hw8
          go_wp2_with fail
          refine (works_any _).mono ?_
          rintro e w9 ⟨rfl, hb9⟩
          have HB9 := hid (two_below HB7.out hb9)
          clear hb9
          go_wp2_with fail
          go_ret
          exact ⟨rfl, HB9.out⟩
        · by_cases hgt : yl < xl
          · have hlt1 : (yl : Int) < (xl : Int) := by omega
            have hlt2 : ((xl : Int) == (yl : Int)) = false := by simp; omega
            have hlt3 : ¬ (xl : Int) < (yl : Int) := by omega
            have hlt4 : decide ((xl : Int) < (yl : Int)) = false := by simpa using hlt3
            have hpq := htk yl (by omega)
            obtain ⟨hs1, hs2⟩ := hst yl (by omega)
            generalize x.take yl = px at *
            generalize y.take yl = py at *
            clear htk hst hlt hgt
            go_upto_region 5 with (fail)
            go_quiet (fail)
            have HB5 := hid (below_drewN HB4'.out nq)
            generalize w4.drewN nq = w5 at *
            have q6 := (HC.out.below HB5.out).string
            rw [← HM.out] at q6
            obtain ⟨c7, w7, q7, hs7, hb7⟩ := string_bytes w5 (x ++ c)
            have HB7 := hid (two_below HB5.out hb7)
            have HGE := hid (get_any _ w7 _ hs7 (by have := HM.out; have := HXL.out; simp; omega))
            rw [HGP.out] at HGE
            have hln : (x ++ c).length = xl + m := by rw [List.length_append, HXL.out, HM.out]
            rw [hln] at q7 HGE
            have HGX : Hid (gotten (a, x.length, 0) = .returned (.tuple #[.int .u64 (a : Int), .int .i64 (xl : Int), .int .i64 0])) := hid (by rw [HXL.out]; rfl)
            rw [HGX.out] at HGE
            clear hs7 hb7 hln HB5
            go_wp2_with fail
            refine HGE.out.mono ?_
            rintro e w8 ⟨rfl, hw8⟩
            subst hw8
            go_wp2_with fail
            refine (works_any _).mono ?_
            rintro e w9 ⟨rfl, hb9⟩
            have HB9 := hid (two_below HB7.out hb9)
            clear hb9
            go_wp2_with fail
            go_ret
            exact ⟨rfl, HB9.out⟩
          · have hee : xl = yl := by omega
            subst hee
            have hpq := htk xl (by omega)
            obtain ⟨hs1, hs2⟩ := hst xl (by omega)
            generalize x.take xl = px at *
            generalize y.take xl = py at *
            have hbl : Op.bytesLess x y = decide (a < b) := by
              rw [bytesLess_blt, HLS.out (by rw [← HXL.out, ← HYL.out])]
            clear htk hst hlt hgt
            by_cases hll : a < b
            · have hl1 : (a : Int) < (b : Int) := by omega
              rw [decide_eq_true hll] at hbl
              clear hll
              go_upto_region 5 with (fail)
              go_quiet (fail)
              have HB5 := hid (below_drewN HB4'.out nq)
              generalize w4.drewN nq = w5 at *
              have q6 := (HC.out.below HB5.out).string
              rw [← HM.out] at q6
              obtain ⟨c7, w7, q7, hs7, hb7⟩ := string_bytes w5 (x ++ c)
              have HB7 := hid (two_below HB5.out hb7)
              have HGE := hid (get_any _ w7 _ hs7 (by have := HM.out; have := HXL.out; simp; omega))
              rw [HGP.out] at HGE
              have hln : (x ++ c).length = xl + m := by rw [List.length_append, HXL.out, HM.out]
              rw [hln] at q7 HGE
              have HGX : Hid (gotten (a, x.length, 0) = .returned (.tuple #[.int .u64 (a : Int), .int .i64 (xl : Int), .int .i64 0])) := hid (by rw [HXL.out]; rfl)
              rw [HGX.out] at HGE
              clear hs7 hb7 hln HB5
              go_wp2_with fail
              refine HGE.out.mono ?_
              rintro e w8 ⟨rfl, hw8⟩
              subst hw8
              go_wp2_with fail
              refine (works_any _).mono ?_
              rintro e w9 ⟨rfl, hb9⟩
              have HB9 := hid (two_below HB7.out hb9)
              clear hb9
              go_wp2_with fail
              go_ret
              exact ⟨rfl, HB9.out⟩
            · have hl1 : ¬ (a : Int) < (b : Int) := by omega
              have hl2 : decide ((a : Int) < (b : Int)) = false := by simpa using hl1
              rw [decide_eq_false hll] at hbl
              clear hll
              go_upto_region 5 with (fail)
              go_quiet (fail)
              have HB5 := hid (below_drewN HB4'.out nq)
              generalize w4.drewN nq = w5 at *
              have q6 := (HC.out.below HB5.out).string
              rw [← HM.out] at q6
              obtain ⟨c7, w7, q7, hs7, hb7⟩ := string_bytes w5 (x ++ c)
              have HB7 := hid (two_below HB5.out hb7)
              have HGE := hid (get_any _ w7 _ hs7 (by have := HM.out; have := HXL.out; simp; omega))
              rw [HGP.out] at HGE
              have hln : (x ++ c).length = xl + m := by rw [List.length_append, HXL.out, HM.out]
              rw [hln] at q7 HGE
              have HGX : Hid (gotten (a, x.length, 0) = .returned (.tuple #[.int .u64 (a : Int), .int .i64 (xl : Int), .int .i64 0])) := hid (by rw [HXL.out]; rfl)
              rw [HGX.out] at HGE
              clear hs7 hb7 hln HB5
              go_wp2_with fail
              refine HGE.out.mono ?_
              rintro e w8 ⟨rfl, hw8⟩
              subst hw8
              go_wp2_with fail
              refine (works_any _).mono ?_
              rintro e w9 ⟨rfl, hb9⟩
              have HB9 := hid (two_below HB7.out hb9)
              clear hb9
              go_wp2_with fail
              go_ret
              exact ⟨rfl, HB9.out⟩
end Go.Proofs.Ytcmbijckhcckpaa
