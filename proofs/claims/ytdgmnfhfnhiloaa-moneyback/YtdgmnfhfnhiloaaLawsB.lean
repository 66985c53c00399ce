/- MoneyTurns, MoneyBack, MoneyShares as calls. -/
import Derived.Test.YtdgmnfhfnhiloaaLaws
namespace Go.Proofs.Ytdgmnfhfnhiloaa
open Go.RowKit

set_option maxHeartbeats 2000000 in
theorem turns_any (a : Int) (w : World) : Calls Try.prog 5 #[.int .i64 a] w fun e w' => e = .returned (.bool true) ∧ Below w.heap.size w w' := by
  have H2 := hid (fun W => milli_any a W)
  have H4 := hid (fun W => rmilli_any a W)
  unfold ans at H2 H4
  generalize val (milliO a) = v2 at H2 H4
  generalize err (milliO a) = e2 at H2 H4
  have h1 := fun W => coin_any a W
  have h3 := fun W => rcoin_any a W
  cases ha : rt a
  · have ec : coinsO a = none := by simp [coinsO, ha]
    have er : restO a = none := by simp [restO, ha]
    rw [ec, er] at h1 h3
    have H1 : Hid (∀ W, Calls Try.prog 24 #[.int .i64 a] W fun e w' => e = .returned (.tuple #[.int .i64 0, .int .i64 0, .int .i64 40]) ∧ w' = W) := hid h1
    have H3 : Hid (∀ W, Calls Try.prog 26 #[.int .i64 a] W fun e w' => e = .returned (.tuple #[.int .i64 0, .int .i64 0, .int .i64 40]) ∧ w' = W) := hid h3
    clear h1 h3 ec er
    go_enter Try.func5, Try.ntmps5
    go_wp2_with fail
    refine (H1.out _).mono ?_
    rintro e w1 ⟨rfl, hw⟩
    subst hw
    go_wp2_with fail
    refine (H2.out _).mono ?_
    rintro e w2 ⟨rfl, hw⟩
    subst hw
    go_wp2_with fail
    refine (H3.out _).mono ?_
    rintro e w3 ⟨rfl, hw⟩
    subst hw
    go_wp2_with fail
    refine (H4.out _).mono ?_
    rintro e w4 ⟨rfl, hw⟩
    subst hw
    go_wp2_with fail
    refine (works_any _).mono ?_
    rintro e w5 ⟨rfl, hb⟩
    have HB5 := hid hb
    clear hb
    go_wp2_with fail
    go_ret
    exact ⟨rfl, HB5.out⟩
  · obtain ⟨a0, a1⟩ := rt_iff.1 ha
    have ec : coinsO a = some (a / 1000) := by simp [coinsO, ha]
    have er : restO a = some (a % 1000) := by simp [restO, ha]
    have h5 := fun W => milli_any (a / 1000) W
    have em : milliO (a / 1000) = some (a / 1000 * 1000) := by rw [milliO, rc_iff.2 (by omega)]; rfl
    rw [ec, er] at h1 h3
    rw [em] at h5
    have hbk : a / 1000 * 1000 + a % 1000 = a := by omega
    have HX : Hid (0 ≤ a % 1000 ∧ a % 1000 ≤ 999 ∧ 0 ≤ a / 1000 * 1000 ∧ a / 1000 * 1000 ≤ a) := by apply hid; omega
    unfold ans val err at h5
    unfold val err at h1 h3
    simp only [Option.getD_some, Option.isSome_some, if_true] at h1 h3 h5
    generalize a / 1000 * 1000 = m at h5 hbk HX
    generalize a / 1000 = c at h1 h3 h5
    generalize a % 1000 = r at h1 h3 hbk HX
    obtain ⟨r0, r1, m0, m1⟩ := HX.out
    have H1 := hid h1
    have H3 := hid h3
    have H5 := hid h5
    clear h1 h3 h5 ec er em HX
    go_enter Try.func5, Try.ntmps5
    go_wp2_with fail
    refine (H1.out _).mono ?_
    rintro e w1 ⟨rfl, hw⟩
    subst hw
    go_wp2_with fail
    refine (H2.out _).mono ?_
    rintro e w2 ⟨rfl, hw⟩
    subst hw
    go_wp2_with fail
    refine (H3.out _).mono ?_
    rintro e w3 ⟨rfl, hw⟩
    subst hw
    go_wp2_with fail
    refine (H4.out _).mono ?_
    rintro e w4 ⟨rfl, hw⟩
    subst hw
    go_wp2_with fail
    refine (H5.out _).mono ?_
    rintro e w5 ⟨rfl, hw⟩
    subst hw
    go_wp2_with fail
    refine (works_any _).mono ?_
    rintro e w6 ⟨rfl, hb⟩
    have HB6 := hid hb
    clear hb
    go_wp2_with fail
    go_ret
    exact ⟨rfl, HB6.out⟩

set_option maxHeartbeats 2000000 in
theorem back_any (a b : Int) (w : World) : Calls Try.prog 6 #[.int .i64 a, .int .i64 b] w fun e w' => e = .returned (.bool true) ∧ Below w.heap.size w w' := by
  cases ha : rt a
  · go_enter Try.func6, Try.ntmps6
    go_wp2_with (first | (go_at_call 15; refine (right_any _ _).mono ?_; rintro e w' ⟨rfl, rfl⟩) | fail)
    refine (works_any _).mono ?_
    rintro e w1 ⟨rfl, hb⟩
    have HB1 := hid hb
    clear hb
    go_wp2_with fail
    go_ret
    exact ⟨rfl, HB1.out⟩
  · cases hb : rt b
    · go_enter Try.func6, Try.ntmps6
      go_wp2_with (first | (go_at_call 15; refine (right_any _ _).mono ?_; rintro e w' ⟨rfl, rfl⟩) | fail)
      refine (works_any _).mono ?_
      rintro e w1 ⟨rfl, hb⟩
      have HB1 := hid hb
      clear hb
      go_wp2_with fail
      go_ret
      exact ⟨rfl, HB1.out⟩
    · obtain ⟨a0, a1⟩ := rt_iff.1 ha
      obtain ⟨b0, b1⟩ := rt_iff.1 hb
      have h1 := fun W => add_any a b W
      by_cases hs : a + b ≤ 2100000000000000000
      · have hr : rt (a + b) = true := rt_iff.2 (by omega)
        rw [addO_yes ha hb hr] at h1
        have h2 := fun W => sub_any (a + b) b W
        rw [subO_yes hr hb (by omega), show a + b - b = a by omega] at h2
        have h3 : ∀ W : World, Calls Try.prog 11 #[.slice (some ⟨W.heap.size, 0, none⟩) 3 3] (W.alloc (.cells #[.int .i64 b, .int .i64 a, .int .i64 0] 2)) fun e w' => e = .returned (.tuple #[.int .i64 (a + b), .int .i64 0]) ∧ Below W.heap.size W w' := by
          intro W
          refine (sum_any _ _ 3 [b, a, 0] (li_new W [b, a, 0] 3 rfl) (by simp)).mono ?_
          rintro e w' ⟨rfl, rfl⟩
          refine ⟨?_, below_alloc_self' W _⟩
          rw [sumO_three, show b + a + 0 = a + b by omega, show b + a = a + b by omega, ha, hb, hr, show rt 0 = true from rfl]
          rfl
        have h4 := fun W => sub_any a b W
        have H1 : Hid (∀ W, Calls Try.prog 9 #[.int .i64 a, .int .i64 b] W fun e w' => e = .returned (.tuple #[.int .i64 (a + b), .int .i64 0]) ∧ Below W.heap.size W w') := hid h1
        have H2 : Hid (∀ W, Calls Try.prog 10 #[.int .i64 (a + b), .int .i64 b] W fun e w' => e = .returned (.tuple #[.int .i64 a, .int .i64 0]) ∧ w' = W) := hid h2
        have H3 := hid h3
        have H5 : Hid (∀ W, Calls Try.prog 15 #[.int .i64 (a + b)] W fun e w' => e = .returned (.bool true) ∧ w' = W) := by apply hid; intro W; have := right_any (a + b) W; rw [hr] at this; exact this
        clear h1 h2 h3 hr
        generalize a + b = s at H1 H2 H3 H5
        by_cases hab : a < b
        · rw [subO_no (by simp [hab])] at h4
          have H4 : Hid (∀ W, Calls Try.prog 10 #[.int .i64 a, .int .i64 b] W fun e w' => e = .returned (.tuple #[.int .i64 0, .int .i64 40]) ∧ w' = W) := hid h4
          clear h4
          go_enter Try.func6, Try.ntmps6
          go_wp2_with (first | (go_at_call 15; refine (right_any _ _).mono ?_; rintro e w' ⟨rfl, rfl⟩) | fail)
          refine (H1.out _).mono ?_
          rintro e w1 ⟨rfl, hb⟩
          have HB1 := hid hb
          clear hb
          go_wp2_with fail
          refine (H2.out _).mono ?_
          rintro e w2 ⟨rfl, hw⟩
          subst hw
          go_wp2_with fail
          refine (H3.out _).mono ?_
          rintro e w3 ⟨rfl, hb⟩
          have HB3 := hid (HB1.out.trans (hb.mono HB1.out.size))
          clear hb HB1
          go_wp2_with fail
          refine (H4.out _).mono ?_
          rintro e w4 ⟨rfl, hw⟩
          subst hw
          go_wp2_with fail
          refine (H5.out _).mono ?_
          rintro e w5 ⟨rfl, hw⟩
          subst hw
          go_wp2_with fail
          refine (works_any _).mono ?_
          rintro e w6 ⟨rfl, hb⟩
          have HB6 := hid (HB3.out.trans (hb.mono HB3.out.size))
          clear hb HB3
          go_wp2_with fail
          go_ret
          exact ⟨congrArg (fun b => Ending.returned (.bool b)) (show (!decide (b ≤ a)) = true by simp; omega), HB6.out⟩
        · rw [subO_yes ha hb (by omega)] at h4
          have hd : a - b + b = a := by omega
          have hd0 : 0 ≤ a - b ∧ a - b ≤ a := by omega
          have H4 : Hid (∀ W, Calls Try.prog 10 #[.int .i64 a, .int .i64 b] W fun e w' => e = .returned (.tuple #[.int .i64 (a - b), .int .i64 0]) ∧ w' = W) := hid h4
          clear h4
          generalize a - b = d at H4 hd hd0
          obtain ⟨d0, d1⟩ := hd0
          go_enter Try.func6, Try.ntmps6
          go_wp2_with (first | (go_at_call 15; refine (right_any _ _).mono ?_; rintro e w' ⟨rfl, rfl⟩) | fail)
          refine (H1.out _).mono ?_
          rintro e w1 ⟨rfl, hb⟩
          have HB1 := hid hb
          clear hb
          go_wp2_with fail
          refine (H2.out _).mono ?_
          rintro e w2 ⟨rfl, hw⟩
          subst hw
          go_wp2_with fail
          refine (H3.out _).mono ?_
          rintro e w3 ⟨rfl, hb⟩
          have HB3 := hid (HB1.out.trans (hb.mono HB1.out.size))
          clear hb HB1
          go_wp2_with fail
          refine (H4.out _).mono ?_
          rintro e w4 ⟨rfl, hw⟩
          subst hw
          go_wp2_with fail
          refine (H5.out _).mono ?_
          rintro e w5 ⟨rfl, hw⟩
          subst hw
          go_wp2_with fail
          refine (works_any _).mono ?_
          rintro e w6 ⟨rfl, hb⟩
          have HB6 := hid (HB3.out.trans (hb.mono HB3.out.size))
          clear hb HB3
          go_wp2_with fail
          go_ret
          exact ⟨rfl, HB6.out⟩
      · have hr : rt (a + b) = false := rt_not.2 (by omega)
        rw [addO_no (by simp [hr])] at h1
        have H1 : Hid (∀ W, Calls Try.prog 9 #[.int .i64 a, .int .i64 b] W fun e w' => e = .returned (.tuple #[.int .i64 0, .int .i64 40]) ∧ Below W.heap.size W w') := hid h1
        clear h1 hr
        go_enter Try.func6, Try.ntmps6
        go_wp2_with (first | (go_at_call 15; refine (right_any _ _).mono ?_; rintro e w' ⟨rfl, rfl⟩) | fail)
        refine (H1.out _).mono ?_
        rintro e w1 ⟨rfl, hb⟩
        have HB1 := hid hb
        clear hb
        go_wp2_with fail
        refine (works_any _).mono ?_
        rintro e w6 ⟨rfl, hb⟩
        have HB6 := hid (HB1.out.trans (hb.mono HB1.out.size))
        clear hb HB1
        go_wp2_with fail
        go_ret
        exact ⟨rfl, HB6.out⟩

theorem shr_parts (a b r : Int) (ha : 0 ≤ a) (hb : 0 ≤ b) (hr : 0 ≤ r) : 0 ≤ shr a r 1000000 ∧ 0 ≤ shr b r 1000000 ∧ (shr (a + b) r 1000000 = shr a r 1000000 + shr b r 1000000 ∨ shr (a + b) r 1000000 = shr a r 1000000 + shr b r 1000000 + 1) := by
  unfold shr
  have h1 := Int.mul_nonneg ha hr
  have h2 := Int.mul_nonneg hb hr
  rw [Int.add_mul]
  generalize a * r = x at h1 ⊢
  generalize b * r = y at h2 ⊢
  omega
theorem feeO_at {a b r : Int} (ha : rt a = true) (hb : rt b = true) (hr : rt r = true) (h : b + shr a r 1000000 ≤ 2100000000000000000) : feeO a b r = some (b + shr a r 1000000) := by
  have h0 := shr_nonneg (rt_iff.1 ha).1 (rt_iff.1 hr).1 (u := 1000000) (by omega)
  have hb0 := (rt_iff.1 hb).1
  have h1 : rt (shr a r 1000000) = true := rt_iff.2 (by omega)
  rw [feeO, ha, hb, hr, h1]
  exact addO_yes hb h1 (rt_iff.2 (by omega))
theorem feeO_not {a b r : Int} (hb : rt b = true) (h : ¬ b + shr a r 1000000 ≤ 2100000000000000000) : feeO a b r = none := by
  have hb0 := (rt_iff.1 hb).1
  unfold feeO
  split
  · exact addO_no (Or.inr (Or.inr (rt_not.2 (Or.inr (by omega)))))
  · rfl

set_option maxHeartbeats 2000000 in
theorem shares_any (a b base r : Int) (w : World) : Calls Try.prog 7 #[.int .i64 a, .int .i64 b, .int .i64 base, .int .i64 r] w fun e w' => e = .returned (.bool true) ∧ Below w.heap.size w w' := by
  cases ha : rt a
  · go_enter Try.func7, Try.ntmps7
    go_wp2_with (first | (go_at_call 15; refine (right_any _ _).mono ?_; rintro e w' ⟨rfl, rfl⟩) | fail)
    refine (works_any _).mono ?_
    rintro e w1 ⟨rfl, hb⟩
    have HB1 := hid hb
    clear hb
    go_wp2_with fail
    go_ret
    exact ⟨rfl, HB1.out⟩
  · cases hb : rt b
    · go_enter Try.func7, Try.ntmps7
      go_wp2_with (first | (go_at_call 15; refine (right_any _ _).mono ?_; rintro e w' ⟨rfl, rfl⟩) | fail)
      refine (works_any _).mono ?_
      rintro e w1 ⟨rfl, hb⟩
      have HB1 := hid hb
      clear hb
      go_wp2_with fail
      go_ret
      exact ⟨rfl, HB1.out⟩
    · obtain ⟨a0, a1⟩ := rt_iff.1 ha
      obtain ⟨b0, b1⟩ := rt_iff.1 hb
      by_cases hab : a + b ≤ 2100000000000000000
      · cases hc : rt base
        · go_enter Try.func7, Try.ntmps7
          go_wp2_with (first | (go_at_call 15; refine (right_any _ _).mono ?_; rintro e w' ⟨rfl, rfl⟩) | fail)
          refine (works_any _).mono ?_
          rintro e w1 ⟨rfl, hb⟩
          have HB1 := hid hb
          clear hb
          go_wp2_with fail
          go_ret
          exact ⟨rfl, HB1.out⟩
        · cases hr : rt r
          · go_enter Try.func7, Try.ntmps7
            go_wp2_with (first | (go_at_call 15; refine (right_any _ _).mono ?_; rintro e w' ⟨rfl, rfl⟩) | fail)
            refine (works_any _).mono ?_
            rintro e w1 ⟨rfl, hb⟩
            have HB1 := hid hb
            clear hb
            go_wp2_with fail
            go_ret
            exact ⟨rfl, HB1.out⟩
          · obtain ⟨c0, c1⟩ := rt_iff.1 hc
            obtain ⟨r0, r1⟩ := rt_iff.1 hr
            have hs : rt (a + b) = true := rt_iff.2 (by omega)
            obtain ⟨x0, y0, hz⟩ := shr_parts a b r a0 b0 r0
            have h1 := fun W => fee_any a base r W
            have h2 := fun W => fee_any b base r W
            have h3 := fun W => fee_any (a + b) base r W
            by_cases hg : base + shr (a + b) r 1000000 ≤ 2100000000000000000
            · rw [feeO_at ha hc hr (by omega)] at h1
              rw [feeO_at hb hc hr (by omega)] at h2
              rw [feeO_at hs hc hr hg] at h3
              generalize shr (a + b) r 1000000 = z at h3 hg hz
              generalize shr a r 1000000 = x at h1 x0 hz
              generalize shr b r 1000000 = y at h2 y0 hz
              have H1 : Hid (∀ W, Calls Try.prog 18 #[.int .i64 a, .int .i64 base, .int .i64 r] W fun e w' => e = .returned (.tuple #[.int .i64 (base + x), .int .i64 0]) ∧ Below W.heap.size W w') := hid h1
              have H2 : Hid (∀ W, Calls Try.prog 18 #[.int .i64 b, .int .i64 base, .int .i64 r] W fun e w' => e = .returned (.tuple #[.int .i64 (base + y), .int .i64 0]) ∧ Below W.heap.size W w') := hid h2
              have H3 : Hid (∀ W, Calls Try.prog 18 #[.int .i64 (a + b), .int .i64 base, .int .i64 r] W fun e w' => e = .returned (.tuple #[.int .i64 (base + z), .int .i64 0]) ∧ Below W.heap.size W w') := hid h3
              clear h1 h2 h3
              obtain ⟨X, hX⟩ : ∃ X, X = base + x := ⟨_, rfl⟩
              obtain ⟨Y, hY⟩ : ∃ Y, Y = base + y := ⟨_, rfl⟩
              obtain ⟨Z, hZ⟩ : ∃ Z, Z = base + z := ⟨_, rfl⟩
              rw [← hX] at H1
              rw [← hY] at H2
              rw [← hZ] at H3
              have g1 : ¬ Z < X := by omega
              have g2 : ¬ Z < Y := by omega
              have g3 : ¬ X < base := by omega
              have g4 : Z + base - X - Y = 0 ∨ Z + base - X - Y = 1 := by omega
              have g5 : 0 ≤ Z := by omega
              have g6 : Z ≤ 2100000000000000000 := by omega
              have g7 : 0 ≤ X := by omega
              have g8 : X ≤ 2100000000000000000 := by omega
              have g9 : 0 ≤ Y := by omega
              have g10 : Y ≤ 2100000000000000000 := by omega
              clear hX hY hZ hz x0 y0 hg
              rcases g4 with hd | hd
              · go_enter Try.func7, Try.ntmps7
                go_wp2_with (first | (go_at_call 15; refine (right_any _ _).mono ?_; rintro e w' ⟨rfl, rfl⟩) | fail)
                refine (H1.out _).mono ?_
                rintro e w1 ⟨rfl, hb⟩
                have HB1 := hid hb
                clear hb
                go_wp2_with fail
                refine (H2.out _).mono ?_
                rintro e w2 ⟨rfl, hb⟩
                have HB2 := hid (HB1.out.trans (hb.mono HB1.out.size))
                clear hb HB1
                go_wp2_with fail
                refine (H3.out _).mono ?_
                rintro e w3 ⟨rfl, hb⟩
                have HB3 := hid (HB2.out.trans (hb.mono HB2.out.size))
                clear hb HB2
                go_wp2_with fail
                refine (works_any _).mono ?_
                rintro e w4 ⟨rfl, hb⟩
                have HB4 := hid (HB3.out.trans (hb.mono HB3.out.size))
                clear hb HB3
                go_wp2_with fail
                go_ret
                exact ⟨rfl, HB4.out⟩
              · go_enter Try.func7, Try.ntmps7
                go_wp2_with (first | (go_at_call 15; refine (right_any _ _).mono ?_; rintro e w' ⟨rfl, rfl⟩) | fail)
                refine (H1.out _).mono ?_
                rintro e w1 ⟨rfl, hb⟩
                have HB1 := hid hb
                clear hb
                go_wp2_with fail
                refine (H2.out _).mono ?_
                rintro e w2 ⟨rfl, hb⟩
                have HB2 := hid (HB1.out.trans (hb.mono HB1.out.size))
                clear hb HB1
                go_wp2_with fail
                refine (H3.out _).mono ?_
                rintro e w3 ⟨rfl, hb⟩
                have HB3 := hid (HB2.out.trans (hb.mono HB2.out.size))
                clear hb HB2
                go_wp2_with fail
                refine (works_any _).mono ?_
                rintro e w4 ⟨rfl, hb⟩
                have HB4 := hid (HB3.out.trans (hb.mono HB3.out.size))
                clear hb HB3
                go_wp2_with fail
                go_ret
                exact ⟨rfl, HB4.out⟩
            · rw [feeO_not hc hg] at h3
              unfold ans at h1 h2
              generalize val (feeO a base r) = v1 at h1
              generalize err (feeO a base r) = e1 at h1
              generalize val (feeO b base r) = v2 at h2
              generalize err (feeO b base r) = e2 at h2
              have H1 := hid h1
              have H2 := hid h2
              have H3 : Hid (∀ W, Calls Try.prog 18 #[.int .i64 (a + b), .int .i64 base, .int .i64 r] W fun e w' => e = .returned (.tuple #[.int .i64 0, .int .i64 40]) ∧ Below W.heap.size W w') := hid h3
              clear h1 h2 h3 hg hz x0 y0
              go_enter Try.func7, Try.ntmps7
              go_wp2_with (first | (go_at_call 15; refine (right_any _ _).mono ?_; rintro e w' ⟨rfl, rfl⟩) | fail)
              refine (H1.out _).mono ?_
              rintro e w1 ⟨rfl, hb⟩
              have HB1 := hid hb
              clear hb
              go_wp2_with fail
              refine (H2.out _).mono ?_
              rintro e w2 ⟨rfl, hb⟩
              have HB2 := hid (HB1.out.trans (hb.mono HB1.out.size))
              clear hb HB1
              go_wp2_with fail
              refine (H3.out _).mono ?_
              rintro e w3 ⟨rfl, hb⟩
              have HB3 := hid (HB2.out.trans (hb.mono HB2.out.size))
              clear hb HB2
              go_wp2_with fail
              refine (works_any _).mono ?_
              rintro e w4 ⟨rfl, hb⟩
              have HB4 := hid (HB3.out.trans (hb.mono HB3.out.size))
              clear hb HB3
              go_wp2_with fail
              go_ret
              exact ⟨rfl, HB4.out⟩
      · go_enter Try.func7, Try.ntmps7
        go_wp2_with (first | (go_at_call 15; refine (right_any _ _).mono ?_; rintro e w' ⟨rfl, rfl⟩) | fail)
        refine (works_any _).mono ?_
        rintro e w1 ⟨rfl, hb⟩
        have HB1 := hid hb
        clear hb
        go_wp2_with fail
        go_ret
        exact ⟨rfl, HB1.out⟩
end Go.Proofs.Ytdgmnfhfnhiloaa
