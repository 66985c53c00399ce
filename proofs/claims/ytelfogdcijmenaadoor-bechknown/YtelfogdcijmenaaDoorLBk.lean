/- The law BechBack. -/
import Derived.Test.YtelfogdcijmenaaDoorLOne
import Derived.Test.YtelfogdcijmenaaDoorBits
namespace Go.Proofs.YtelfogdcijmenaaDoor
open Go.RowKit

theorem lowC_int {c : UInt8} (h : 65 ≤ c.toNat ∧ c.toNat ≤ 90) : ((lowC c).toNat : Int) = (c.toNat : Int) + 32 := by
  have hc : capB c = true := by simp [capB, h.1, h.2]
  unfold lowC
  rw [if_pos hc, UInt8.toNat_add]
  have : (32 : UInt8).toNat = 32 := rfl
  rw [this]
  omega
theorem lowC_same {c : UInt8} (h : ¬ (65 ≤ c.toNat ∧ c.toNat ≤ 90)) : lowC c = c := (low_of c).2.2 (by simp [capB]; omega)
theorem low_mix (s : Bs) (k : Nat) (hk : k < s.length) : ∀ c, c = lowC s[k] → (low (s.take k) ++ s.drop k).set k c = low (s.take (k + 1)) ++ s.drop (k + 1) := by
  rintro c rfl
  have hl : (low (s.take k)).length = k := by unfold low; simp; omega
  rw [List.set_append_right _ _ (by omega), hl, Nat.sub_self]
  have h1 : s.drop k = s[k] :: s.drop (k + 1) := List.drop_eq_getElem_cons hk
  have h2 : low (s.take (k + 1)) = low (s.take k) ++ [lowC s[k]] := map_take_succ lowC s k hk
  rw [h1, h2, List.set_cons_zero, List.append_assoc]
  rfl
theorem low_keep (s : Bs) (k : Nat) (hk : k < s.length) (h : lowC s[k] = s[k]) : low (s.take (k + 1)) ++ s.drop (k + 1) = low (s.take k) ++ s.drop k := by
  have h1 : s.drop k = s[k] :: s.drop (k + 1) := List.drop_eq_getElem_cons hk
  have h2 : low (s.take (k + 1)) = low (s.take k) ++ [lowC s[k]] := map_take_succ lowC s k hk
  rw [h1, h2, h, List.append_assoc]
  rfl
theorem mix_get (s : Bs) (k : Nat) (hk : k < s.length) (h' : k < (low (s.take k) ++ s.drop k).length) : (low (s.take k) ++ s.drop k)[k] = s[k] := by
  have hl : (low (s.take k)).length = k := by unfold low; simp; omega
  rw [List.getElem_append_right (by omega)]
  simp [hl]
set_option maxRecDepth 100000 in
set_option maxHeartbeats 4000000 in
theorem lsmall_any (s : Bs) (w : World) (hm : s.length ≤ 1000000) : Calls Tryd.prog 16 #[St s] w fun e w' => e = .returned (St (low s)) ∧ Below w.heap.size w w' := by
  obtain ⟨c1, w1, q1, ho1, hb1⟩ := text_bytes w s (by omega)
  obtain ⟨n, hn⟩ : ∃ n, n = s.length := ⟨_, rfl⟩
  rw [← hn] at q1 ho1 hm
  have HN := hid hn
  have HO1 := hid ho1
  have HB1 := hid hb1
  obtain ⟨A, hA⟩ : ∃ A, A = low s := ⟨_, rfl⟩
  rw [← hA]
  have HA := hid hA
  have hcap := ho1.lt.2.2.1
  rw [← hn] at hcap
  clear hn ho1 hb1 hA
  go_enter Tryd.func16, Tryd.ntmps16
  go_wp2_with fail
  clear q1
  go_loopg [4] n (fun gg v4 wr => ∃ i : Nat, i ≤ n ∧ gg = n - i ∧ v4 = .int .i64 (i : Int) ∧ Ow wr w.heap.size (.slice (some ⟨w.heap.size, 0, none⟩) n c1) (low (s.take i) ++ s.drop i) ∧ Below w.heap.size w wr)
  case atStart => exact ⟨0, by omega, by omega, rfl, HO1.out, HB1.out⟩
  case round =>
    obtain ⟨i, hi, rfl, rfl, how, hbel⟩ := hrel
    clear HO1 HB1
    by_cases hin : i < n
    · have hi1 : (i : Int) < (n : Int) := by omega
      have his : i < s.length := by rw [← HN.out]; exact hin
      have hml : i < (low (s.take i) ++ s.drop i).length := by unfold low; simp; omega
      have hcell := how.cell hml
      rw [mix_get s i his hml] at hcell
      have hfz := how.frozen hml
      have HMX := hid (low_mix s i his)
      have HKP := hid (low_keep s i his)
      have HSE := hid (fun c => how.set i c)
      have HBS := hid (fun v => below_set hbel (Nat.le_refl _) i v)
      have HO := hid how
      have HBE := hid hbel
      generalize s[i] = x at *
      have hx8 := x.toNat_lt
      clear how hbel hml
      by_cases h65 : 65 ≤ x.toNat
      · have e1 : (65 : Int) ≤ x.toNat := by omega
        by_cases h90 : x.toNat ≤ 90
        · have e2 : (x.toNat : Int) ≤ 90 := by omega
          have HLW := hid (lowC_int ⟨h65, h90⟩)
          have HS2 := hid (HSE.out (lowC x))
          rw [HMX.out _ rfl] at HS2
          have HB2 := hid (HBS.out (By (lowC x)))
          unfold By at HS2 HB2
          rw [HLW.out] at HS2 HB2
          have hwr : IntKind.u8.wrap ((x.toNat : Int) + 32) = (x.toNat : Int) + 32 := by rw [IntKind.wrap_u8]; omega
          go_wp2_with fail
          go_roundg (n - (i + 1))
          case measure => omega
          case rel => exact ⟨i + 1, by omega, rfl, by go_num, HS2.out, HB2.out⟩
        · have e2 : ¬ (x.toNat : Int) ≤ 90 := by omega
          have HNX : Hid (low (s.take (i + 1)) ++ s.drop (i + 1) = low (s.take i) ++ s.drop i) := hid (HKP.out (lowC_same (by omega)))
          go_wp2_with fail
          go_roundg (n - (i + 1))
          case measure => omega
          case rel => exact ⟨i + 1, by omega, rfl, by go_num, by rw [HNX.out]; exact HO.out, HBE.out⟩
      · have e1 : ¬ (65 : Int) ≤ x.toNat := by omega
        have HNX : Hid (low (s.take (i + 1)) ++ s.drop (i + 1) = low (s.take i) ++ s.drop i) := hid (HKP.out (lowC_same (by omega)))
        go_wp2_with fail
        go_roundg (n - (i + 1))
        case measure => omega
        case rel => exact ⟨i + 1, by omega, rfl, by go_num, by rw [HNX.out]; exact HO.out, HBE.out⟩
    · have hi1 : ¬ (i : Int) < (n : Int) := by omega
      have hie : i = n := by omega
      subst hie
      rw [List.take_of_length_le (by rw [← HN.out]; exact Nat.le_refl _), List.drop_eq_nil_of_le (by rw [← HN.out]; exact Nat.le_refl _), List.append_nil, ← HA.out] at how
      have hst := how.sl.string
      have HBE := hid hbel
      clear how hbel
      go_wp2_with fail
      go_ret
      exact ⟨rfl, HBE.out⟩
theorem dec_err {s h ws : Bs} {er : Nat} (hd : decB s = (h, ws, er)) (h0 : er ≠ 0) : h = [] ∧ ws = [] := by
  rw [dec_eq] at hd
  repeat (split at hd; · cases hd; exact ⟨rfl, rfl⟩)
  cases hd
  exact absurd rfl h0
theorem dec_small {s h ws : Bs} {er : Nat} (hd : decB s = (h, ws, er)) (hs : s.length ≤ 1000000) : h.length ≤ 1000000 ∧ ws.length ≤ 1000000 := by
  by_cases h0 : er = 0
  · subst h0
    have h1 := enc_len (enc_dec hd)
    unfold low at h1
    rw [List.length_map] at h1
    omega
  · obtain ⟨rfl, rfl⟩ := dec_err hd h0
    simp
set_option maxRecDepth 100000 in
set_option maxHeartbeats 8000000 in
theorem back_any (h ws s : Bs) (v : Value) (w : World) (hs : Sl w v ws) (hx : Mx w) :
    Calls Tryd.prog 6 #[St h, v, St s] w fun e w' => e = .returned (.bool true) ∧ Below w.heap.size w w' := by
  have HS := hid hs
  have HX := hid hx
  obtain ⟨av, cv, rfl⟩ := hs.shape
  have HW := hid (fun W (hb : Below w.heap.size w W) => works_any W (hx.below hb))
  have HW0 := hid (works_any w hx)
  have hs0 := st_size h
  have hs1 := st_size s
  obtain ⟨n, hn⟩ : ∃ n, n = ws.length := ⟨_, rfl⟩
  obtain ⟨m, hm⟩ : ∃ m, m = h.length := ⟨_, rfl⟩
  obtain ⟨q, hq⟩ : ∃ q, q = s.length := ⟨_, rfl⟩
  rw [← hn]
  rw [← hm] at hs0
  rw [← hq] at hs1
  have HN := hid hn
  have HM := hid hm
  have HQ := hid hq
  clear hs hx hn hm hq
  by_cases hm2 : 2000 < m
  · have hc : (2000 : Int) < (m : Int) := by omega
    go_enter Tryd.func6, Tryd.ntmps6
    go_wp2_with fail
    refine HW0.out.mono ?_
    rintro e w1 ⟨rfl, hb⟩
    have HB := hid hb
    clear hb
    go_wp2_with fail
    go_ret
    exact ⟨rfl, HB.out⟩
  · have hc : ¬ (2000 : Int) < (m : Int) := by omega
    by_cases hn2 : 2000 < n
    · have hc2 : (2000 : Int) < (n : Int) := by omega
      go_enter Tryd.func6, Tryd.ntmps6
      go_wp2_with fail
      refine HW0.out.mono ?_
      rintro e w1 ⟨rfl, hb⟩
      have HB := hid hb
      clear hb
      go_wp2_with fail
      go_ret
      exact ⟨rfl, HB.out⟩
    · have hc2 : ¬ (2000 : Int) < (n : Int) := by omega
      by_cases hq2 : 2000 < q
      · have hc3 : (2000 : Int) < (q : Int) := by omega
        go_enter Tryd.func6, Tryd.ntmps6
        go_wp2_with fail
        refine HW0.out.mono ?_
        rintro e w1 ⟨rfl, hb⟩
        have HB := hid hb
        clear hb
        go_wp2_with fail
        go_ret
        exact ⟨rfl, HB.out⟩
      · have hc3 : ¬ (2000 : Int) < (q : Int) := by omega
        -- the end: bytes as words and back
        obtain ⟨five, hf1, hf2⟩ := bits_back ws
        have hfl : five.length ≤ 1000000 := by
          unfold bitsB at hf1
          have h1 := cut_le 5 (rowB 8 ws)
          rw [row_len] at h1
          have h2 := HN.out
          split at hf1
          · cases hf1
          · rw [if_pos rfl] at hf1
            split at hf1
            · have := (Prod.mk.inj hf1).1
              rw [← this]
              omega
            · have := (Prod.mk.inj hf1).1
              rw [← this, List.length_append]
              simp
              omega
        have HB85 := hid (fun W (hb : Below w.heap.size w W) => bits_good ws _ 8 5 true W (HS.out.below hb) ⟨by omega, by omega⟩ ⟨by omega, by omega⟩ (by rw [← HN.out]; omega))
        have HB58 := hid (fun W u (hu : Sl W u five) => bits_good five u 5 8 false W hu ⟨by omega, by omega⟩ ⟨by omega, by omega⟩ (by omega))
        rw [hf1, ← HN.out] at HB85
        rw [hf2] at HB58
        simp only [cutted, ← HN.out] at HB85 HB58
        obtain ⟨fl, hfl2⟩ : ∃ fl, fl = five.length := ⟨_, rfl⟩
        rw [← hfl2] at HB85
        have HFL := hid hfl2
        clear hf1 hf2 hfl hfl2
        have HE := hid (enc_any h ws _ w HS.out (by rw [← HN.out]; omega) (by rw [← HM.out]; omega) HX.out)
        rw [← HN.out] at HE
        generalize hen : encB h ws = en at *
        obtain ⟨t, er⟩ := en
        have HEN := hid hen
        clear hen
        simp only [encoded] at HE
        have HDS := hid (fun W (hb : Below w.heap.size w W) => dec_any s W (by rw [← HQ.out]; omega) (HX.out.below hb))
        generalize hde : decB s = de at *
        obtain ⟨h2, ws2, er2⟩ := de
        have HDE := hid hde
        have HSM := hid (dec_small hde (by rw [← HQ.out]; omega))
        clear hde
        simp only [decoded] at HDS
        go_enter Tryd.func6, Tryd.ntmps6
        go_wp2_with fail
        refine HE.out.mono ?_
        rintro e w1 ⟨rfl, hb1⟩
        have HB1 := hid hb1
        clear hb1 HE
        by_cases her : er = 0
        rotate_left
        have her2 : ((er : Int) == 0) = false := by simp; omega
        have HBc := HB1
        go_wp2_with fail
        rotate_left
        subst her
        have HDT := hid (dec_enc HEN.out)
        have HTL := hid (enc_len HEN.out)
        have HDC := hid (dec_any t w1 (by rw [HTL.out, ← HN.out, ← HM.out]; omega) (HX.out.below HB1.out))
        rw [HDT.out] at HDC
        simp only [decoded] at HDC
        go_wp2_with fail
        refine HDC.out.mono ?_
        rintro e w2 ⟨v2, rfl, hs2, hb2⟩
        have HBc := hid (two_below HB1.out hb2)
        obtain ⟨a2, c2, rfl⟩ := hs2.shape
        rw [← HN.out] at hs2 ⊢
        have k1 := hs2.string
        have k2 := (HS.out.below HBc.out).string
        rw [← HN.out] at k2
        clear hs2 hb2 HDC HDT HTL
        go_wp2_with fail
        clear k1 k2
        all_goals
          refine (HDS.out _ HBc.out).mono ?_
          rintro e w3 ⟨v3, rfl, hs3, hb3⟩
          have HB3 := hid (two_below HBc.out hb3)
          have HS3 := hid hs3
          obtain ⟨a3, c3, rfl⟩ := hs3.shape
          clear hb3 hs3 HDS HBc
          by_cases her2 : er2 = 0
          rotate_left
          obtain ⟨rfl, rfl⟩ := dec_err HDE.out her2
          have her3 : ((er2 : Int) == 0) = false := by simp; omega
          have HBd := HB3
          go_wp2_with fail
          rotate_left
          subst her2
          have HEC := hid (enc_any h2 ws2 _ w3 HS3.out HSM.out.2 HSM.out.1 (HX.out.below HB3.out))
          rw [enc_dec HDE.out] at HEC
          simp only [encoded] at HEC
          have HLS := hid (fun W => lsmall_any s W (by rw [← HQ.out]; omega))
          obtain ⟨wl, hwl⟩ : ∃ wl, wl = ws2.length := ⟨_, rfl⟩
          rw [← hwl] at HEC ⊢
          clear hwl
          generalize low s = ls at *
          go_wp2_with fail
          refine HEC.out.mono ?_
          rintro e w4 ⟨rfl, hb4⟩
          have HB4 := hid (two_below HB3.out hb4)
          clear hb4 HEC
          go_wp2_with fail
          refine (HLS.out w4).mono ?_
          rintro e w5 ⟨rfl, hb5⟩
          have HBd := hid (two_below HB4.out hb5)
          clear hb5 HLS HB4
          go_wp2_with fail
          all_goals
            refine (HB85.out _ HBd.out).mono ?_
            rintro e w6 ⟨a6, c6, rfl, ho6, hb6⟩
            have HB6 := hid (two_below HBd.out hb6)
            have HS6 := hid (Sl.own ho6 HFL.out)
            clear ho6 hb6 HB85 HBd
            go_wp2_with fail
            have HC8 := hid (HB58.out w6 _ HS6.out)
            refine HC8.out.mono ?_
            rintro e w7 ⟨a7, c7, rfl, ho7, hb7⟩
            have HB7 := hid (two_below HB6.out hb7)
            have k1 := (Sl.own ho7 HN.out).string
            have k2 := (HS.out.below HB7.out).string
            rw [← HN.out] at k2
            clear ho7 hb7 HB58 HC8
            go_wp2_with fail
            refine (HW.out _ HB7.out).mono ?_
            rintro e w8 ⟨rfl, hb8⟩
            have HB8 := hid (two_below HB7.out hb8)
            clear hb8
            go_wp2_with fail
            go_ret
            exact ⟨rfl, HB8.out⟩
end Go.Proofs.YtelfogdcijmenaaDoor
