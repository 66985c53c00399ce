/- One more secret is heard, as the document keeps all. -/
import Derived.Test.YtmdiggbbgcjcnaaDoorSdR
namespace Go.Proofs.YtmdiggbbgcjcnaaDoor
open Go.RowKit

/-- of the places behind one that have its high bits, just those at a power of two are kept -/
theorem kpOkF_is (c : Nat) : ∀ (n m : Nat), Sd.kpOkF c n = true → m < n → 0 < m → Sd.kp (2 ^ 20 - 1 - c + m) c = decide (2 ^ Nat.log2 m = m)
  | 0, _, _, h, _ => by omega
  | n + 1, m, hn, h, h0 => by
    simp only [Sd.kpOkF, Bool.and_eq_true, Bool.or_eq_true, beq_iff_eq] at hn
    by_cases e : m = n
    · subst e
      rcases hn.1 with q | q
      · omega
      · exact q
    · exact kpOkF_is c n m hn.2 (by omega) h0
theorem kpOk_is : ∀ (n c : Nat), Sd.kpOk n = true → c < n → Sd.kpOkF c (2 ^ Sd.low (2 ^ 20 - 1 - c)) = true
  | 0, _, _, h => by omega
  | n + 1, c, hn, h => by
    simp only [Sd.kpOk, Bool.and_eq_true] at hn
    by_cases e : c = n
    · subst e; exact hn.1
    · exact kpOk_is n c hn.2 (by omega)
theorem kp_pow {c m : Nat} (hc : c < 90) (hm : m < 2 ^ Sd.low (1048575 - c)) (h0 : 0 < m) : Sd.kp (1048575 - c + m) c = decide (2 ^ Nat.log2 m = m) :=
  kpOkF_is c _ m (kpOk_is 90 c Sd.kp_all hc) hm h0

theorem app_term2 {W : World} {base : Nat} {v : Value} {l : List Bs} (hown : W.ownsRow base 22 1 v l.length (l.map St)) (t : Bs) (hn : l.length + 1 ≤ 1000000) (hbase : base ≤ W.heap.size) :
    ∃ ao cap w', (∀ ty, (Builtin.append_ #[32, 32] ty #[v, .slice (some ⟨W.heap.size, 0, none⟩) 1 1]).run Tryd.prog (W.alloc (.cells #[St t] 22)) = .ok (.slice ao (l.length + 1) cap) w') ∧ w'.ownsRow base 22 1 (.slice ao (l.length + 1) cap) (l ++ [t]).length ((l ++ [t]).map St) ∧ W.grownBy w' v.ownBlock ∧
      ((Value.slice ao (l.length + 1) cap).ownBlock = v.ownBlock ∨ ∃ k, W.heap.size ≤ k ∧ (Value.slice ao (l.length + 1) cap).ownBlock = some k) := by
  obtain ⟨i0, hi, hz0, hz1, hz2⟩ := info_parts Tryd.info22
  obtain ⟨v', w', h4, h5, h6, _, h7⟩ := run_append_own_at (P := Tryd.prog) (W.alloc (.cells #[St t] 22)) base 32 32 22 i0 _ 1 16 Tryd.underlying32 hi hz0 hz1 hz2 rfl (by decide) v l.length (l.map St) (hown.alloc _) ⟨W.heap.size, 0, none⟩ 1 1 [St t] rfl
    (fun j u hj => by
      have : (W.alloc (.cells #[St t] 22)).cell? ⟨W.heap.size, j, none⟩ = some u := by
        rw [cell_of_heap (heap_alloc_new W _)]
        simpa using hj
      rw [add_plain, Nat.zero_add]
      exact this) (fun u hu => by simp at hu; rw [hu]; rfl) (by unfold maxLen; omega) (by omega) (by simp; omega)
  obtain ⟨ao, cap, rfl⟩ := row_shape h5
  refine ⟨ao, cap, w', fun ty => h4, by simpa using h5, ⟨h6.os, h6.tape, h6.output, ?_, fun k hk hne => ?_⟩, ?_⟩
  · have := h6.size; simp at this; omega
  · rw [h6.block k (by simp; omega) hne]; exact Below.heap_alloc W _ k hk
  · rcases h7 with q | q
    · exact Or.inl q
    · exact Or.inr ⟨_, by simp, q⟩

theorem okH_no {H : List Bs} {k : Nat} {t : Bs} {b : Nat} (hb : b < k) (h : Sd.fr stp k (2 ^ b) t ≠ (H.getD (H.length - 2 ^ b) [], 0)) : okH H k t = false := by
  cases e : okH H k t
  · rfl
  · unfold okH at e
    rw [List.all_eq_true] at e
    have := e b (by simpa using hb)
    exact absurd (by simpa using this) h
theorem okH_yes {H : List Bs} {k : Nat} {t : Bs} (h : ∀ b, b < k → Sd.fr stp k (2 ^ b) t = (H.getD (H.length - 2 ^ b) [], 0)) : okH H k t = true := by
  unfold okH
  rw [List.all_eq_true]
  intro b hb
  have := h b (by simpa using hb)
  simp [this]
/-- the places behind i that have its high bits -/
theorem shr_same {i k m : Nat} (hi : i % 2 ^ k = 0) (hm : m ≤ 2 ^ k) : ((i + m) >>> k = i >>> k) ↔ m < 2 ^ k := by
  rw [Nat.shiftRight_eq_div_pow, Nat.shiftRight_eq_div_pow]
  have h4 := Nat.div_add_mod i (2 ^ k)
  rw [hi, Nat.add_zero] at h4
  constructor
  · intro h
    apply Classical.byContradiction
    intro hn
    have e : m = 2 ^ k := by omega
    rw [e, Nat.add_div_right _ (Nat.two_pow_pos k)] at h
    omega
  · intro h
    rw [← h4, Nat.mul_add_div (Nat.two_pow_pos k), Nat.div_eq_of_lt h, Nat.mul_div_cancel_left _ (Nat.two_pow_pos k), Nat.add_zero]
theorem up_le {i k : Nat} (hi : i % 2 ^ k = 0) (hk : k ≤ 20) (hl : i < 1048576) : i + 2 ^ k ≤ 1048576 := by
  have h20 : (1048576 : Nat) = 2 ^ k * 2 ^ (20 - k) := by rw [← Nat.pow_add, show k + (20 - k) = 20 by omega]
  have h4 := Nat.div_add_mod i (2 ^ k)
  rw [hi, Nat.add_zero] at h4
  have hlt : i / 2 ^ k < 2 ^ (20 - k) := by
    apply Nat.div_lt_of_lt_mul
    rw [← h20]; exact hl
  have h5 : 2 ^ k * (i / 2 ^ k + 1) ≤ 1048576 := by rw [h20]; exact Nat.mul_le_mul_left _ hlt
  rw [Nat.mul_add, h4, Nat.mul_one] at h5
  exact h5

set_option maxHeartbeats 4000000 in
set_option maxRecDepth 100000 in
theorem radd_any {w : World} {B h : Nat} {v : Value} {H : List Bs} (i : Int) (t : Bs) (hs : Rst w B h v H) (hl : H.length < 90) (hB : B ≤ w.heap.size) :
    Calls Tryd.prog 14 #[.pointer (some ⟨h, 0, none⟩), .int .i64 i, St t] w fun e w' => e = .returned (.int .i64 ((addH H i t).1 : Int)) ∧ ∃ v', Rst w' B h v' (addH H i t).2 ∧ FrR h v v' w w' := by
  have h0 := hs.cell
  have HS := hid hs
  have HL := hid hl
  have HBB := hid hB
  obtain ⟨a, c, rfl⟩ := hs.shape
  obtain ⟨A, hA⟩ : ∃ A, A = addH H i t := ⟨_, rfl⟩
  have HA := hid hA
  rw [← hA]
  have hw1 : IntKind.i64.wrap (1048575 - (H.length : Int)) = 1048575 - (H.length : Int) := by rw [IntKind.wrap_i64]; omega
  clear hA hs hl hB
  by_cases h1 : i < 0
  · have HR : Hid (A = (2, H)) := hid (by rw [HA.out, addH, if_pos (Or.inl h1)])
    go_enter Tryd.func14, Tryd.ntmps14
    go_wp2_with fail
    go_ret
    rw [HR.out]
    exact ⟨rfl, _, HS.out, frR_below (Below.refl _ _)⟩
  by_cases h2 : i = 1048575 - (H.length : Int)
  case neg =>
    have HR : Hid (A = (2, H)) := hid (by rw [HA.out, addH, if_pos (Or.inr h2)])
    have h2' : (i == 1048575 - (H.length : Int)) = false := by simpa using h2
    go_enter Tryd.func14, Tryd.ntmps14
    go_wp2_with fail
    go_ret
    rw [HR.out]
    exact ⟨rfl, _, HS.out, frR_below (Below.refl _ _)⟩
  obtain ⟨n, hn⟩ : ∃ n : Nat, i = (n : Int) := ⟨i.toNat, by omega⟩
  subst hn
  have HNI : Hid (n + H.length = 1048575) := hid (by omega)
  have HAI : Hid (A = if Tm.deep t = 0 then (10, H) else if okH H (Sd.low n) t then (0, H ++ [t]) else (150, H)) := hid (by rw [HA.out, addH, if_neg (by omega)]; simp)
  have h2r : 1048575 - (H.length : Int) = (n : Int) := h2.symm
  have hn0 : ¬ (n : Int) < 0 := by omega
  obtain ⟨N, hN⟩ : ∃ N, N = H.length := ⟨_, rfl⟩
  have HN := hid hN
  rw [← hN] at h2r hw1 h0 ⊢
  rw [h2r] at hw1
  clear h1 h2 hN
  by_cases hd : Tm.deep t = 0
  · have HR : Hid (A = (10, H)) := hid (by rw [HAI.out, if_pos hd])
    have HD := hid hd
    clear hd
    go_enter Tryd.func14, Tryd.ntmps14
    go_wp2_with fail
    refine (rright_any t _).mono ?_
    rintro e w1 ⟨rfl, hb⟩
    have HB := hid hb
    clear hb
    rw [HD.out]
    go_wp2_with fail
    go_ret
    rw [HR.out]
    exact ⟨rfl, _, by rw [HN.out]; exact HS.out.below HB.out, frR_below HB.out⟩
  have HD : Hid ((Tm.deep t != 0) = true) := hid (by simpa using hd)
  have HAJ : Hid (A = if okH H (Sd.low n) t then (0, H ++ [t]) else (150, H)) := hid (by rw [HAI.out, if_neg hd])
  have HNB : Hid (n + N = 1048575 ∧ N < 90) := hid ⟨by rw [HN.out]; exact HNI.out, by rw [HN.out]; exact HL.out⟩
  have HLOW : Hid (∀ W, Calls Tryd.prog 28 #[.int .i64 (n : Int)] W fun e w' => e = .returned (.int .i64 (Sd.low n : Int)) ∧ w' = W) := hid (rlow_any n (by have := HNB.out; omega))
  have HLM := hid (Sd.low_mod n)
  have HK20 := hid (Sd.low_is n).1
  have HKP : Hid (∀ m, m < 2 ^ Sd.low n → 0 < m → ∀ W, Calls Tryd.prog 29 #[.int .i64 ((n + m : Nat) : Int), .int .i64 (N : Int)] W fun e w' => e = .returned (.bool (decide (2 ^ Nat.log2 m = m))) ∧ Below W.heap.size W w') := hid (fun m hm h0 W => by
    have hup := up_le (Sd.low_mod n) (Sd.low_is n).1 (by have := HNB.out; omega)
    have := rkp_any (n + m) N (by have := HNB.out; omega) (by omega) (by have := HNB.out; omega) W
    have e : n = 1048575 - N := by have := HNB.out; omega
    have h3 := kp_pow (c := N) (m := m) HNB.out.2 (by rw [← e]; exact hm) h0
    rw [← e] at h3
    rwa [h3] at this)
  have HUP : Hid (∀ b, b < Sd.low n → 2 ^ b ≤ N) := hid (fun b hb => low_up (i := N) (by have := HNB.out; omega) (by have e : 1048575 - N = n := (by have := HNB.out; omega); rw [e]; exact hb))
  clear hd
  go_enter Tryd.func14, Tryd.ntmps14
  go_wp2_with fail
  refine (rright_any t _).mono ?_
  rintro e w1 ⟨rfl, hb⟩
  have HB1 := hid hb
  clear hb
  rw [HD.out]
  go_wp2_with fail
  refine (HLOW.out w1).mono ?_
  rintro e w1b ⟨rfl, rfl⟩
  obtain ⟨k, hk⟩ : ∃ k, k = Sd.low n := ⟨_, rfl⟩
  rw [← hk] at HAJ HLM HK20 HKP HUP ⊢
  have hn1 : IntKind.i64.wrap ((n : Int) + 1) = ((n + 1 : Nat) : Int) := by rw [IntKind.wrap_i64]; have := HNB.out; omega
  clear hk
  go_wp2_with fail
  have hk0 : (0 : Int) ≤ (k : Int) := Int.natCast_nonneg _
  have hk64 : (k : Int) ≤ 64 := by have := HK20.out; omega
  have hk20 := HK20.out
  clear hn1 h0
  obtain ⟨q, hq⟩ : ∃ q, q = 2 ^ k := ⟨_, rfl⟩
  have HQ := hid hq
  have HQ1 : Hid (1 ≤ q ∧ q ≤ 1048576) := hid (by
    rw [hq]
    have h1 := Nat.two_pow_pos k
    have h2 : 2 ^ k ≤ 2 ^ 20 := Nat.pow_le_pow_right (by omega) hk20
    exact ⟨h1, h2⟩)
  have hNU : Hid (n + q ≤ 1048576) := hid (by rw [hq]; exact up_le HLM.out HK20.out (by have := HNB.out; omega))
  clear hq hk20
  obtain ⟨w2, rfl⟩ : ∃ w2, w2 = w1b := ⟨_, rfl⟩
  go_loopg [9, 10, 11] q (fun gg v9 v10 v11 wr => ∃ m : Nat, gg = q + 1 - m ∧ 1 ≤ m ∧ m ≤ q ∧ v9 = .int .i64 ((n : Int) + (m : Int)) ∧ Hid (∀ b, 2 ^ b < m → Sd.fr stp k (2 ^ b) t = (H.getD (N - 2 ^ b) [], 0)) ∧ Below w.heap.size w wr)
  case atStart => exact ⟨1, by omega, Nat.le_refl _, HQ1.out.1, rfl, hid (fun b hb => by have := Nat.two_pow_pos b; omega), HB1.out⟩
  case round =>
    obtain ⟨m, rfl, hm1, hmq, rfl, hdone, hbel⟩ := hrel
    have HBR := hid hbel
    have HM1 := hid hm1
    have HMQ := hid hmq
    have hs1 : ((n : Int) + (m : Int)) / 2 ^ k = (((n + m) >>> k : Nat) : Int) := by rw [show (n : Int) + (m : Int) = ((n + m : Nat) : Int) from by omega]; exact shr_int _ _
    have hs2 := shr_int n k
    have HSS := hid (shr_same (i := n) (k := k) (m := m) HLM.out (by rw [← HQ.out]; exact hmq))
    by_cases hlt : m < q
    · have HMLT := hid hlt
      have hle : ((n : Int) + (m : Int)) ≤ 1048575 := by have := hNU.out; omega
      have heq : (((n : Int) + (m : Int)) / 2 ^ k == (n : Int) / 2 ^ k) = true := by rw [hs1, hs2, HSS.out.2 (by rw [← HQ.out]; exact hlt)]; simp
      have heq2 : ((n : Int) + (m : Int)) / 2 ^ k = (n : Int) / 2 ^ k := by simpa using heq
      have HKC : Hid (∀ W, Calls Tryd.prog 29 #[.int .i64 ((n : Int) + (m : Int)), .int .i64 (N : Int)] W fun e w' => e = .returned (.bool (decide (2 ^ Nat.log2 m = m))) ∧ Below W.heap.size W w') := hid (fun W => by
        have := HKP.out m (by rw [← HQ.out]; exact hlt) (by omega) W
        rwa [show ((n + m : Nat) : Int) = (n : Int) + (m : Int) from by omega] at this)
      have hnx : IntKind.i64.wrap ((n : Int) + (m : Int) + 1) = (n : Int) + ((m + 1 : Nat) : Int) := by rw [IntKind.wrap_i64]; have := hNU.out; omega
      clear hs1 hs2 hbel hm1 hmq
      by_cases hpow : 2 ^ Nat.log2 m = m
      · obtain ⟨b, hb⟩ : ∃ b, b = Nat.log2 m := ⟨_, rfl⟩
        rw [← hb] at hpow
        have hbk : b < k := (Nat.pow_lt_pow_iff_right (by omega : 1 < 2)).1 (by rw [hpow, ← HQ.out]; exact hlt)
        have HBK := hid hbk
        have HON : Hid (∀ W, Calls Tryd.prog 25 #[St t, .int .i64 ((n : Int) + (m : Int)), .int .i64 (k : Int)] W fun en w' => en = made (Sd.fr stp k (2 ^ b) t) ∧ Below W.heap.size W w') := hid (fun W => by
          have := on_any t k HK20.out (n + m) (by have := hNU.out; omega) W
          have e : Sd.fr stp k (n + m) t = Sd.fr stp k (2 ^ b) t := by rw [← hpow]; exact fr_low HLM.out t
          rw [e] at this
          rwa [show ((n + m : Nat) : Int) = (n : Int) + (m : Int) from by omega] at this)
        have HMN : Hid (m ≤ N) := hid (by have := HUP.out b hbk; omega)
        obtain ⟨d, hd⟩ : ∃ d, d = N - m := ⟨_, rfl⟩
        have hdx : IntKind.i64.wrap (1048575 - ((n : Int) + (m : Int))) = (d : Int) := by rw [IntKind.wrap_i64]; have := HNB.out; have := HMN.out; omega
        have hd0 : (0 : Int) ≤ (d : Int) := Int.natCast_nonneg _
        have hdN : (d : Int) < (N : Int) := by have := HMN.out; have := HM1.out; omega
        have HNX : Hid (Sd.fr stp k (2 ^ b) t = (H.getD d [], 0) → ∀ b', 2 ^ b' < m + 1 → Sd.fr stp k (2 ^ b') t = (H.getD (N - 2 ^ b') [], 0)) := hid (fun h b' hb' => by
          by_cases e : 2 ^ b' < m
          · exact hdone.out b' e
          · have e2 : 2 ^ b' = m := by omega
            have e3 : b' = b := by rw [← hpow] at e2; exact (Nat.pow_right_inj (by omega)).1 e2
            rw [e3, h, hpow, hd])
        have HNO : Hid (Sd.fr stp k (2 ^ b) t ≠ (H.getD d [], 0) → okH H k t = false) := hid (fun h => okH_no hbk (by
          have e : N - 2 ^ b = d := by rw [hpow, hd]
          rw [← HN.out, e]; exact h))
        obtain ⟨g, kc, e1, hg, hcell⟩ := own_text (n := H.length) HS.out.own (by have := HN.out; omega)
        obtain ⟨rfl, rfl⟩ : a = some ⟨g, 0, none⟩ ∧ c = kc := by injection e1 with q1 _ q2; exact ⟨q1, q2⟩
        have HC0 : Hid (∀ W, Below w.heap.size w W → W.cell? ⟨h, 0, none⟩ = some (.slice (some ⟨g, 0, none⟩) N c) ∧ W.cell? ⟨g, d, none⟩ = some (St (H.getD d []))) := hid (fun W hW => ⟨by rw [HN.out]; exact (HS.out.below hW).cell, (hW.cell (p := ⟨g, d, none⟩) hg).trans (hcell d (by rw [← HN.out]; omega))⟩)
        have HD1 := hid hdone
        generalize H.getD d [] = z at HNX HNO HC0
        generalize Sd.fr stp k (2 ^ b) t = f at HON HNX HNO
        obtain ⟨y, e0⟩ := f
        have hdec : decide (2 ^ Nat.log2 m = m) = true := by rw [← hb]; simpa using hpow
        rw [hdec] at HKC
        clear hpow hb hbk hd hcell hg e1 hdec hdone hlt
        go_wp2_with fail
        go_quiet (fail)
        go_wp2_with fail
        refine (HKC.out _).mono ?_
        rintro e wa ⟨rfl, hba⟩
        have HBA := hid (HBR.out.trans (Below.mono (h := (show Below wr.heap.size wr wa from ⟨hba.os, hba.tape, hba.output, hba.size, hba.block⟩)) HBR.out.size))
        clear hba
        go_wp2_with fail
        refine (HON.out _).mono ?_
        rintro e wb ⟨rfl, hbb⟩
        have HBB2 := hid (HBA.out.trans (hbb.mono HBA.out.size))
        obtain ⟨hc0, hc1⟩ := HC0.out wb HBB2.out
        clear hbb HC0
        by_cases he : e0 = 0
        · subst he
          by_cases hy : y = z
          · have HNX2 := hid (HNX.out (by rw [hy]))
            subst hy
            go_wp2_with fail
            go_roundg (q - m)
            case measure => have := HMLT.out; omega
            case rel => exact ⟨m + 1, by omega, by omega, HMLT.out, by go_num, HNX2, HBB2.out⟩
          · have HR : Hid (A = (150, H)) := hid (by rw [HAJ.out, HNO.out (by intro h; exact hy (congrArg Prod.fst h)), if_neg (by decide)])
            have hy2 : (y == z) = false := by simpa using hy
            go_wp2_with fail
            go_ret
            rw [HR.out]
            exact ⟨rfl, _, by rw [HN.out]; exact HS.out.below HBB2.out, frR_below HBB2.out⟩
        · have HR : Hid (A = (150, H)) := hid (by rw [HAJ.out, HNO.out (by intro h; exact he (congrArg Prod.snd h)), if_neg (by decide)])
          have he2 : ((e0 : Int) == 0) = false := by simp; omega
          have he3 : (e0 : Int) ≠ 0 := by omega
          clear he
          go_wp2_with fail
          go_ret
          rw [HR.out]
          exact ⟨rfl, _, by rw [HN.out]; exact HS.out.below HBB2.out, frR_below HBB2.out⟩
      · have hdec : decide (2 ^ Nat.log2 m = m) = false := by simpa using hpow
        rw [hdec] at HKC
        have HNX : Hid (∀ b', 2 ^ b' < m + 1 → Sd.fr stp k (2 ^ b') t = (H.getD (N - 2 ^ b') [], 0)) := hid (fun b' hb' => by
          by_cases e : 2 ^ b' < m
          · exact hdone.out b' e
          · have e2 : 2 ^ b' = m := by omega
            exact absurd (by rw [← e2, Nat.log2_two_pow]) hpow)
        clear hdone hpow hdec hlt
        go_wp2_with fail
        go_quiet (fail)
        go_wp2_with fail
        refine (HKC.out _).mono ?_
        rintro e wa ⟨rfl, hba⟩
        have HBA := hid (HBR.out.trans (Below.mono (h := (show Below wr.heap.size wr wa from ⟨hba.os, hba.tape, hba.output, hba.size, hba.block⟩)) HBR.out.size))
        clear hba
        go_wp2_with fail
        go_roundg (q - m)
        case measure => have := HMLT.out; omega
        case rel => exact ⟨m + 1, by omega, by omega, HMLT.out, by go_num, HNX, HBA.out⟩
    · have hme : m = q := by omega
      have HYES : Hid (A = (0, H ++ [t])) := hid (by rw [HAJ.out, okH_yes (fun b hb => by rw [← HN.out]; exact hdone.out b (by rw [hme, HQ.out]; exact Nat.pow_lt_pow_right (by omega) hb)), if_pos rfl])
      have hsn : ¬ ((n + m) >>> k = n >>> k) := fun e => absurd (HSS.out.1 e) (by rw [← HQ.out]; omega)
      have hne : (((n : Int) + (m : Int)) / 2 ^ k == (n : Int) / 2 ^ k) = false := by
        rw [hs1, hs2]
        exact beq_eq_false_iff_ne.2 (fun e => hsn (by omega))
      have hne2 : ((n : Int) + (m : Int)) / 2 ^ k ≠ (n : Int) / 2 ^ k := by simpa using hne
      have HC0 : Hid (∀ W, Below w.heap.size w W → W.cell? ⟨h, 0, none⟩ = some (.slice a N c) ∧ W.frozen? ⟨h, 0, none⟩ = false) := hid (fun W hW => ⟨by rw [HN.out]; exact (HS.out.below hW).cell, by simp [World.frozen?, (HS.out.below hW).blk]⟩)
      have HAPP : Hid (∀ W, Below w.heap.size w W → ∃ ao cap w', (∀ ty, (Builtin.append_ #[32, 32] ty #[.slice a N c, .slice (some ⟨W.heap.size, 0, none⟩) 1 1]).run Tryd.prog (W.alloc (.cells #[St t] 22)) = .ok (.slice ao (N + 1) cap) w') ∧
          w'.cell? ⟨h, 0, none⟩ = some (.slice a N c) ∧ w'.frozen? ⟨h, 0, none⟩ = false ∧ Rst (w'.setCell ⟨h, 0, none⟩ (.slice ao (N + 1) cap)) B h (.slice ao (N + 1) cap) (H ++ [t]) ∧ FrR h (.slice a N c) (.slice ao (N + 1) cap) w (w'.setCell ⟨h, 0, none⟩ (.slice ao (N + 1) cap))) := hid (fun W hW => by
        have hs := HS.out.below hW
        have hown := hs.own
        rw [← HN.out] at hown
        obtain ⟨ao, cap, w', r1, r2, r3, r4⟩ := app_term2 (l := H) (by rw [HN.out] at hown; exact hown) t (by rw [← HN.out]; have := HNB.out; omega) (Nat.le_trans HBB.out hW.size)
        rw [← HN.out] at r1 r2 r3 r4
        have hne : (Value.slice a N c).ownBlock ≠ some h := own_ne hown hs.blk (by decide)
        have hbk : w'.heap[h]? = some (.cells #[.slice a N c] 34 (0, 0)) := by
          rw [r3.block h hs.lt (fun e => hne e.symm), HN.out]; exact hs.blk
        have hbk2 : (w'.setCell ⟨h, 0, none⟩ (.slice ao (N + 1) cap)).heap[h]? = some (.cells #[.slice ao (N + 1) cap] 34 (0, 0)) := by
          simp [World.setCell, Array.getElem?_modify, hbk]
        have hfx : Frx w'.heap.size h w' (w'.setCell ⟨h, 0, none⟩ (.slice ao (N + 1) cap)) := (Frx.refl _ _ _).setCell _ _
        refine ⟨ao, cap, w', r1, (cell_of_heap hbk 0).trans rfl, by simp [World.frozen?, hbk], ⟨hbk2, own_frx r2 hfx (own_ne r2 hbk (by decide))⟩, ?_⟩
        refine ⟨r3.os.trans hW.os, r3.tape.trans hW.tape, r3.output.trans hW.output, Nat.le_trans hW.size (Nat.le_trans r3.size hfx.size), fun j hj hjh hjo => ?_, ?_⟩
        · rw [hfx.block j (by have := r3.size; have := hW.size; omega) hjh, r3.block j (by have := hW.size; omega) (fun e => hjo e.symm)]
          exact hW.block j hj
        · rcases r4 with e | ⟨j, hj, e⟩
          · exact Or.inl e
          · exact Or.inr ⟨j, Nat.le_trans hW.size hj, e⟩)
      clear hs1 hs2 hdone hme hsn hlt hbel hm1 hmq
      by_cases hle : ((n : Int) + (m : Int)) ≤ 1048575
      · go_wp2_with fail
        go_quiet (fail)
        generalize hwz : wr.drewN _ = wz
        have HBZ : Hid (Below w.heap.size w wz) := hid (by rw [← hwz]; exact below_drewN HBR.out _)
        clear hwz
        obtain ⟨hc0, hf0⟩ := HC0.out wz HBZ.out
        obtain ⟨ao, cap, w3, r1, r2, r3, r4, r5⟩ := HAPP.out wz HBZ.out
        have HRUN := hid r1
        have HRS := hid r4
        have HFR := hid r5
        clear r1 r4 r5
        go_wp2_with (first | (at_builtin; refine wpList_append_run rfl (.tmp 74) (.tmp 76) 32 32 rfl _ _ (.slice ao (N + 1) cap) w3 rfl rfl HRUN.out ?_) | fail)
        go_ret
        rw [HYES.out]
        exact ⟨rfl, _, HRS.out, HFR.out⟩
      · have heq3 : (n : Int) + (m : Int) = 1048576 := by have := hNU.out; have := HMQ.out; omega
        have hle2 : decide ((1048576 : Int) ≤ 1048575) = false := by decide
        clear hle hne hne2
        go_wp2_with fail
        go_quiet (fail)
        generalize hwz : wr.drewN _ = wz
        have HBZ : Hid (Below w.heap.size w wz) := hid (by rw [← hwz]; exact below_drewN HBR.out _)
        clear hwz
        obtain ⟨hc0, hf0⟩ := HC0.out wz HBZ.out
        obtain ⟨ao, cap, w3, r1, r2, r3, r4, r5⟩ := HAPP.out wz HBZ.out
        have HRUN := hid r1
        have HRS := hid r4
        have HFR := hid r5
        clear r1 r4 r5
        go_wp2_with (first | (at_builtin; refine wpList_append_run rfl (.tmp 74) (.tmp 76) 32 32 rfl _ _ (.slice ao (N + 1) cap) w3 rfl rfl HRUN.out ?_) | fail)
        go_ret
        rw [HYES.out]
        exact ⟨rfl, _, HRS.out, HFR.out⟩
end Go.Proofs.YtmdiggbbgcjcnaaDoor
