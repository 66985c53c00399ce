/- The law DeduceFresh. -/
import Derived.Test.YtfnnhekjeobicaaGreatDoorMkAll
namespace Go.Proofs.YtfnnhekjeobicaaGreatDoor
open Go.RowKit Go.Maps Go.WideElems

def smallB (l : List Bs) : Bool := decide (l.length ≤ 40) && decide (lens l ≤ 700)
theorem small_any (w : World) (ao : Option Addr) (cap : Nat) (l : List Bs) (hk : Texts w (.slice ao l.length cap) l) (hm : l.length ≤ maxLen) (hs : ∀ i (h : i < l.length), l[i].length ≤ 140737488355328) :
    Calls Tryz.prog 7 #[.slice ao l.length cap] w fun e w' => e = .returned (.bool (smallB l)) ∧ w' = w := by
  unfold smallB
  by_cases h : l.length ≤ 40
  · rw [decide_eq_true h, Bool.true_and]; exact small_few w ao cap l hk h hs
  · rw [decide_eq_false h, Bool.false_and]; exact small_many w ao cap l hk (by omega) hm
theorem lens_mem {l : List Bs} {t : Bs} (h : t ∈ l) : t.length ≤ lens l := by
  unfold lens
  induction l with
  | nil => cases h
  | cons a l ih =>
    simp only [List.map_cons, List.sum_cons]
    rcases List.mem_cons.1 h with e | e
    · subst e; omega
    · have := ih e; omega
theorem lens_rights (l : List Bs) : lens (rights l) ≤ lens l := by
  unfold lens rights
  induction l with
  | nil => simp
  | cons a l ih =>
    rw [List.filter_cons]
    split <;> simp only [List.map_cons, List.sum_cons] <;> omega
theorem smallB_of {l : List Bs} (h : smallB l = true) : l.length ≤ 40 ∧ lens l ≤ 700 := by
  unfold smallB at h
  simpa using h
/-- a mind that has heard nothing of a name knows nothing of it -/
theorem fresh_knows {U l : List Bs} {w : World} {p : Nat} {o : Option Nat} {N : NM} (h : Mi U l w p o N) {x : Bs} (hx : x.head? = some 110) (hH : ∀ t ∈ l, ¬ Stands x t) {t : Bs} (hm : mkF N t = true) : ¬ Stands x t :=
  can_fresh hx hH ((h.knows t).1 hm)

set_option maxRecDepth 100000 in
set_option maxHeartbeats 4000000 in
theorem fresh_main (w : World) (hG : G0 w) (hP : Pw w) (al aa : Option Addr) (cl ca : Nat) (l ask : List Bs) (n : Int) (hn : n ≤ 9223372036854775807) (hk : Texts w (.slice al l.length cl) l) (ha : Texts w (.slice aa ask.length ca) ask) (hl : smallB l = true) (hal : smallB ask = true) (hs : ∀ i (h : i < l.length), l[i].length ≤ 140737488355328) (hsa : ∀ i (h : i < ask.length), ask[i].length ≤ 140737488355328) :
    Calls Tryz.prog 4 #[.slice al l.length cl, .slice aa ask.length ca, .int .i64 n] w fun e w' => e = .returned (.bool true) ∧ Below w.heap.size w w' := by
  have HLS := hid (smallB_of hl)
  have HAS := hid (smallB_of hal)
  have hR : ∀ t ∈ rights l, Tm.deep t ≠ 0 := fun t ht => by
    have := (List.mem_filter.1 ht).2
    simpa using this
  obtain ⟨hU, hlU⟩ := uni_of hR (by have h1 := lens_rights l; have h2 := HLS.out.2; unfold lens at h1 h2; omega)
  generalize (rights l).flatMap (subsF 64) = U at hU hlU
  have HS1 := hid (small_any w al cl l hk (by have := HLS.out.1; unfold maxLen; omega) hs)
  have HS2 := hid (small_any w aa ca ask ha (by have := HAS.out.1; unfold maxLen; omega) hsa)
  rw [hl] at HS1
  rw [hal] at HS2
  have HMD := hid (mind_any hU w hG al cl l hk HLS.out.1 (fun t ht hd => hlU t (List.mem_filter.2 ⟨ht, by simpa using hd⟩)))
  have HR := hid hR
  have HA := hid ha
  have HP := hid hP
  have HN := hid hn
  have HG := hid hG
  clear hU hlU hG hP hk ha hl hal hs hsa hR hn
  have HHL : Hid ((rights l).length ≤ 40) := hid (Nat.le_trans (List.length_filter_le _ _) HLS.out.1)
  generalize rights l = hd at HMD HR HHL
  go_enter Tryz.func4, Tryz.ntmps4
  go_wp2_with fail
  refine HS1.out.mono ?_
  rintro e w1 ⟨rfl, hw1⟩
  subst hw1
  go_wp2_with fail
  refine HS2.out.mono ?_
  rintro e w1' ⟨rfl, hw1⟩
  subst hw1
  clear HS1 HS2
  go_wp2_with fail
  refine HMD.out.mono ?_
  rintro e w2 ⟨v, o, N, rfl, hmi, hrow, hb2⟩
  have HMI := hid hmi
  have HRO := hid hrow
  have HB2 := hid hb2
  obtain ⟨av, kv, hv⟩ := own_shape hrow
  subst hv
  clear hmi hrow hb2 HMD
  have HNM := hid (mkname_any n HN.out w2 (HP.out.below HB2.out))
  have HG2 := HMI.out.g0
  have HWK := hid (fun W (hb : Below w2.heap.size w2 W) => works_any W (HMI.out.g0.below hb))
  clear HG2
  by_cases hn0 : n < 0
  · have HRES : Hid (nameRes n = ([], 2)) := by apply hid; unfold nameRes; rw [if_pos hn0]
    rw [HRES.out] at HNM
    clear hn0
    go_wp2_with fail
    refine HNM.out.mono ?_
    rintro e w3 ⟨rfl, hb3⟩
    have HB3 := hid hb3
    clear hb3 HNM
    go_wp2_with fail
    refine (HWK.out w3 HB3.out).mono ?_
    rintro e w4 ⟨rfl, hb4⟩
    have HB4 := hid (two_below HB3.out hb4)
    clear hb4
    go_wp2_with fail
    go_ret
    exact ⟨rfl, two_below HB2.out HB4.out⟩
  · obtain ⟨x, hres, hx, hix, hxl, hxe⟩ := name_res (by omega) HN.out
    clear hxe
    rw [hres] at HNM
    have HX := hid hx
    have HIX := hid hix
    have HXL := hid hxl
    clear hres hx hix hxl hn0
    go_wp2_with fail
    refine HNM.out.mono ?_
    rintro e w3 ⟨rfl, hb3⟩
    have HB3 := hid hb3
    clear hb3 HNM
    go_wp2_with fail
    have HR3 := hid (own_stays HRO.out (fun i e => HB3.out.block i (own_ge HRO.out e).2))
    have HM3 := hid (HMI.out.below HB3.out)
    have HB13 := hid (two_below HB2.out HB3.out)
    have HW3 : Hid (∀ W, Below w3.heap.size w3 W → Calls Tryz.prog 13 #[] W fun e w' => e = .returned (.bool true) ∧ Below W.heap.size W w') := hid (fun W hb => works_any W (HM3.out.g0.below hb))
    clear HRO HMI HB2 HB3 HWK
    have HAC : Hid (∀ i (h : i < ask.length), ∃ g o, aa = some ⟨g, o, none⟩ ∧ ∀ W, Below w3.heap.size w3 W → W.cell? ⟨g, o + i, none⟩ = some (St ask[i])) := hid (fun i h => by
      obtain ⟨ao', cap', he, ht⟩ := HA.out
      cases he
      obtain ⟨g, o, e, hg, hc⟩ := ht (fun e => by rw [e] at h; simp at h)
      exact ⟨g, o, e, fun W hb => by rw [← hc i h]; exact World.cell?_of_block ((hb.block g (Nat.lt_of_lt_of_le hg HB13.out.size)).trans (HB13.out.block g hg))⟩)
    have HAL2 : Hid (∀ i (h : i < ask.length), ask[i].length ≤ 100000) := hid (fun i h => by have h1 := lens_mem (List.getElem_mem h); have h2 := HAS.out.2; omega)
    clear HA
    obtain ⟨m, hm⟩ : ∃ m, m = hd.length := ⟨_, rfl⟩
    obtain ⟨q, hq⟩ : ∃ q, q = ask.length := ⟨_, rfl⟩
    rw [← hm, ← hq]
    have HML := hid hm
    have HQL := hid hq
    have hmb : m ≤ 40 := by rw [HML.out]; exact HHL.out
    have hqb : q ≤ 40 := by have := HAS.out.1; omega
    clear hm hq
    go_loopg [11] m (fun gg v wr => ∃ i : Nat, i ≤ m ∧ gg = m - i ∧ v = .int .i64 (i : Int) ∧ Below w3.heap.size w3 wr ∧ ∀ j (hj : j < hd.length), j < i → standsF x 64 hd[j] = false)
    case atStart => exact ⟨0, by omega, by omega, rfl, Below.refl _ _, fun j hj h => by omega⟩
    case round =>
      obtain ⟨i, hi, rfl, rfl, hbel, hall⟩ := hrel
      have HBE := hid hbel
      have HAL := hid hall
      clear hbel hall
      by_cases hil : i < m
      · have hik : i < hd.length := by rw [← HML.out]; exact hil
        obtain ⟨g, kc', hv, hg1, hg2, hcs⟩ := row_cells HR3.out (by omega)
        cases hv
        have hcell := (HBE.out.cell (p := ⟨g, i, none⟩) hg2).trans (hcs i hik)
        have HCI := hid (stands_all 64 wr hd[i] x (Tm.deep_le _))
        generalize hki : hd[i] = ki at hcell HCI
        have HKI := hid hki
        clear hcs hki
        cases hmk : standsF x 64 ki
        · rw [hmk] at HCI
          go_wp2_with fail
          refine HCI.out.mono ?_
          rintro e w4 ⟨rfl, hb4⟩
          have HB4 := hid (two_below HBE.out hb4)
          clear hb4
          go_wp2_with fail
          go_roundg (m - (i + 1))
          case measure => omega
          case rel =>
            refine ⟨i + 1, by omega, rfl, by go_num, HB4.out, fun j hj hji => ?_⟩
            by_cases e : j = i
            · subst e; rw [HKI.out, hmk]
            · exact HAL.out j hj (by omega)
        · rw [hmk] at HCI
          go_wp2_with fail
          refine HCI.out.mono ?_
          rintro e w4 ⟨rfl, hb4⟩
          have HB4 := hid (two_below HBE.out hb4)
          clear hb4
          go_wp2_with fail
          refine (HW3.out w4 HB4.out).mono ?_
          rintro e w5 ⟨rfl, hb5⟩
          have HB5 := hid (two_below HB4.out hb5)
          clear hb5
          go_wp2_with fail
          go_ret
          exact ⟨rfl, two_below HB13.out HB5.out⟩
      · have HFR : Hid (∀ t ∈ hd.reverse, ¬ Stands x t) := hid (fun t ht => by
          have ht' : t ∈ hd := by simpa using ht
          obtain ⟨j, hj, rfl⟩ := List.getElem_of_mem ht'
          have h1 := HAL.out j hj (by have := HML.out; omega)
          intro hs
          rw [(stands_iff 64 _ (HR.out _ ht') (Tm.deep_le _)).2 hs] at h1
          cases h1)
        obtain ⟨w6, rfl⟩ : ∃ w6, w6 = wr := ⟨_, rfl⟩
        go_wp2_with fail
        clear HAL hi hil
        go_loopg [12] q (fun gg v wr => ∃ i : Nat, i ≤ q ∧ gg = q - i ∧ v = .int .i64 (i : Int) ∧ Below w3.heap.size w3 wr)
        case atStart => exact ⟨0, by omega, by omega, rfl, HBE.out⟩
        case round =>
          obtain ⟨j, hj, rfl, rfl, hbel⟩ := hrel
          have HBJ := hid hbel
          clear hbel
          by_cases hjl : j < q
          · have hjk : j < ask.length := by rw [← HQL.out]; exact hjl
            obtain ⟨g, off, hao, hce⟩ := HAC.out j hjk
            have HCE := hid hce
            have HKN := hid (fun W (hb : Below w3.heap.size w3 W) => knows_any W w1'.heap.size o N ask[j] (HM3.out.below hb).rm (HAL2.out j hjk))
            have HST := hid (fun W => stands_all 64 W ask[j] x (Tm.deep_le _))
            have HFK : Hid (mkF N ask[j] = true → standsF x 64 ask[j] = false) := hid (fun hm => by
              have h1 := fresh_knows HM3.out HX.out HFR.out hm
              have h2 := HM3.out.mind.full.mk_right hm
              cases h3 : standsF x 64 ask[j] with
              | false => rfl
              | true => exact absurd ((stands_iff 64 _ h2 (Tm.deep_le _)).1 h3) h1)
            generalize ask[j] = t at hce HCE HKN HST HFK
            subst hao
            have hc1 := hce wr HBJ.out
            clear hce
            cases hmk : mkF N t
            · rw [hmk] at HKN
              go_wp2_with fail
              refine (HKN.out wr HBJ.out).mono ?_
              rintro e w7 ⟨rfl, hb7⟩
              have HB7 := hid (two_below HBJ.out hb7)
              clear hb7
              go_wp2_with fail
              go_roundg (q - (j + 1))
              case measure => omega
              case rel => exact ⟨j + 1, by omega, rfl, by go_num, HB7.out⟩
            · rw [hmk] at HKN
              rw [HFK.out hmk] at HST
              go_wp2_with fail
              refine (HKN.out wr HBJ.out).mono ?_
              rintro e w7 ⟨rfl, hb7⟩
              have HB7 := hid (two_below HBJ.out hb7)
              have hc2 := HCE.out w7 HB7.out
              clear hb7 hc1
              go_wp2_with fail
              refine (HST.out w7).mono ?_
              rintro e w8 ⟨rfl, hb8⟩
              have HB8 := hid (two_below HB7.out hb8)
              clear hb8
              go_wp2_with fail
              go_roundg (q - (j + 1))
              case measure => omega
              case rel => exact ⟨j + 1, by omega, rfl, by go_num, HB8.out⟩
          · obtain ⟨w7, rfl⟩ : ∃ w7, w7 = wr := ⟨_, rfl⟩
            have hxd : Tm.deep x = 1 := Tm.is_deep HIX.out (by omega) (by have := HXL.out; omega)
            have hpd : Tm.deep (80 :: x) = 2 := Tm.is_deep (Tm.is_pub HIX.out (by rw [HX.out]; decide) (by rw [HX.out]; decide)) (by omega) (by have := HXL.out; simp; omega)
            have hpr : pubRes x = (80 :: x, 0) := pub_of_plain (by rw [hpd]; decide)
            have HPB := hid (fun W => pubs_any x W)
            rw [hpr] at HPB
            have hk1 : mkF N x = false := by
              cases hq : mkF N x with
              | false => rfl
              | true => exact absurd .here (fresh_knows HM3.out HX.out HFR.out hq)
            have hk2 : mkF N (80 :: x) = false := by
              cases hq : mkF N (80 :: x) with
              | false => rfl
              | true => exact absurd (.kid (by rw [(pub_kid (by rw [hpd]; decide)).1]; simp) .here) (fresh_knows HM3.out HX.out HFR.out hq)
            have HK1 := hid (fun W (hb : Below w3.heap.size w3 W) => knows_any W w1'.heap.size o N x (HM3.out.below hb).rm (by have := HXL.out; omega))
            have HK2 := hid (fun W (hb : Below w3.heap.size w3 W) => knows_any W w1'.heap.size o N (80 :: x) (HM3.out.below hb).rm (by have := HXL.out; simp; omega))
            rw [hk1] at HK1
            rw [hk2] at HK2
            clear hxd hpd hpr hk1 hk2
            generalize 80 :: x = y at HPB HK2
            go_wp2_with fail
            refine (HPB.out _).mono ?_
            rintro e w8 ⟨rfl, hb8⟩
            have HB8 := hid (two_below HBJ.out hb8)
            clear hb8
            go_wp2_with fail
            refine (HK1.out w8 HB8.out).mono ?_
            rintro e w9 ⟨rfl, hb9⟩
            have HB9 := hid (two_below HB8.out hb9)
            clear hb9
            go_wp2_with fail
            refine (HK2.out w9 HB9.out).mono ?_
            rintro e w10 ⟨rfl, hb10⟩
            have HB10 := hid (two_below HB9.out hb10)
            clear hb10
            go_wp2_with fail
            refine (HW3.out w10 HB10.out).mono ?_
            rintro e w11 ⟨rfl, hb11⟩
            have HB11 := hid (two_below HB10.out hb11)
            clear hb11
            go_wp2_with fail
            go_ret
            exact ⟨rfl, two_below HB13.out HB11.out⟩

set_option maxRecDepth 100000 in
set_option maxHeartbeats 1000000 in
theorem freshlaw_any (w : World) (hG : G0 w) (hP : Pw w) (al aa : Option Addr) (cl ca : Nat) (l ask : List Bs) (n : Int) (hn : n ≤ 9223372036854775807) (hk : Texts w (.slice al l.length cl) l) (ha : Texts w (.slice aa ask.length ca) ask) (hm : l.length ≤ maxLen) (hma : ask.length ≤ maxLen) (hs : ∀ i (h : i < l.length), l[i].length ≤ 140737488355328) (hsa : ∀ i (h : i < ask.length), ask[i].length ≤ 140737488355328) :
    Calls Tryz.prog 4 #[.slice al l.length cl, .slice aa ask.length ca, .int .i64 n] w fun e w' => e = .returned (.bool true) ∧ Below w.heap.size w w' := by
  cases h1 : smallB l with
  | false =>
    have HS1 := hid (small_any w al cl l hk hm hs)
    rw [h1] at HS1
    clear hG hP hk ha hm hma hs hsa h1 hn
    go_enter Tryz.func4, Tryz.ntmps4
    go_wp2_with fail
    refine HS1.out.mono ?_
    rintro e w1 ⟨rfl, hw1⟩
    subst hw1
    go_wp2_with fail
    go_ret
    exact ⟨rfl, Below.refl _ _⟩
  | true =>
    cases h2 : smallB ask with
    | true => exact fresh_main w hG hP al aa cl ca l ask n hn hk ha h1 h2 hs hsa
    | false =>
      have HS1 := hid (small_any w al cl l hk hm hs)
      rw [h1] at HS1
      have HS2 := hid (small_any w aa ca ask ha hma hsa)
      rw [h2] at HS2
      clear hG hP hk ha hm hma hs hsa h1 h2 hn
      go_enter Tryz.func4, Tryz.ntmps4
      go_wp2_with fail
      refine HS1.out.mono ?_
      rintro e w1 ⟨rfl, hw1⟩
      subst hw1
      go_wp2_with fail
      refine HS2.out.mono ?_
      rintro e w2 ⟨rfl, hw2⟩
      subst hw2
      go_wp2_with fail
      go_ret
      exact ⟨rfl, Below.refl _ _⟩
end Go.Proofs.YtfnnhekjeobicaaGreatDoor
