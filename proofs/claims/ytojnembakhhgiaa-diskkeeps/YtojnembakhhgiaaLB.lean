/- A file that was synced is kept: the law, for every row of calls. -/
import Derived.Test.YtojnembakhhgiaaLA
namespace Go.Proofs.Ytojnembakhhgiaa
open Go.RowKit

set_option maxRecDepth 100000 in
set_option maxHeartbeats 16000000 in
theorem keeps_any (w : World) (a0 : Option Addr) (c0 : Nat) (la : List Ox) (a1 : Option Addr) (c1 : Nat) (lb : List Ox) (t : Bs) (ht : t.length ≤ 140737488355328) (a3 : Option Addr) (c3 : Nat) (tx : Bs) (keep : Nat) (hk : keep < 18446744073709551616) (hA : Os w a0 la) (hAx : ∀ x ∈ la, Oxr x) (hB : Os w a1 lb) (hBx : ∀ x ∈ lb, Oxr x) (hT : Bt w a3 c3 tx) :
    Calls Try.prog 3 #[.slice a0 la.length c0, .slice a1 lb.length c1, St t, .slice a3 tx.length c3, .int .u64 (keep : Int)] w fun e w' => e = .returned (.bool true) ∧ Below w.heap.size w w' := by
  have HWK : Hid (∀ W, Calls Try.prog 5 #[] W fun e w' => e = .returned (.bool true) ∧ Below W.heap.size W w') := hid (fun W => works_any W)
  obtain ⟨na, hna⟩ : ∃ na, na = la.length := ⟨_, rfl⟩
  obtain ⟨nb, hnb⟩ : ∃ nb, nb = lb.length := ⟨_, rfl⟩
  obtain ⟨nt, hnt⟩ : ∃ nt, nt = tx.length := ⟨_, rfl⟩
  rw [← hna, ← hnb, ← hnt]
  have HNA := hid hna
  have HNB := hid hnb
  have HNT := hid hnt
  have HA := hid hA
  have HAX := hid hAx
  have HB := hid hB
  have HBX := hid hBx
  have HTX := hid hT
  have HTL := hid ht
  have HKP := hid hk
  clear hna hnb hnt hA hAx hB hBx hT ht hk
  by_cases h1 : (40 : Int) < (na : Int)
  · go_enter Try.func3, Try.ntmps3
    go_wp2_with fail
    refine (HWK.out _).mono ?_
    rintro e w9 ⟨rfl, hb9⟩
    have HB9 := hid hb9
    clear hb9
    go_wp2_with fail
    go_ret
    exact ⟨rfl, HB9.out⟩
  · by_cases h2 : (40 : Int) < (nb : Int)
    · have h1' : decide ((40 : Int) < (na : Int)) = false := by simpa using h1
      go_enter Try.func3, Try.ntmps3
      go_wp2_with fail
      refine (HWK.out _).mono ?_
      rintro e w9 ⟨rfl, hb9⟩
      have HB9 := hid hb9
      clear hb9
      go_wp2_with fail
      go_ret
      exact ⟨rfl, HB9.out⟩
    · by_cases h3 : (900 : Int) < (nt : Int)
      · have h1' : decide ((40 : Int) < (na : Int)) = false := by simpa using h1
        have h2' : decide ((40 : Int) < (nb : Int)) = false := by simpa using h2
        go_enter Try.func3, Try.ntmps3
        go_wp2_with fail
        refine (HWK.out _).mono ?_
        rintro e w9 ⟨rfl, hb9⟩
        have HB9 := hid hb9
        clear hb9
        go_wp2_with fail
        go_ret
        exact ⟨rfl, HB9.out⟩
      · have h1' : decide ((40 : Int) < (na : Int)) = false := by simpa using h1
        have h2' : decide ((40 : Int) < (nb : Int)) = false := by simpa using h2
        have h3' : decide ((900 : Int) < (nt : Int)) = false := by simpa using h3
        go_enter Try.func3, Try.ntmps3
        go_wp2_with fail
        clear h1' h2' h3'
        go_loopg [11] na (fun gg vj wr => ∃ j : Nat, gg = na - j ∧ j ≤ na ∧ vj = .int .i64 (j : Int) ∧ wr = w ∧ ∀ x ∈ la.take j, x.name ≠ t ∧ x.to ≠ t)
        case atStart => exact ⟨0, rfl, Nat.zero_le _, rfl, rfl, fun x hx => (by simp at hx)⟩
        case round =>
          obtain ⟨j, rfl, hj, rfl, hw, hno⟩ := hrel
          have hw := hw.symm
          subst hw
          by_cases hjl : j < na
          · have hjs : j < la.length := by have := HNA.out; omega
            obtain ⟨g, o, hg, hc⟩ := HA.out (by omega)
            subst hg
            obtain ⟨x0, hx0⟩ : ∃ x0, x0 = la[j]'hjs := ⟨_, rfl⟩
            have e1 : w.cell? ⟨g, o + j * 7 + 1, none⟩ = some (St x0.name) := by rw [hx0]; exact hc j hjs 1 _ rfl
            have e2 : w.cell? ⟨g, o + j * 7 + 2, none⟩ = some (St x0.to) := by rw [hx0]; exact hc j hjs 2 _ rfl
            have hjw : IntKind.i64.wrap ((j : Int) + 1) = ((j + 1 : Nat) : Int) := by rw [IntKind.wrap_i64]; omega
            have hj0 : (0 : Int) ≤ (j : Int) := Int.natCast_nonneg _
            have hj1 : (j : Int) < (na : Int) := by omega
            have HNX : Hid (x0.name ≠ t → x0.to ≠ t → ∀ x ∈ la.take (j + 1), x.name ≠ t ∧ x.to ≠ t) := hid (fun h1 h2 x hx => by
              rw [List.take_add_one, List.getElem?_eq_getElem hjs] at hx
              rcases List.mem_append.1 hx with h | h
              · exact hno x h
              · have : x = la[j] := by simpa using h
                rw [this, ← hx0]
                exact ⟨h1, h2⟩)
            have HJ := hid hjl
            clear hx0
            generalize x0.name = n1 at *
            generalize x0.to = n2 at *
            clear hno hc hj hjl hjs
            by_cases h1 : n1 = t
            · subst h1
              go_wp2_with fail
              refine (HWK.out _).mono ?_
              rintro e w9 ⟨rfl, hb9⟩
              have HB9 := hid hb9
              clear hb9
              go_wp2_with fail
              go_ret
              exact ⟨rfl, HB9.out⟩
            · have h1' : (n1 == t) = false := by simpa using h1
              by_cases h2 : n2 = t
              · subst h2
                go_wp2_with fail
                refine (HWK.out _).mono ?_
                rintro e w9 ⟨rfl, hb9⟩
                have HB9 := hid hb9
                clear hb9
                go_wp2_with fail
                go_ret
                exact ⟨rfl, HB9.out⟩
              · have h2' : (n2 == t) = false := by simpa using h2
                go_wp2_with fail
                go_roundg (na - (j + 1))
                case measure => have := HJ.out; omega
                case rel => exact ⟨j + 1, rfl, HJ.out, rfl, rfl, HNX.out h1 h2⟩
          · have hje : j = na := by omega
            subst hje
            have HNO_la : Hid (∀ x ∈ la, x.name ≠ t ∧ x.to ≠ t) := hid (fun x hx => hno x (by rw [HNA.out, List.take_length]; exact hx))
            have hjn : ¬ (j : Int) < (j : Int) := by omega
            clear hno hj hjl
            go_wp2_with fail
            obtain ⟨na, hren⟩ : ∃ m, m = j := ⟨_, rfl⟩
            subst hren
            clear hjn
            go_loopg [12] nb (fun gg vj wr => ∃ j : Nat, gg = nb - j ∧ j ≤ nb ∧ vj = .int .i64 (j : Int) ∧ wr = w ∧ ∀ x ∈ lb.take j, x.name ≠ t ∧ x.to ≠ t)
            case atStart => exact ⟨0, rfl, Nat.zero_le _, rfl, rfl, fun x hx => (by simp at hx)⟩
            case round =>
              obtain ⟨j, rfl, hj, rfl, hw, hno⟩ := hrel
              have hw := hw.symm
              subst hw
              by_cases hjl : j < nb
              · have hjs : j < lb.length := by have := HNB.out; omega
                obtain ⟨g, o, hg, hc⟩ := HB.out (by omega)
                subst hg
                obtain ⟨x0, hx0⟩ : ∃ x0, x0 = lb[j]'hjs := ⟨_, rfl⟩
                have e1 : w.cell? ⟨g, o + j * 7 + 1, none⟩ = some (St x0.name) := by rw [hx0]; exact hc j hjs 1 _ rfl
                have e2 : w.cell? ⟨g, o + j * 7 + 2, none⟩ = some (St x0.to) := by rw [hx0]; exact hc j hjs 2 _ rfl
                have hjw : IntKind.i64.wrap ((j : Int) + 1) = ((j + 1 : Nat) : Int) := by rw [IntKind.wrap_i64]; omega
                have hj0 : (0 : Int) ≤ (j : Int) := Int.natCast_nonneg _
                have hj1 : (j : Int) < (nb : Int) := by omega
                have HNX : Hid (x0.name ≠ t → x0.to ≠ t → ∀ x ∈ lb.take (j + 1), x.name ≠ t ∧ x.to ≠ t) := hid (fun h1 h2 x hx => by
                  rw [List.take_add_one, List.getElem?_eq_getElem hjs] at hx
                  rcases List.mem_append.1 hx with h | h
                  · exact hno x h
                  · have : x = lb[j] := by simpa using h
                    rw [this, ← hx0]
                    exact ⟨h1, h2⟩)
                have HJ := hid hjl
                clear hx0
                generalize x0.name = n1 at *
                generalize x0.to = n2 at *
                clear hno hc hj hjl hjs
                by_cases h1 : n1 = t
                · subst h1
                  go_wp2_with fail
                  refine (HWK.out _).mono ?_
                  rintro e w9 ⟨rfl, hb9⟩
                  have HB9 := hid hb9
                  clear hb9
                  go_wp2_with fail
                  go_ret
                  exact ⟨rfl, HB9.out⟩
                · have h1' : (n1 == t) = false := by simpa using h1
                  by_cases h2 : n2 = t
                  · subst h2
                    go_wp2_with fail
                    refine (HWK.out _).mono ?_
                    rintro e w9 ⟨rfl, hb9⟩
                    have HB9 := hid hb9
                    clear hb9
                    go_wp2_with fail
                    go_ret
                    exact ⟨rfl, HB9.out⟩
                  · have h2' : (n2 == t) = false := by simpa using h2
                    go_wp2_with fail
                    go_roundg (nb - (j + 1))
                    case measure => have := HJ.out; omega
                    case rel => exact ⟨j + 1, rfl, HJ.out, rfl, rfl, HNX.out h1 h2⟩
              · have hje : j = nb := by omega
                subst hje
                have HNO_lb : Hid (∀ x ∈ lb, x.name ≠ t ∧ x.to ≠ t) := hid (fun x hx => hno x (by rw [HNB.out, List.take_length]; exact hx))
                have hjn : ¬ (j : Int) < (j : Int) := by omega
                clear hno hj hjl
                go_wp2_with fail
                obtain ⟨nb, hren⟩ : ∃ m, m = j := ⟨_, rfl⟩
                subst hren
                clear hjn
                refine (new_any w 300).mono ?_
                rintro e w1 ⟨rfl, hd1, hb1⟩
                have HD1 := hid hd1
                have HB1 := hid hb1
                clear hd1 hb1
                go_wp2_with fail
                refine (rnew_any w1 300).mono ?_
                rintro e w2 ⟨rfl, hr2, hb2⟩
                obtain ⟨K, hK⟩ : ∃ K : Nat → Prop, K = fun g => g < w.heap.size := ⟨_, rfl⟩
                have HP2 : Hid (Pr K w2 w.heap.size w1.heap.size (newD 300) (newD 300)) := hid (by rw [hK]; exact pr_new w w1 w2 300 HD1.out HB1.out hr2 hb2)
                have HW2 : Hid (Kw K w w2) := hid (by rw [hK]; exact (below_kw HB1.out (fun g hg => hg)).trans (below_kw hb2 (fun g hg => Nat.lt_of_lt_of_le hg HB1.out.size)))
                have HKB : Hid (∀ W, Kw K w W → Below w.heap.size w W) := hid (fun W hW => by rw [hK] at hW; exact kw_below hW)
                have HBW : Hid (∀ W w9, Kw K w W → Below W.heap.size W w9 → Below w.heap.size w w9) := hid (fun W w9 h1 h2 => by
                  rw [hK] at h1
                  exact kw_below (h1.trans (below_kw h2 (fun g hg => Nat.lt_of_lt_of_le hg h1.size))))
                have HKL : Hid (∀ g, K g ↔ g < w.heap.size) := hid (fun g => by rw [hK])
                clear hr2 hb2 hK HD1 HB1
                go_wp2_with fail
                generalize w1.heap.size = q at *
                go_loopg [15] na (fun gg vj wr => ∃ (j : Nat) (s t' : Ds), gg = na - j ∧ j ≤ na ∧ vj = .int .i64 (j : Int) ∧ Pr K wr w.heap.size q s t' ∧ Sm (5000 - j) s ∧ Sm (5000 - j) t' ∧ Kw K w wr)
                case atStart => exact ⟨0, _, _, rfl, Nat.zero_le _, rfl, HP2.out, ⟨by show 0 + 5000 < 1000000; omega, by show 0 + 5000 < 1000000; omega⟩, ⟨by show 0 + 5000 < 1000000; omega, by show 0 + 5000 < 1000000; omega⟩, HW2.out⟩
                case round =>
                  obtain ⟨j, s, t', rfl, hj, rfl, hp, hs, ht, hkw⟩ := hrel
                  by_cases hjl : j < na
                  · have hjs : j < la.length := by have := HNA.out; omega
                    obtain ⟨g, o, hg, hc⟩ := ((HA.out).low (HKB.out wr (hkw))) (by omega)
                    subst hg
                    obtain ⟨x, hx⟩ : ∃ x, x = la[j]'hjs := ⟨_, rfl⟩
                    have hxr : Oxr x := HAX.out x (by rw [hx]; exact List.getElem_mem hjs)
                    have e0 : wr.cell? ⟨g, o + j * 7, none⟩ = some (.int .u8 (x.kind : Int)) := by rw [hx]; exact hc j hjs 0 _ rfl
                    have e1 : wr.cell? ⟨g, o + j * 7 + 1, none⟩ = some (St x.name) := by rw [hx]; exact hc j hjs 1 _ rfl
                    have e2 : wr.cell? ⟨g, o + j * 7 + 2, none⟩ = some (St x.to) := by rw [hx]; exact hc j hjs 2 _ rfl
                    have e3 : wr.cell? ⟨g, o + j * 7 + 3, none⟩ = some (.int .i64 x.page) := by rw [hx]; exact hc j hjs 3 _ rfl
                    have e4 : wr.cell? ⟨g, o + j * 7 + 4, none⟩ = some (.int .u16 (x.long : Int)) := by rw [hx]; exact hc j hjs 4 _ rfl
                    have e5 : wr.cell? ⟨g, o + j * 7 + 5, none⟩ = some (.int .u8 (x.fill.toNat : Int)) := by rw [hx]; exact hc j hjs 5 _ rfl
                    have e6 : wr.cell? ⟨g, o + j * 7 + 6, none⟩ = some (.int .u64 (x.keep : Int)) := by rw [hx]; exact hc j hjs 6 _ rfl
                    have hjw : IntKind.i64.wrap ((j : Int) + 1) = ((j + 1 : Nat) : Int) := by rw [IntKind.wrap_i64]; omega
                    have hj0 : (0 : Int) ≤ (j : Int) := Int.natCast_nonneg _
                    have hj1 : (j : Int) < (na : Int) := by omega
                    have HPL := hid (plays_any hp (hs.less (by omega)) (ht.less (by omega)) x hxr)
                    have HNX : Hid (∀ w5, Pr K w5 w.heap.size q (playD s x) (playD t' x) → Kw K wr w5 → Pr K w5 w.heap.size q (playD s x) (playD t' x) ∧ Sm (5000 - (j + 1)) (playD s x) ∧ Sm (5000 - (j + 1)) (playD t' x) ∧ Kw K w w5) := hid (fun w5 h5 k5 => ⟨h5, (show Sm (5000 - (j + 1) + 1) s by rw [show 5000 - (j + 1) + 1 = 5000 - j by omega]; exact hs).play x, (show Sm (5000 - (j + 1) + 1) t' by rw [show 5000 - (j + 1) + 1 = 5000 - j by omega]; exact ht).play x, hkw.trans k5⟩)
                    have HJ := hid hjl
                    unfold xcs at HPL
                    generalize playD s x = s1 at *
                    generalize playD t' x = t1 at *
                    clear hx hxr hp hs ht hkw hc hj hjl hjs
                    go_wp2_with fail
                    refine HPL.out.mono ?_
                    rintro e w5 hpl
                    obtain ⟨b5, he, _, h5, k5⟩ := hpl
                    subst he
                    have H5 := hid (HNX.out w5 h5 k5)
                    clear h5 k5 HNX HPL
                    clear e0 e1 e2 e3 e4 e5 e6
                    go_wp2_with fail
                    go_roundg (na - (j + 1))
                    case measure => have := HJ.out; omega
                    case rel => exact ⟨j + 1, _, _, rfl, HJ.out, rfl, H5.out⟩
                  · have hje : j = na := by omega
                    subst hje
                    have hjn : ¬ (j : Int) < (j : Int) := by omega
                    have HS := hid hs
                    have HT := hid ht
                    have HKW := hid hkw
                    have HP := hid hp

                    clear hj hjl hp hs ht hkw
                    go_wp2_with fail
                    obtain ⟨na, hren⟩ : ∃ m, m = j := ⟨_, rfl⟩
                    subst hren
                    clear hjn
                    clear HP2 HW2 HA HAX HNA
                    have HQ1 := hid (pd_on HP.out)
                    have HSO : Hid (Sm (4000) (failD (onD s) 1073741824 0)) := hid (by
                      have a1 := small_on s
                      have a2 := small_fail (onD s) 1073741824 0
                      have := HS.out
                      exact ⟨by rw [a2.1, a1.1]; have := this.1; omega, by rw [a2.2, a1.2]; have := this.2; omega⟩)
                    have HOK := hid (HP.out.ok.1)
                    refine HQ1.out.mono ?_
                    rintro e w3 ⟨rfl, h3, k3⟩
                    have HQ2 := hid (pd_fail h3 1073741824 (by omega) 0 (by omega))
                    have HK3 := hid (HKW.out.trans k3)
                    clear h3 k3 HQ1 HKW
                    go_wp2_with fail
                    refine HQ2.out.mono ?_
                    rintro e w4 ⟨rfl, h4, k4⟩
                    have HQ3 := hid (pd_create h4 t HTL.out (HSO.out.less (by omega)))
                    have HK4 := hid (HK3.out.trans k4)
                    clear h4 k4 HQ2 HK3
                    go_wp2_with fail
                    have HWY : Hid ((createD (failD (onD s) 1073741824 0) t).1 = 0 → Way (createD (failD (onD s) 1073741824 0) t).2 t [] 4000) := hid (fun he => Way.create HOK.out 0 4000 (by omega) he)
                    have HSC : Hid (Sm 3900 (createD (failD (onD s) 1073741824 0) t).2) := hid (by
                      have a := small_create (failD (onD s) 1073741824 0) t
                      have := HSO.out
                      exact ⟨by have := this.1; omega, by have := this.2; omega⟩)
                    generalize (createD (failD (onD s) 1073741824 0) t).1 = cc at *
                    generalize (createD (failD (onD s) 1073741824 0) t).2 = s2 at *
                    refine HQ3.out.mono ?_
                    rintro e w5 ⟨rfl, h5, k5⟩
                    have HP5 := hid h5
                    have HK5 := hid (HK4.out.trans k5)
                    clear h5 k5 HQ3 HK4 HOK HSO
                    by_cases hcc : cc = 0
                    · subst hcc
                      have HWZ : Hid (Way s2 t [] 4000) := hid (HWY.out rfl)
                      clear HWY
                      have hz0 : ((0 : Nat) : Int) = 0 := rfl
                      rw [hz0]
                      clear hz0
                      go_wp2_with fail
                      go_loopg [3, 16, 17] nt (fun gg v3 vn _vk wr => ∃ (j : Nat) (r : Bs) (ao : Option Addr) (cp : Nat) (s : Ds) (P : List Bs), gg = r.length ∧ v3 = .slice ao r.length cp ∧ vn = .int .i64 (j : Int) ∧ P.length = j ∧ j + r.length ≤ 900 ∧ Bt w ao cp r ∧ Way s t P (4000 - j) ∧ Pr K wr w.heap.size q s t' ∧ Sm (3900 - j) s ∧ Kw K w wr)
                      case atStart =>
                        have hx := HNT.out
                        exact ⟨0, tx, a3, c3, s2, [], hx, by rw [hx], rfl, rfl, by omega, HTX.out, HWZ.out, HP5.out, HSC.out, HK5.out⟩
                      case round =>
                        clear HP5 HK5 HWZ HSC
                        obtain ⟨j, r, ao, cp, s, P, rfl, rfl, rfl, hPl, hjr, hbt, hway, hp, hs, hkw⟩ := hrel
                        by_cases hr0 : 0 < r.length
                        · obtain ⟨k, hk⟩ : ∃ k, k = min r.length 256 := ⟨_, rfl⟩
                          have hkr : k ≤ r.length := by omega
                          have hk0 : 0 < k := by omega
                          have hbtw := hbt.low (HKB.out wr hkw)
                          obtain ⟨g, o, hg, hrg⟩ := hbt.2 hr0
                          have hgl : g < w.heap.size := World.block_lt_of_cell? w ⟨g, o + 0, none⟩ (hrg 0 _ (List.getElem?_eq_getElem (by simpa [bcs] using hr0)))
                          have HW4 := hid (pd_write hp t HTL.out (hs.less (by omega)) (j : Int) (by omega) (.slice ao k cp) (r.take k) (hbtw.bo hkr) (fun g' hg' => by rw [hg] at hg'; cases hg'; exact (HKL.out _).2 hgl) (by rw [List.length_take]; omega))
                          have hto := fun q' W => slice_to q' ao r.length cp k (Nat.le_trans hkr hbt.1) W
                          obtain ⟨a1', c1', hfrom, hbt'⟩ := Bt.cut (ao := ao) (cap := cp) hkr
                          have HNX : Hid (∀ w5, (writeD s t (j : Int) (r.take k)).1 = 0 → Pr K w5 w.heap.size q (writeD s t (j : Int) (r.take k)).2 t' → Kw K wr w5 → (P ++ [pageB (r.take k)]).length = j + 1 ∧ j + 1 + (r.drop k).length ≤ 900 ∧ Bt w a1' c1' (r.drop k) ∧ Way (writeD s t (j : Int) (r.take k)).2 t (P ++ [pageB (r.take k)]) (4000 - (j + 1)) ∧ Pr K w5 w.heap.size q (writeD s t (j : Int) (r.take k)).2 t' ∧ Sm (3900 - (j + 1)) (writeD s t (j : Int) (r.take k)).2 ∧ Kw K w w5) := hid (fun w5 he h5 k5 => by
                            have hsm := small_write s t (j : Int) (r.take k)
                            have hs' := hs
                            refine ⟨by rw [List.length_append, hPl]; rfl, by rw [List.length_drop]; omega, hbt' w hbt, ?_, h5, ⟨by have := hs'.1; omega, by have := hs'.2; omega⟩, hkw.trans k5⟩
                            have hw' := (show Way s t P (4000 - (j + 1) + 1) from hway.less (by omega)).write hp.ok.1 (r.take k)
                            rw [hPl] at hw'
                            exact hw' he)
                          have HLE : Hid ((r.drop k).length < r.length) := hid (by rw [List.length_drop]; omega)
                          have HKW := hid hkw
                          generalize (writeD s t (j : Int) (r.take k)).1 = cw at *
                          generalize (writeD s t (j : Int) (r.take k)).2 = sw at *
                          have hgt : (0 : Int) < (r.length : Int) := by omega
                          have hmin : min (r.length : Int) 256 = (k : Int) := by omega
                          have hjw : IntKind.i64.wrap ((j : Int) + 1) = ((j + 1 : Nat) : Int) := by rw [IntKind.wrap_i64]; omega
                          obtain ⟨rl, hrl⟩ : ∃ rl, rl = r.length := ⟨_, rfl⟩
                          obtain ⟨rd, hrd⟩ : ∃ rd, rd = (r.drop k).length := ⟨_, rfl⟩
                          rw [← hrl] at hgt hmin hto hfrom HLE ⊢
                          rw [← hrd] at hfrom HLE
                          have HRD := hid hrd
                          have HRL := hid hrl
                          clear hPl hjr hbt hbtw hway hp hs hkw hg hrg hbt' hkr hk hr0 hrl hrd
                          go_wp2_with fail
                          refine HW4.out.mono ?_
                          rintro e w5 ⟨rfl, h5, k5⟩
                          have HP5 := hid h5
                          have HK5 := hid k5
                          clear h5 k5
                          by_cases hcw : cw = 0
                          · subst hcw
                            have HX := hid (HNX.out w5 rfl HP5.out HK5.out)
                            have hz0 : ((0 : Nat) : Int) = 0 := rfl
                            rw [hz0]
                            clear hz0 HNX
                            go_wp2_with fail
                            go_roundg rd
                            case measure => rw [← HRL.out]; exact HLE.out
                            case rel => exact ⟨j + 1, r.drop k, a1', c1', sw, P ++ [pageB (r.take k)], HRD.out, by rw [← HRD.out], rfl, HX.out⟩
                          · have hc1 : ¬ (cw : Int) = 0 := by omega
                            have hc2 : ((cw : Int) == 0) = false := by simpa using hc1
                            have hc3 : ((cw : Int) != 0) = true := by simpa using hc1
                            go_wp2_with fail
                            refine (HWK.out _).mono ?_
                            rintro e w9 ⟨rfl, hb9⟩
                            have HB9 := hid hb9
                            clear hb9
                            go_wp2_with fail
                            go_ret
                            exact ⟨rfl, HBW.out _ _ (HKW.out.trans HK5.out) HB9.out⟩
                        · have hr1 : r.length = 0 := by omega
                          have hgt : ¬ (0 : Int) < (r.length : Int) := by omega
                          obtain ⟨rl, hrl⟩ : ∃ rl, rl = r.length := ⟨_, rfl⟩
                          rw [← hrl] at hgt ⊢
                          have HWY := hid hway
                          have HP := hid hp
                          have HS := hid hs
                          have HKW := hid hkw
                          have HPL := hid hPl
                          have HPG := hid (hway.pgs hp.ok.1)
                          have HJR : Hid (j ≤ 900) := hid (by omega)
                          clear hway hp hs hkw hPl hbt hr1 hr0 hjr hrl
                          go_wp2_with fail
                          clear hgt
                          go_loopg [18, 19, 20, 21] j (fun gg vw vi _vp _ve wr => ∃ (i : Nat) (v : Value), gg = j - i ∧ i ≤ j ∧ vw = v ∧ vi = .int .i64 (i : Int) ∧ wr.ownsRow w.heap.size 5 1 v (P.take i).flatten.length (bcs (P.take i).flatten) ∧ Pr (fun g => K g ∨ v.ownBlock = some g) wr w.heap.size q s t' ∧ Kw K w wr)
                          case atStart => exact ⟨0, .slice none 0 0, rfl, Nat.zero_le _, rfl, rfl, World.ownsRow_nil _ _ _ _, HP.out.less (fun g hg => by rcases hg with hg | hg; exact hg; cases hg), HKW.out⟩
                          case round =>
                            obtain ⟨i, v, rfl, hi, hvw, rfl, hro, hp, hkw⟩ := hrel
                            have hPl := HPL.out
                            obtain ⟨ao3, cap3, hv3⟩ := row_shape2 hro
                            by_cases hil : i < j
                            · have hiP : i < P.length := by omega
                              have hp256 := HPG.out P[i] (List.getElem_mem hiP)
                              have hfl := flat_le HPG.out i
                              have hjr := HJR.out
                              have HR : Hid (Calls Try.prog 13 #[.pointer (some ⟨w.heap.size, 0, none⟩), St t, .int .i64 (i : Int)] wr fun e w' => ∃ g a5 n5 c5 w5, e = .returned (.tuple #[.slice (some ⟨g, 0, none⟩) 256 256, .int .i64 0]) ∧ (∀ ty, (Builtin.append_ #[23, 23] ty #[v, .slice (some ⟨g, 0, none⟩) 256 256]).run Try.prog w' = .ok (.slice a5 n5 c5) w5) ∧ w5.ownsRow w.heap.size 5 1 (.slice a5 n5 c5) (P.take (i + 1)).flatten.length (bcs (P.take (i + 1)).flatten) ∧ Pr (fun g => K g ∨ (Value.slice a5 n5 c5).ownBlock = some g) w5 w.heap.size q s t' ∧ Kw K w w5) := hid (by
                                refine (pd_read hp t HTL.out (i : Int) (by omega)).mono ?_
                                rw [HWY.out.read hp.ok.1 hiP]
                                rintro e w' ⟨⟨vp, rfl, hvp⟩, hB'⟩
                                obtain ⟨g, rfl, hrg⟩ := bw_range hvp (by rw [hp256]; omega)
                                have hro' := ownsRow_same hro (fun k hk => hB'.block k (hro.lt k hk).2)
                                have hkb : w.heap.size ≤ wr.heap.size := hkw.size
                                obtain ⟨v5, w5, r1, r2, r3, r4⟩ := bytes_add hro' g P[i] hrg 256 (by rw [hp256]; omega) (Nat.le_trans hkb hB'.size)
                                rw [← flat_take hiP] at r2
                                rw [hp256] at r1 ⊢
                                obtain ⟨a5, c5, hv5⟩ := row_shape2 r2
                                obtain ⟨p1, p2⟩ := Pr.grew (v := v) (v' := v5) (hp.low hB') r3 r4 (fun k hk => (own_ge r2 hk).2) (fun k hk e => by have h1 := (own_ge hro e).1; have := (HKL.out k).1 hk; omega)
                                refine ⟨g, a5, _, c5, w5, rfl, fun ty => by rw [← hv5]; exact r1 ty, by rw [← hv5]; exact r2, by rw [← hv5]; exact p1, hkw.trans (Kw.trans (below_kw hB' (fun k hk => hp.lt (.inl hk))) p2)⟩)
                              have hiw : IntKind.i64.wrap ((i : Int) + 1) = ((i + 1 : Nat) : Int) := by rw [IntKind.wrap_i64]; omega
                              have hi0 : (0 : Int) ≤ (i : Int) := Int.natCast_nonneg _
                              have hi1 : (i : Int) < (j : Int) := by omega
                              have HIL := hid hil
                              generalize (P.take i).flatten.length = n3 at hv3
                              clear hro hp hkw hi hil hiP hp256 hfl hjr hPl
                              subst hv3
                              subst hvw
                              go_wp2_with fail
                              refine HR.out.mono ?_
                              rintro e w6' ⟨g, a5, n5, c5, w5, rfl, hrn, h51, h52, h53⟩
                              have HRN := hid hrn
                              have H51 := hid h51
                              have H52 := hid h52
                              have H53 := hid h53
                              clear hrn h51 h52 h53 HR
                              go_wp2_with (first | (at_builtin; refine wpList_append_run rfl (.tmp 147) (.tmp 148) 23 rfl (.slice ao3 n3 cap3) (.slice (some ⟨g, 0, none⟩) 256 256) (.slice a5 n5 c5) w5 rfl rfl HRN.out ?_) | fail)
                              go_roundg (j - (i + 1))
                              case measure => have := HIL.out; omega
                              case rel => exact ⟨i + 1, _, rfl, HIL.out, rfl, rfl, H51.out, H52.out, H53.out⟩
                            · have hie : i = j := by omega
                              subst hie
                              rw [show P.take i = P from List.take_of_length_le (by omega)] at hro hv3
                              have hin : ¬ (i : Int) < (i : Int) := by omega
                              have HRO := hid hro
                              have HPV := hid hp
                              have HKV := hid hkw
                              obtain ⟨nl, hnl⟩ : ∃ nl, nl = P.flatten.length := ⟨_, rfl⟩
                              rw [← hnl] at hv3
                              have HV3 := hid hv3
                              clear hro hp hkw hi hil hPl hnl
                              subst hvw
                              subst hv3
                              go_wp2_with fail
                              obtain ⟨j, hren⟩ : ∃ m, m = i := ⟨_, rfl⟩
                              subst hren
                              clear hin
                              obtain ⟨K2, hK2⟩ : ∃ K2 : Nat → Prop, K2 = fun g => K g ∨ (Value.slice ao3 nl cap3).ownBlock = some g := ⟨_, rfl⟩
                              rw [← hK2] at HPV
                              have HKK : Hid (∀ g, K g → K2 g) := hid (fun g hg => by rw [hK2]; exact .inl hg)
                              have HKO : Hid (∀ g, (Value.slice ao3 nl cap3).ownBlock = some g → K2 g) := hid (fun g hg => by rw [hK2]; exact .inr hg)
                              clear hK2
                              obtain ⟨z1, z2, z3⟩ := (show Way s t P (4000 - j - 1 + 1) from HWY.out.less (by have := HJR.out; omega)).sync HPV.out.ok.1
                              have HQ1 := hid (pd_sync HPV.out t HTL.out (HS.out.less (by have := HJR.out; omega)))
                              rw [z1] at HQ1
                              have HKP1 := hid z2
                              have HSY : Hid (Sm 2900 (syncD s t).2) := hid (by
                                have a := small_sync s t
                                have := HS.out
                                have := HJR.out
                                exact ⟨by have := HS.out.1; omega, by have := HS.out.2; omega⟩)
                              generalize (syncD s t).2 = s3 at *
                              clear z1 z2 z3 HWY HS
                              refine HQ1.out.mono ?_
                              rintro e w6 ⟨rfl, h6, k6⟩
                              have HQ2 := hid (pd_fail h6 1073741824 (by omega) keep HKP.out)
                              have HKA := hid (HKV.out.trans (k6.less HKK.out))
                              have HRO6 : Hid (w6.ownsRow w.heap.size 5 1 (.slice ao3 nl cap3) P.flatten.length (bcs P.flatten)) := hid (ownsRow_same HRO.out (fun g hg => k6.blk g (HKO.out g hg)))
                              clear h6 k6 HQ1 HRO HKV HPV
                              have hz0 : ((0 : Nat) : Int) = 0 := rfl
                              rw [hz0]
                              clear hz0
                              go_wp2_with fail
                              have HKP2 : Hid (Kept (failD s3 1073741824 keep) t P) := hid (HKP1.out.fail _ _)
                              have HSF : Hid (Sm 2900 (failD s3 1073741824 keep)) := hid (by
                                have a := small_fail s3 1073741824 keep
                                exact ⟨by rw [a.1]; exact HSY.out.1, by rw [a.2]; exact HSY.out.2⟩)
                              generalize failD s3 1073741824 keep = s4 at *
                              refine HQ2.out.mono ?_
                              rintro e w7 ⟨rfl, h7, k7⟩
                              have HP7 := hid h7
                              have HK7 := hid (HKA.out.trans (k7.less HKK.out))
                              have HRO7 : Hid (w7.ownsRow w.heap.size 5 1 (.slice ao3 nl cap3) P.flatten.length (bcs P.flatten)) := hid (ownsRow_same HRO6.out (fun g hg => k7.blk g (HKO.out g hg)))
                              clear h7 k7 HQ2 HKA HRO6 HKP1 HSY
                              go_wp2_with fail
                              obtain ⟨np, hnp⟩ : ∃ np, np = j := ⟨_, rfl⟩
                              subst hnp
                              go_loopg [22] nb (fun gg vj wr => ∃ (j : Nat) (s t' : Ds), gg = nb - j ∧ j ≤ nb ∧ vj = .int .i64 (j : Int) ∧ Pr K2 wr w.heap.size q s t' ∧ Sm (2900 - j) s ∧ Sm (2900 - j) t' ∧ Kw K2 w7 wr ∧ Kept s t P)
                              case atStart => exact ⟨0, _, _, rfl, Nat.zero_le _, rfl, HP7.out, HSF.out, HT.out.less (by omega), Kw.refl _ _, HKP2.out⟩
                              case round =>
                                obtain ⟨j, s, t', rfl, hj, rfl, hp, hs, ht, hkw, hkp⟩ := hrel
                                by_cases hjl : j < nb
                                · have hjs : j < lb.length := by have := HNB.out; omega
                                  obtain ⟨g, o, hg, hc⟩ := ((HB.out).low (HKB.out wr (HK7.out.trans (hkw.less HKK.out)))) (by omega)
                                  subst hg
                                  obtain ⟨x, hx⟩ : ∃ x, x = lb[j]'hjs := ⟨_, rfl⟩
                                  have hxr : Oxr x := HBX.out x (by rw [hx]; exact List.getElem_mem hjs)
                                  have e0 : wr.cell? ⟨g, o + j * 7, none⟩ = some (.int .u8 (x.kind : Int)) := by rw [hx]; exact hc j hjs 0 _ rfl
                                  have e1 : wr.cell? ⟨g, o + j * 7 + 1, none⟩ = some (St x.name) := by rw [hx]; exact hc j hjs 1 _ rfl
                                  have e2 : wr.cell? ⟨g, o + j * 7 + 2, none⟩ = some (St x.to) := by rw [hx]; exact hc j hjs 2 _ rfl
                                  have e3 : wr.cell? ⟨g, o + j * 7 + 3, none⟩ = some (.int .i64 x.page) := by rw [hx]; exact hc j hjs 3 _ rfl
                                  have e4 : wr.cell? ⟨g, o + j * 7 + 4, none⟩ = some (.int .u16 (x.long : Int)) := by rw [hx]; exact hc j hjs 4 _ rfl
                                  have e5 : wr.cell? ⟨g, o + j * 7 + 5, none⟩ = some (.int .u8 (x.fill.toNat : Int)) := by rw [hx]; exact hc j hjs 5 _ rfl
                                  have e6 : wr.cell? ⟨g, o + j * 7 + 6, none⟩ = some (.int .u64 (x.keep : Int)) := by rw [hx]; exact hc j hjs 6 _ rfl
                                  have hjw : IntKind.i64.wrap ((j : Int) + 1) = ((j + 1 : Nat) : Int) := by rw [IntKind.wrap_i64]; omega
                                  have hj0 : (0 : Int) ≤ (j : Int) := Int.natCast_nonneg _
                                  have hj1 : (j : Int) < (nb : Int) := by omega
                                  have HPL := hid (plays_any hp (hs.less (by omega)) (ht.less (by omega)) x hxr)
                                  have HNX : Hid (∀ w5, Pr K2 w5 w.heap.size q (playD s x) (playD t' x) → Kw K2 wr w5 → Pr K2 w5 w.heap.size q (playD s x) (playD t' x) ∧ Sm (2900 - (j + 1)) (playD s x) ∧ Sm (2900 - (j + 1)) (playD t' x) ∧ Kw K2 w7 w5 ∧ Kept (playD s x) t P) := hid (fun w5 h5 k5 => ⟨h5, (show Sm (2900 - (j + 1) + 1) s by rw [show 2900 - (j + 1) + 1 = 2900 - j by omega]; exact hs).play x, (show Sm (2900 - (j + 1) + 1) t' by rw [show 2900 - (j + 1) + 1 = 2900 - j by omega]; exact ht).play x, hkw.trans k5, hkp.play hp.ok.1 x (HNO_lb.out x (by rw [hx]; exact List.getElem_mem hjs)).1 (HNO_lb.out x (by rw [hx]; exact List.getElem_mem hjs)).2⟩)
                                  have HJ := hid hjl
                                  unfold xcs at HPL
                                  generalize playD s x = s1 at *
                                  generalize playD t' x = t1 at *
                                  clear hx hxr hp hs ht hkw hc hj hjl hjs hkp
                                  go_wp2_with fail
                                  refine HPL.out.mono ?_
                                  rintro e w5 hpl
                                  obtain ⟨b5, he, _, h5, k5⟩ := hpl
                                  subst he
                                  have H5 := hid (HNX.out w5 h5 k5)
                                  clear h5 k5 HNX HPL
                                  clear e0 e1 e2 e3 e4 e5 e6
                                  go_wp2_with fail
                                  go_roundg (nb - (j + 1))
                                  case measure => have := HJ.out; omega
                                  case rel => exact ⟨j + 1, _, _, rfl, HJ.out, rfl, H5.out⟩
                                · have hje : j = nb := by omega
                                  subst hje
                                  have hjn : ¬ (j : Int) < (j : Int) := by omega
                                  have HS := hid hs
                                  have HT := hid ht
                                  have HKW := hid hkw
                                  have HP := hid hp
                                  have HKP3 := hid hkp
                                  clear hj hjl hp hs ht hkw hkp
                                  go_wp2_with fail
                                  obtain ⟨nb, hren⟩ : ∃ m, m = j := ⟨_, rfl⟩
                                  subst hren
                                  clear hjn
                                  clear HP7 HKP2 HSF
                                  have HRO8 : Hid (wr.ownsRow w.heap.size 5 1 (.slice ao3 nl cap3) P.flatten.length (bcs P.flatten)) := hid (ownsRow_same HRO7.out (fun g hg => HKW.out.blk g (HKO.out g hg)))
                                  have HK8 := hid (HK7.out.trans (HKW.out.less HKK.out))
                                  have HP8 := hid HP.out
                                  have HKP8 := hid HKP3.out
                                  clear HP HKP3 HRO7
                                  refine (pd_off HP8.out).mono ?_
                                  rintro e w8 ⟨rfl, hw8⟩
                                  subst hw8
                                  obtain ⟨s8, hs8⟩ : ∃ s8, s8 = s := ⟨_, rfl⟩
                                  subst hs8
                                  cases hoff : s8.off with
                                  | true =>
                                    have HOF := hid hoff
                                    clear hoff
                                    go_wp2_with fail
                                    have HQ3 := hid (pd_on HP8.out)
                                    have HOFF : Hid ((onD s8).off = false) := hid (by
                                      unfold onD
                                      rw [if_neg (by rw [HOF.out]; decide)])
                                    have HKP4 : Hid (Kept (onD s8) t P) := hid HKP8.out.on
                                    generalize onD s8 = s9 at *
                                    refine HQ3.out.mono ?_
                                    rintro e w9 ⟨rfl, h9, k9⟩
                                    have HP9 := hid h9
                                    have HK9 := hid (HK8.out.trans (k9.less HKK.out))
                                    have HRO9 : Hid (w9.ownsRow w.heap.size 5 1 (.slice ao3 nl cap3) P.flatten.length (bcs P.flatten)) := hid (ownsRow_same HRO8.out (fun g hg => k9.blk g (HKO.out g hg)))
                                    have HQ4 := hid (pd_len h9 t HTL.out)
                                    rw [HKP4.out.len h9.ok.1 HOFF.out, HPL.out] at HQ4
                                    clear h9 k9 HQ3 HK8 HP8 HRO8 HKP8
                                    go_wp2_with fail
                                    refine HQ4.out.mono ?_
                                    rintro e w9' ⟨rfl, hw9⟩
                                    have hw9 := hw9.symm
                                    subst hw9
                                    have hz0 : ((0 : Nat) : Int) = 0 := rfl
                                    rw [hz0]
                                    clear hz0 HQ4
                                    go_wp2_with fail
                                    go_loopg [23, 26, 27, 28] np (fun gg vw vi _vp _ve wr => ∃ (i : Nat) (u : Value), gg = np - i ∧ i ≤ np ∧ vw = u ∧ vi = .int .i64 (i : Int) ∧ wr.ownsRow w9.heap.size 5 1 u (P.take i).flatten.length (bcs (P.take i).flatten) ∧ Pr (fun g => K2 g ∨ u.ownBlock = some g) wr w.heap.size q s9 t' ∧ Kw K2 w9 wr)
                                    case atStart => exact ⟨0, .slice none 0 0, rfl, Nat.zero_le _, rfl, rfl, World.ownsRow_nil _ _ _ _, HP9.out.less (fun g hg => by rcases hg with hg | hg; exact hg; cases hg), Kw.refl _ _⟩
                                    case round =>
                                      obtain ⟨i, u, rfl, hi, hvw, rfl, hro, hp, hkw⟩ := hrel
                                      have hPl := HPL.out
                                      obtain ⟨ao7, cap7, hv3⟩ := row_shape2 hro
                                      by_cases hil : i < np
                                      · have hiP : i < P.length := by omega
                                        have hp256 := HPG.out P[i] (List.getElem_mem hiP)
                                        have hfl := flat_le HPG.out i
                                        have hjr := HJR.out
                                        have HR : Hid (Calls Try.prog 13 #[.pointer (some ⟨w.heap.size, 0, none⟩), St t, .int .i64 (i : Int)] wr fun e w' => ∃ g a5 n5 c5 w5, e = .returned (.tuple #[.slice (some ⟨g, 0, none⟩) 256 256, .int .i64 0]) ∧ (∀ ty, (Builtin.append_ #[23, 23] ty #[u, .slice (some ⟨g, 0, none⟩) 256 256]).run Try.prog w' = .ok (.slice a5 n5 c5) w5) ∧ w5.ownsRow w9.heap.size 5 1 (.slice a5 n5 c5) (P.take (i + 1)).flatten.length (bcs (P.take (i + 1)).flatten) ∧ Pr (fun g => K2 g ∨ (Value.slice a5 n5 c5).ownBlock = some g) w5 w.heap.size q s9 t' ∧ Kw K2 w9 w5) := hid (by
                                          refine (pd_read hp t HTL.out (i : Int) (by omega)).mono ?_
                                          rw [HKP4.out.read hp.ok.1 HOFF.out hiP]
                                          rintro e w' ⟨⟨vp, rfl, hvp⟩, hB'⟩
                                          obtain ⟨g, rfl, hrg⟩ := bw_range hvp (by rw [hp256]; omega)
                                          have hro' := ownsRow_same hro (fun k hk => hB'.block k (hro.lt k hk).2)
                                          have hkb : w9.heap.size ≤ wr.heap.size := hkw.size
                                          obtain ⟨v5, w5, r1, r2, r3, r4⟩ := bytes_add hro' g P[i] hrg 256 (by rw [hp256]; omega) (Nat.le_trans hkb hB'.size)
                                          rw [← flat_take hiP] at r2
                                          rw [hp256] at r1 ⊢
                                          obtain ⟨a5, c5, hv5⟩ := row_shape2 r2
                                          obtain ⟨p1, p2⟩ := Pr.grew (v := u) (v' := v5) (hp.low hB') r3 r4 (fun k hk => (own_ge r2 hk).2) (fun k hk e => by have h1 := (own_ge hro e).1; have := HP9.out.lt hk; omega)
                                          refine ⟨g, a5, _, c5, w5, rfl, fun ty => by rw [← hv5]; exact r1 ty, by rw [← hv5]; exact r2, by rw [← hv5]; exact p1, hkw.trans (Kw.trans (below_kw hB' (fun k hk => hp.lt (.inl hk))) p2)⟩)
                                        have hiw : IntKind.i64.wrap ((i : Int) + 1) = ((i + 1 : Nat) : Int) := by rw [IntKind.wrap_i64]; omega
                                        have hi0 : (0 : Int) ≤ (i : Int) := Int.natCast_nonneg _
                                        have hi1 : (i : Int) < (np : Int) := by omega
                                        have HIL := hid hil
                                        generalize (P.take i).flatten.length = n3 at hv3
                                        clear hro hp hkw hi hil hiP hp256 hfl hjr hPl
                                        subst hv3
                                        subst hvw
                                        go_wp2_with fail
                                        refine HR.out.mono ?_
                                        rintro e w6' ⟨g, a5, n5, c5, w5, rfl, hrn, h51, h52, h53⟩
                                        have HRN := hid hrn
                                        have H51 := hid h51
                                        have H52 := hid h52
                                        have H53 := hid h53
                                        clear hrn h51 h52 h53 HR
                                        go_wp2_with (first | (at_builtin; refine wpList_append_run rfl (.tmp 202) (.tmp 203) 23 rfl (.slice ao7 n3 cap7) (.slice (some ⟨g, 0, none⟩) 256 256) (.slice a5 n5 c5) w5 rfl rfl HRN.out ?_) | fail)
                                        go_roundg (np - (i + 1))
                                        case measure => have := HIL.out; omega
                                        case rel => exact ⟨i + 1, _, rfl, HIL.out, rfl, rfl, H51.out, H52.out, H53.out⟩
                                      · have hie : i = np := by omega
                                        subst hie
                                        rw [show P.take i = P from List.take_of_length_le (by omega)] at hro hv3
                                        have hin : ¬ (i : Int) < (i : Int) := by omega
                                        have HRO := hid hro
                                        have HPV := hid hp
                                        have HKV := hid hkw
                                        obtain ⟨nl7, hnl⟩ : ∃ nl7, nl7 = P.flatten.length := ⟨_, rfl⟩
                                        rw [← hnl] at hv3
                                        have HV3 := hid hv3
                                        have hcv1 := text_bo (row_bo HRO.out)
                                        have hcv2 := text_bo (row_bo (ownsRow_same HRO9.out (fun g hg => HKV.out.blk g (HKO.out g hg))))
                                        generalize P.flatten = F at hcv1 hcv2
                                        clear hro hp hkw hi hil hPl hnl
                                        subst hvw
                                        subst hv3
                                        go_wp2_with fail
                                        obtain ⟨np, hren⟩ : ∃ m, m = i := ⟨_, rfl⟩
                                        subst hren
                                        clear hin
                                        have HKF := hid (HK9.out.trans (HKV.out.less HKK.out))
                                        refine (HWK.out _).mono ?_
                                        rintro e wz ⟨rfl, hbz⟩
                                        have HBZ := hid hbz
                                        clear hbz
                                        go_wp2_with fail
                                        go_ret
                                        exact ⟨rfl, HBW.out _ _ HKF.out HBZ.out⟩
                                  | false =>
                                    have HQ1 := hid (pd_fail HP8.out 0 (by omega) keep HKP.out)
                                    have hcr := HKP8.out.crash HP8.out.ok.1 hoff keep
                                    have HKPF : Hid (Kept (offD (failD s8 0 keep)) t P) := hid ((HKP8.out.fail 0 keep).same rfl rfl)
                                    have HSF8 : Hid (Sm 1 (failD s8 0 keep)) := hid (by
                                      have a := small_fail s8 0 keep
                                      have := HS.out
                                      exact ⟨by rw [a.1]; have := HS.out.1; omega, by rw [a.2]; have := HS.out.2; omega⟩)
                                    have HOF : Hid ((offD (failD s8 0 keep)).off = true) := hid rfl
                                    have HCR := hid hcr
                                    clear hcr HKP8
                                    go_wp2_with fail
                                    refine HQ1.out.mono ?_
                                    rintro e w8 ⟨rfl, h8, k8⟩
                                    have HQ2 := hid (pd_sync h8 t HTL.out HSF8.out)
                                    rw [HCR.out] at HQ2
                                    have HK8 := hid (HK8.out.trans (k8.less HKK.out))
                                    have HRO8 : Hid (w8.ownsRow w.heap.size 5 1 (.slice ao3 nl cap3) P.flatten.length (bcs P.flatten)) := hid (ownsRow_same HRO8.out (fun g hg => k8.blk g (HKO.out g hg)))
                                    clear h8 k8 HQ1 HP8 hoff
                                    generalize offD (failD s8 0 keep) = s10 at *
                                    go_wp2_with fail
                                    refine HQ2.out.mono ?_
                                    rintro e w10 ⟨rfl, h10, k10⟩
                                    have HP8 := hid h10
                                    have HK8 := hid (HK8.out.trans (k10.less HKK.out))
                                    have HRO8 : Hid (w10.ownsRow w.heap.size 5 1 (.slice ao3 nl cap3) P.flatten.length (bcs P.flatten)) := hid (ownsRow_same HRO8.out (fun g hg => k10.blk g (HKO.out g hg)))
                                    have HKP8 := hid HKPF.out
                                    clear h10 k10 HQ2 HCR HSF8 HKPF
                                    have hz7 : ((7 : Nat) : Int) = 7 := rfl
                                    rw [hz7]
                                    clear hz7
                                    go_wp2_with fail
                                    have HQ3 := hid (pd_on HP8.out)
                                    have HOFF : Hid ((onD s10).off = false) := hid (by
                                      unfold onD
                                      rw [if_neg (by rw [HOF.out]; decide)])
                                    have HKP4 : Hid (Kept (onD s10) t P) := hid HKP8.out.on
                                    generalize onD s10 = s9 at *
                                    refine HQ3.out.mono ?_
                                    rintro e w9 ⟨rfl, h9, k9⟩
                                    have HP9 := hid h9
                                    have HK9 := hid (HK8.out.trans (k9.less HKK.out))
                                    have HRO9 : Hid (w9.ownsRow w.heap.size 5 1 (.slice ao3 nl cap3) P.flatten.length (bcs P.flatten)) := hid (ownsRow_same HRO8.out (fun g hg => k9.blk g (HKO.out g hg)))
                                    have HQ4 := hid (pd_len h9 t HTL.out)
                                    rw [HKP4.out.len h9.ok.1 HOFF.out, HPL.out] at HQ4
                                    clear h9 k9 HQ3 HK8 HP8 HRO8 HKP8
                                    go_wp2_with fail
                                    refine HQ4.out.mono ?_
                                    rintro e w9' ⟨rfl, hw9⟩
                                    have hw9 := hw9.symm
                                    subst hw9
                                    have hz0 : ((0 : Nat) : Int) = 0 := rfl
                                    rw [hz0]
                                    clear hz0 HQ4
                                    go_wp2_with fail
                                    go_loopg [23, 26, 27, 28] np (fun gg vw vi _vp _ve wr => ∃ (i : Nat) (u : Value), gg = np - i ∧ i ≤ np ∧ vw = u ∧ vi = .int .i64 (i : Int) ∧ wr.ownsRow w9.heap.size 5 1 u (P.take i).flatten.length (bcs (P.take i).flatten) ∧ Pr (fun g => K2 g ∨ u.ownBlock = some g) wr w.heap.size q s9 t' ∧ Kw K2 w9 wr)
                                    case atStart => exact ⟨0, .slice none 0 0, rfl, Nat.zero_le _, rfl, rfl, World.ownsRow_nil _ _ _ _, HP9.out.less (fun g hg => by rcases hg with hg | hg; exact hg; cases hg), Kw.refl _ _⟩
                                    case round =>
                                      obtain ⟨i, u, rfl, hi, hvw, rfl, hro, hp, hkw⟩ := hrel
                                      have hPl := HPL.out
                                      obtain ⟨ao7, cap7, hv3⟩ := row_shape2 hro
                                      by_cases hil : i < np
                                      · have hiP : i < P.length := by omega
                                        have hp256 := HPG.out P[i] (List.getElem_mem hiP)
                                        have hfl := flat_le HPG.out i
                                        have hjr := HJR.out
                                        have HR : Hid (Calls Try.prog 13 #[.pointer (some ⟨w.heap.size, 0, none⟩), St t, .int .i64 (i : Int)] wr fun e w' => ∃ g a5 n5 c5 w5, e = .returned (.tuple #[.slice (some ⟨g, 0, none⟩) 256 256, .int .i64 0]) ∧ (∀ ty, (Builtin.append_ #[23, 23] ty #[u, .slice (some ⟨g, 0, none⟩) 256 256]).run Try.prog w' = .ok (.slice a5 n5 c5) w5) ∧ w5.ownsRow w9.heap.size 5 1 (.slice a5 n5 c5) (P.take (i + 1)).flatten.length (bcs (P.take (i + 1)).flatten) ∧ Pr (fun g => K2 g ∨ (Value.slice a5 n5 c5).ownBlock = some g) w5 w.heap.size q s9 t' ∧ Kw K2 w9 w5) := hid (by
                                          refine (pd_read hp t HTL.out (i : Int) (by omega)).mono ?_
                                          rw [HKP4.out.read hp.ok.1 HOFF.out hiP]
                                          rintro e w' ⟨⟨vp, rfl, hvp⟩, hB'⟩
                                          obtain ⟨g, rfl, hrg⟩ := bw_range hvp (by rw [hp256]; omega)
                                          have hro' := ownsRow_same hro (fun k hk => hB'.block k (hro.lt k hk).2)
                                          have hkb : w9.heap.size ≤ wr.heap.size := hkw.size
                                          obtain ⟨v5, w5, r1, r2, r3, r4⟩ := bytes_add hro' g P[i] hrg 256 (by rw [hp256]; omega) (Nat.le_trans hkb hB'.size)
                                          rw [← flat_take hiP] at r2
                                          rw [hp256] at r1 ⊢
                                          obtain ⟨a5, c5, hv5⟩ := row_shape2 r2
                                          obtain ⟨p1, p2⟩ := Pr.grew (v := u) (v' := v5) (hp.low hB') r3 r4 (fun k hk => (own_ge r2 hk).2) (fun k hk e => by have h1 := (own_ge hro e).1; have := HP9.out.lt hk; omega)
                                          refine ⟨g, a5, _, c5, w5, rfl, fun ty => by rw [← hv5]; exact r1 ty, by rw [← hv5]; exact r2, by rw [← hv5]; exact p1, hkw.trans (Kw.trans (below_kw hB' (fun k hk => hp.lt (.inl hk))) p2)⟩)
                                        have hiw : IntKind.i64.wrap ((i : Int) + 1) = ((i + 1 : Nat) : Int) := by rw [IntKind.wrap_i64]; omega
                                        have hi0 : (0 : Int) ≤ (i : Int) := Int.natCast_nonneg _
                                        have hi1 : (i : Int) < (np : Int) := by omega
                                        have HIL := hid hil
                                        generalize (P.take i).flatten.length = n3 at hv3
                                        clear hro hp hkw hi hil hiP hp256 hfl hjr hPl
                                        subst hv3
                                        subst hvw
                                        go_wp2_with fail
                                        refine HR.out.mono ?_
                                        rintro e w6' ⟨g, a5, n5, c5, w5, rfl, hrn, h51, h52, h53⟩
                                        have HRN := hid hrn
                                        have H51 := hid h51
                                        have H52 := hid h52
                                        have H53 := hid h53
                                        clear hrn h51 h52 h53 HR
                                        go_wp2_with (first | (at_builtin; refine wpList_append_run rfl (.tmp 202) (.tmp 203) 23 rfl (.slice ao7 n3 cap7) (.slice (some ⟨g, 0, none⟩) 256 256) (.slice a5 n5 c5) w5 rfl rfl HRN.out ?_) | fail)
                                        go_roundg (np - (i + 1))
                                        case measure => have := HIL.out; omega
                                        case rel => exact ⟨i + 1, _, rfl, HIL.out, rfl, rfl, H51.out, H52.out, H53.out⟩
                                      · have hie : i = np := by omega
                                        subst hie
                                        rw [show P.take i = P from List.take_of_length_le (by omega)] at hro hv3
                                        have hin : ¬ (i : Int) < (i : Int) := by omega
                                        have HRO := hid hro
                                        have HPV := hid hp
                                        have HKV := hid hkw
                                        obtain ⟨nl7, hnl⟩ : ∃ nl7, nl7 = P.flatten.length := ⟨_, rfl⟩
                                        rw [← hnl] at hv3
                                        have HV3 := hid hv3
                                        have hcv1 := text_bo (row_bo HRO.out)
                                        have hcv2 := text_bo (row_bo (ownsRow_same HRO9.out (fun g hg => HKV.out.blk g (HKO.out g hg))))
                                        generalize P.flatten = F at hcv1 hcv2
                                        clear hro hp hkw hi hil hPl hnl
                                        subst hvw
                                        subst hv3
                                        go_wp2_with fail
                                        obtain ⟨np, hren⟩ : ∃ m, m = i := ⟨_, rfl⟩
                                        subst hren
                                        clear hin
                                        have HKF := hid (HK9.out.trans (HKV.out.less HKK.out))
                                        refine (HWK.out _).mono ?_
                                        rintro e wz ⟨rfl, hbz⟩
                                        have HBZ := hid hbz
                                        clear hbz
                                        go_wp2_with fail
                                        go_ret
                                        exact ⟨rfl, HBW.out _ _ HKF.out HBZ.out⟩
                    · have hc1 : ¬ (cc : Int) = 0 := by omega
                      have hc2 : ((cc : Int) == 0) = false := by simpa using hc1
                      have hc3 : ((cc : Int) != 0) = true := by simpa using hc1
                      go_wp2_with fail
                      refine (HWK.out _).mono ?_
                      rintro e w9 ⟨rfl, hb9⟩
                      have HB9 := hid hb9
                      clear hb9
                      go_wp2_with fail
                      go_ret
                      exact ⟨rfl, HBW.out _ _ HK5.out HB9.out⟩
end Go.Proofs.Ytojnembakhhgiaa
