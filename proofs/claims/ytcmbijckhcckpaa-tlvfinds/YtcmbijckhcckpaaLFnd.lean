/- The law TlvFinds, where slices.Sort sorts. -/
import Derived.Test.YtcmbijckhcckpaaUnkC
import Derived.Test.YtcmbijckhcckpaaLStr
namespace Go.Proofs.Ytcmbijckhcckpaa
open Go.RowKit

theorem find_short {L : List Rec} {t : Nat} (h : Sm L) : ((findB L t).getD []).length ≤ 3000 := by
  unfold findB
  cases hf : L.find? fun r => r.1 == t with
  | none => simp
  | some x =>
    obtain ⟨i, hi, rfl⟩ := List.getElem_of_mem (List.mem_of_find?_eq_some hf)
    exact h.2 i hi
set_option maxRecDepth 100000 in
set_option maxHeartbeats 16000000 in
theorem finds_any (HSU : SortU) (w : World) (v u : Value) (L : List Rec) (t : Nat) (K : List Nat) (hL : Rcs w v L) (ht : ∀ i (h : i < L.length), L[i].1 < 18446744073709551616) (hK : Us w u K) :
    Calls Try.prog 5 #[v, .int .u64 (t : Int), u] w fun e w' => e = .returned (.bool true) ∧ Below w.heap.size w w' := by
  obtain ⟨al, cl, rfl⟩ := hL.shape
  obtain ⟨ak, ck, rfl⟩ := hK.shape
  have HL := hid hL
  have HK := hid hK
  have HT := hid ht
  have HSU2 := hid HSU
  have HSZ := hid (rsize_any w _ L hL)
  obtain ⟨n, hn⟩ : ∃ n, n = L.length := ⟨_, rfl⟩
  obtain ⟨m, hm⟩ : ∃ m, m = K.length := ⟨_, rfl⟩
  rw [← hn, ← hm]
  rw [← hn] at HSZ
  have HN := hid hn
  have HM := hid hm
  clear hL hK ht hn hm HSU
  go_enter Try.func5, Try.ntmps5
  go_wp2_with fail
  refine HSZ.out.mono ?_
  rintro e w0 ⟨r, rfl, hr, hw0⟩
  subst hw0
  have HR := hid hr
  clear hr HSZ
  by_cases hr3 : r ≤ 3000
  · have hr1 : ¬ (3000 : Int) < (r : Int) := by omega
    have hr2 : decide ((3000 : Int) < (r : Int)) = false := by simpa using hr1
    by_cases hm3 : m ≤ 100
    · have hm1 : ¬ (100 : Int) < (m : Int) := by omega
      have HSM := hid (HR.out hr3)
      have HLE := hid (lent_any w0 _ L HL.out HSM.out)
      have HF1 := hid (fun W vv (h : Rcs W vv L) => find_any W vv L t h HSM.out)
      have HF2 := hid (fun W (h : Below w0.heap.size w0 W) => rfind_any W _ L t (HL.out.below h) HSM.out)
      have HU1 := hid (fun W vv (h : Rcs W vv L) (hb : Below w0.heap.size w0 W) => unknown_any HSU2.out W vv _ L K h (by have := HSM.out.1; omega) HT.out (HK.out.below hb) (by rw [← HM.out]; exact hm3))
      have HU2 := hid (fun W (hb : Below w0.heap.size w0 W) => runk_any W _ _ L K (HL.out.below hb) HSM.out (HK.out.below hb) (by rw [← HM.out]; exact hm3))
      rw [← HN.out] at HLE HF2 HU2
      rw [← HM.out] at HU1 HU2
      generalize hfb : findB L t = ox at *
      generalize hub : (L.any fun r => r.1 % 2 == 0 && !K.any (· == r.1)) = ub at *
      obtain ⟨F, hF⟩ : ∃ F, F = ox.getD [] := ⟨_, rfl⟩
      obtain ⟨bo, hbo⟩ : ∃ bo, bo = ox.isSome := ⟨_, rfl⟩
      simp only [found] at HF1 HF2
      rw [← hF, ← hbo] at HF1 HF2
      obtain ⟨q, hq⟩ : ∃ q, q = F.length := ⟨_, rfl⟩
      rw [← hq] at HF1 HF2
      have HQ := hid hq
      have HQB : Hid (q ≤ 3000) := hid (by rw [hq, hF, ← hfb]; exact find_short HSM.out)
      clear hfb hub hF hq hbo
      have hq3 := HQB.out
      go_wp2_with fail
      refine HLE.out.mono ?_
      rintro e w1 ⟨a1, c1, rfl, ho1, hb1⟩
      have HI1 : Hid (Rcs w1 (.slice a1 n c1) L) := hid (by rw [HN.out]; rw [← HN.out]; exact ho1.rcs)
      have HB1 := hid hb1
      clear ho1 hb1 HLE
      go_wp2_with fail
      refine (HF1.out _ _ HI1.out).mono ?_
      rintro e w2 ⟨a2, c2, rfl, ho2, hb2⟩
      have HO2 := hid ho2
      have HB2 := hid (two_below HB1.out hb2)
      have HI2 := hid (HI1.out.below hb2)
      have HE2 := hid hb2
      clear ho2 hb2 HF1
      go_wp2_with fail
      refine (HF2.out _ HB2.out).mono ?_
      rintro e w3 ⟨a3, c3, rfl, hs3, hw3⟩
      subst hw3
      have p1 := (Sl.own HO2.out HQ.out).string
      have p2 := hs3.string
      clear hs3 HF2
      go_wp2_with fail
      refine (HU1.out _ _ HI2.out HB2.out).mono ?_
      rintro e w4 ⟨rfl, hb4⟩
      have HB4 := hid (two_below HB2.out hb4)
      have HE4 := hid (two_below HE2.out hb4)
      have HO4 : Hid (0 < q → ∃ g cur, a2 = some ⟨g, 0, none⟩ ∧ w1.heap.size ≤ g ∧ w4.heap[g]? = some (.cells cur 5 (0, 0)) ∧ q ≤ cur.size) := hid (fun hp => by
        rcases HO2.out.2 with ⟨_, h2⟩ | ⟨g, cap, cur, h5, h6, h7, h8, _, h10, _⟩
        · omega
        · cases h5
          exact ⟨g, cur, rfl, h6, by rw [← h7]; exact hb4.block g (lt_of_block h7), by omega⟩)
      clear hb4 HU1 HO2 p1 p2 HI2 HE2 HB2
      go_wp2_with fail
      refine (HU2.out _ HB4.out).mono ?_
      rintro e w5 ⟨rfl, hb5⟩
      have HE5 := hid (two_below HE4.out hb5)
      have HO5 : Hid (0 < q → ∃ g cur, a2 = some ⟨g, 0, none⟩ ∧ w1.heap.size ≤ g ∧ w5.heap[g]? = some (.cells cur 5 (0, 0)) ∧ q ≤ cur.size) := hid (fun hp => by
        obtain ⟨g, cur, h1, h2, h3, h4⟩ := HO4.out hp
        exact ⟨g, cur, h1, h2, by rw [← h3]; exact hb5.block g (lt_of_block h3), h4⟩)
      clear hb5 HU2 HO4 HE4 HB4
      go_wp2_with fail
      go_loopg [12] q (fun gg v12 wr => ∃ i : Nat, i ≤ q ∧ gg = q - i ∧ v12 = .int .i64 (i : Int) ∧ (0 < q → ∃ g cur, a2 = some ⟨g, 0, none⟩ ∧ w1.heap.size ≤ g ∧ wr.heap[g]? = some (.cells cur 5 (0, 0)) ∧ q ≤ cur.size) ∧ Below w1.heap.size w1 wr)
      case atStart => exact ⟨0, by omega, by omega, rfl, HO5.out, HE5.out⟩
      case round =>
        obtain ⟨i, hi, rfl, rfl, hov, hbel⟩ := hrel
        have HOV := hid hov
        have HBE := hid hbel
        clear hov hbel HO5 HE5
        by_cases hil : i < q
        · have hi1 : (i : Int) < (q : Int) := by omega
          obtain ⟨g, cur, hab, hgB, hgh, hqs⟩ := HOV.out (by omega)
          subst hab
          have hck : wr.cell? ⟨g, i, none⟩ = some (cur[i]'(by omega)) := by rw [cell_of_heap hgh]; exact Array.getElem?_eq_getElem (by omega)
          have hfz : wr.frozen? ⟨g, i, none⟩ = false := frozen_of_heap hgh i
          have HBN := hid (below_set HBE.out hgB i (.int .u8 238))
          have HON : Hid (0 < q → ∃ g' cur', some (⟨g, 0, none⟩ : Addr) = some ⟨g', 0, none⟩ ∧ w1.heap.size ≤ g' ∧ (wr.setCell ⟨g, i, none⟩ (.int .u8 238)).heap[g']? = some (.cells cur' 5 (0, 0)) ∧ q ≤ cur'.size) := hid (fun _ => ⟨g, _, rfl, hgB, heap_setCell_same hgh i (.int .u8 238), by simpa using hqs⟩)
          generalize cur[i]'(by omega) = old at *
          clear hgh hgB hqs HOV HBE
          go_wp2_with fail
          go_roundg (q - (i + 1))
          case measure => omega
          case rel => exact ⟨i + 1, by omega, rfl, by go_num, HON.out, HBN.out⟩
        · have hi1 : ¬ (i : Int) < (q : Int) := by omega
          have HSA := hid (same_yes wr _ _ L (HI1.out.below HBE.out) (HL.out.below (two_below HB1.out HBE.out)) (by have := HSM.out.1; omega))
          rw [← HN.out] at HSA
          obtain ⟨w9, rfl⟩ : ∃ w9, w9 = wr := ⟨_, rfl⟩
          go_wp2_with fail
          refine HSA.out.mono ?_
          rintro e w10 ⟨rfl, hb10⟩
          have HF10 := hid (two_below HBE.out hb10)
          clear hb10 HSA HBE
          go_wp2_with fail
          refine (works_any _).mono ?_
          rintro e w12 ⟨rfl, hb12⟩
          have HB12 := hid (two_below HB1.out (two_below HF10.out hb12))
          clear hb12
          go_wp2_with fail
          go_ret
          exact ⟨rfl, HB12.out⟩
    · have hm1 : (100 : Int) < (m : Int) := by omega
      go_wp2_with fail
      refine (works_any _).mono ?_
      rintro e w2 ⟨rfl, hb2⟩
      have HB2 := hid hb2
      clear hb2
      go_wp2_with fail
      go_ret
      exact ⟨rfl, HB2.out⟩
  · have hr1 : (3000 : Int) < (r : Int) := by omega
    go_wp2_with fail
    refine (works_any _).mono ?_
    rintro e w2 ⟨rfl, hb2⟩
    have HB2 := hid hb2
    clear hb2
    go_wp2_with fail
    go_ret
    exact ⟨rfl, HB2.out⟩
end Go.Proofs.Ytcmbijckhcckpaa
