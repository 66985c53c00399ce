/- What the document's Agree answers. -/
import Derived.Test.YtcmpiffkmnbepaaDoorRMore
namespace Go.Proofs.YtcmpiffkmnbepaaDoor
open Go.RowKit

theorem kids_pub {t : Bs} (hd : Tm.deep (80 :: t) ≠ 0) : Tm.kidsOf 63 (80 :: t) = [t] ∧ Tm.deep t ≠ 0 := by
  obtain ⟨hi, hl⟩ := Tm.deep_is hd
  have h64 := Tm.deep_le (80 :: t)
  obtain ⟨a, ha, he, _, _⟩ := Tm.is_inv_pub hi
  simp at hl
  refine ⟨?_, is_right ha (by omega) (by omega)⟩
  have hrd := ha.2.2 63 [] (by omega)
  rw [List.append_nil] at hrd
  rw [Tm.kidsOf]
  simp only [Tm.kids1, hrd]
  simp [Tm.used]

theorem own_one {w : World} {base : Nat} {kids : Value} {p : Bs} (h : w.ownsRow base 22 1 kids 1 [St p]) :
    ∃ g cap, kids = .slice (some ⟨g, 0, none⟩) 1 cap ∧ w.cell? ⟨g, 0, none⟩ = some (St p) ∧ g < w.heap.size := by
  rcases h.2 with ⟨_, h0⟩ | ⟨g, cap, cur, hv, _, hg, hc1, hc2, hc3, hc4⟩
  · omega
  · have hcell : ∀ j, w.cell? ⟨g, j, none⟩ = cur[j]? := fun j => by simp [World.cell?, hg]
    have hgs : g < w.heap.size := by
      apply Classical.byContradiction
      intro hn
      rw [Array.getElem?_eq_none (by omega)] at hg
      cases hg
    refine ⟨g, cap, hv, ?_, hgs⟩
    have e : (cur.toList.take (1 * 1))[0]? = some (St p) := by rw [hc4]; rfl
    rw [List.getElem?_take_of_lt (by omega), Array.getElem?_toList] at e
    rw [hcell, e]

theorem twoRes_agree {a b : Bs} (ha : Tm.deep a ≠ 0) (hb : Tm.deep b ≠ 0) (h : Tm.leB a b = true) : twoRes 88 a b = bRes 88 [] [a, b] := by
  unfold twoRes
  rw [if_neg (by simp [ha, hb])]
  exact two_made ha hb (Tm.is_agree (Tm.deep_is ha).1 (Tm.deep_is hb).1 h)

set_option maxHeartbeats 1000000 in
set_option maxRecDepth 100000 in
theorem ragrees_no (k p : Bs) (w : World) (hp : Tm.deep p = 0) : Calls Tryd.prog 42 #[St k, St p] w fun en w' => en = made (agreeRes k p) ∧ Below w.heap.size w w' := by
  have HR : Hid (agreeRes k p = ([], 10)) := by apply hid; unfold agreeRes; rw [if_pos (Or.inl hp)]
  have HP := hid hp
  clear hp
  go_enter Tryd.func42, Tryd.ntmps42
  go_wp2_with fail
  refine (ropen_no p _ HP.out).mono ?_
  rintro e w1 ⟨rfl, hb⟩
  have HB := hid (hb.alloc (o := .cells #[.int .u8 0, .int .i64 0, .string ⟨#[]⟩, .slice none 0 0] 25) hb.size)
  clear hb
  go_wp2_with fail
  refine (rright_any k _).mono ?_
  rintro e w2 ⟨rfl, hb⟩
  have HB2 := hid (HB.out.trans (hb.mono HB.out.size))
  clear hb
  cases hk : (Tm.deep k != 0)
  · clear hk
    go_wp2_with fail
    go_ret2
    exact ⟨by rw [HR.out]; rfl, HB2.out⟩
  · clear hk
    go_wp2_with fail
    go_ret2
    exact ⟨by rw [HR.out]; rfl, HB2.out⟩

set_option maxHeartbeats 1000000 in
set_option maxRecDepth 100000 in
theorem ragrees_not (k : Bs) (c : UInt8) (l : Bs) (w : World) (hd : Tm.deep (c :: l) ≠ 0) (hc : c ≠ 80) : Calls Tryd.prog 42 #[St k, St (c :: l)] w fun en w' => en = made (agreeRes k (c :: l)) ∧ Below w.heap.size w w' := by
  have HR : Hid (agreeRes k (c :: l) = ([], 10)) := by apply hid; unfold agreeRes; rw [if_pos (Or.inr (by simp [hc]))]
  have HO := hid (ropen_yes c l hd)
  unfold OpenY at HO
  have hxv : ∃ X : ByteArray, X = setX (c :: l) ⟨#[]⟩ := ⟨_, rfl⟩
  have hnv : ∃ N : Int, N = setN (c :: l) 0 := ⟨_, rfl⟩
  obtain ⟨X, hX⟩ := hxv
  obtain ⟨N, hN⟩ := hnv
  rw [← hX, ← hN] at HO
  clear hX hN
  have hne : ((c.toNat : Int) != 80) = true := by simp; intro h; exact hc (UInt8.toNat_inj.1 (by simp; omega))
  clear hd hc
  generalize c :: l = t at *
  go_enter Tryd.func42, Tryd.ntmps42
  go_wp2_with fail
  refine (HO.out _).mono ?_
  rintro e w1 ⟨kids, rfl, hown, hb⟩
  obtain ⟨ao, kn, kc, rfl⟩ := own_slice hown
  have HB := hid hb
  clear hb hown
  go_wp2_with fail
  refine (rright_any k _).mono ?_
  rintro e w2 ⟨rfl, hb⟩
  have x0 := cell_kept hb 0
  have hlt : w1.heap.size < w2.heap.size := by have := hb.size; simp at this; omega
  have HB2 := hid (HB.out.trans (((below_alloc_self' w1 _).mono HB.out.size).trans (hb.mono (by have := HB.out.size; simp; omega))))
  clear hb
  cases hk : (Tm.deep k != 0)
  · clear hk
    go_wp2_with fail
    go_ret2
    exact ⟨by rw [HR.out]; rfl, HB2.out⟩
  · clear hk
    go_wp2_with fail
    go_ret2
    exact ⟨by rw [HR.out]; rfl, HB2.out⟩

set_option maxHeartbeats 1000000 in
set_option maxRecDepth 100000 in
theorem ragrees_yes (k t : Bs) (w : World) (hd : Tm.deep (80 :: t) ≠ 0) : Calls Tryd.prog 42 #[St k, St (80 :: t)] w fun en w' => en = made (agreeRes k (80 :: t)) ∧ Below w.heap.size w w' := by
  have HR : Hid (agreeRes k (80 :: t) = if Tm.leB k t then bRes 88 [] [k, t] else bRes 88 [] [t, k]) := by apply hid; unfold agreeRes; rw [if_neg (by simp [hd])]; rfl
  obtain ⟨hk1, hdt⟩ := kids_pub hd
  have HO := hid (ropen_yes 80 t hd)
  have HDT := hid hdt
  unfold OpenY at HO
  have hxv : ∃ X : ByteArray, X = setX (80 :: t) ⟨#[]⟩ := ⟨_, rfl⟩
  have hnv : ∃ N : Int, N = setN (80 :: t) 0 := ⟨_, rfl⟩
  obtain ⟨X, hX⟩ := hxv
  obtain ⟨N, hN⟩ := hnv
  rw [← hX, ← hN, hk1] at HO
  clear hX hN hk1 hd hdt
  generalize (80 : UInt8) :: t = tt at *
  go_enter Tryd.func42, Tryd.ntmps42
  go_wp2_with fail
  refine (HO.out _).mono ?_
  rintro e w1 ⟨kids, rfl, hown, hb⟩
  obtain ⟨g, cap, rfl, g0, gs⟩ := own_one hown
  have HB := hid hb
  clear hb hown
  go_wp2_with fail
  refine (rright_any k _).mono ?_
  rintro e w2 ⟨rfl, hb⟩
  have x0 := cell_kept hb 0
  have x3 := cell_kept hb 3
  have g0' := (cell_kept' hb (o := 0) gs).trans g0
  have hlt : w1.heap.size < w2.heap.size := by have := hb.size; simp at this; omega
  have HB2 := hid (HB.out.trans (((below_alloc_self' w1 _).mono HB.out.size).trans (hb.mono (by have := HB.out.size; simp; omega))))
  have gs2 : g < w2.heap.size := by omega
  clear hb g0
  by_cases hk : Tm.deep k = 0
  · have HK : Hid (agreeRes k tt = ([], 10)) := by
      apply hid; rw [HR.out, bRes_two, bRes_two, if_pos (Or.inl hk), if_pos (Or.inr hk)]; split <;> rfl
    rw [show (Tm.deep k != 0) = false by simpa using hk]
    clear hk
    go_wp2_with fail
    go_ret2
    exact ⟨by rw [HK.out]; rfl, HB2.out⟩
  · rw [show (Tm.deep k != 0) = true by simpa using hk]
    have HK := hid hk
    clear hk
    go_wp2_with fail
    go_quiet (fail)
    go_wp2_with fail
    · have HL := hid (agree_ways (k := k) (t := t) (by assumption))
      refine (rtwo_any 88 t k _).mono ?_
      rintro e w3 ⟨rfl, hb⟩
      have HB3 := hid ((below_drewN HB2.out _).trans (hb.mono (by have := HB2.out.size; simpa using this)))
      clear hb
      go_wp2_with fail
      go_ret2
      exact ⟨by rw [HR.out, HL.out, twoRes_agree HDT.out HK.out (Tm.leB_total HL.out)]; rfl, HB3.out⟩
    · have HL := hid (agree_ways' (k := k) (t := t) (by assumption))
      refine (rtwo_any 88 k t _).mono ?_
      rintro e w3 ⟨rfl, hb⟩
      have HB3 := hid ((below_drewN HB2.out _).trans (hb.mono (by have := HB2.out.size; simpa using this)))
      clear hb
      go_wp2_with fail
      go_ret2
      exact ⟨by rw [HR.out, HL.out, twoRes_agree HK.out HDT.out HL.out]; rfl, HB3.out⟩

theorem ragrees_any (k p : Bs) (w : World) : Calls Tryd.prog 42 #[St k, St p] w fun en w' => en = made (agreeRes k p) ∧ Below w.heap.size w w' := by
  by_cases hp : Tm.deep p = 0
  · exact ragrees_no k p w hp
  · match p with
    | [] => exact absurd rfl hp
    | c :: l =>
      by_cases hc : c = 80
      · subst hc; exact ragrees_yes k l w hp
      · exact ragrees_not k c l w hp hc
end Go.Proofs.YtcmpiffkmnbepaaDoor
