/- What the document makes of keys, and that both make the same. -/
import Derived.Test.YtcmpiffkmnbepaaDoorRAskB
namespace Go.Proofs.YtcmpiffkmnbepaaDoor
open Go.RowKit

theorem made_is {d : Nat} {l : Bs} (h : Tm.Is d l) : madeRes l = if 64 < d ∨ 16384 < l.length then ([], 3) else (l, 0) := by
  unfold madeRes
  by_cases hc : 64 < d ∨ 16384 < l.length
  · rw [if_pos hc, Tm.is_deep0 h hc, if_pos rfl]
  · rw [if_neg hc, Tm.is_deep h (by omega) (by omega), if_neg (by have := h.1; omega)]

theorem two_made {op : UInt8} {a b : Bs} (ha : Tm.deep a ≠ 0) (hb : Tm.deep b ≠ 0) (h : Tm.Is (max (Tm.deep a) (Tm.deep b) + 1) (op :: (a ++ b))) : madeRes (op :: (a ++ b)) = bRes op [] [a, b] := by
  rw [bRes_two, if_neg (by simp [ha, hb]), made_is h]
  have e : (op :: (a ++ b)).length = 1 + a.length + b.length := by simp; omega
  rw [e]

theorem twoRes_two {op : UInt8} (hop : Tm.isTwo op = true) (a b : Bs) : twoRes op a b = bRes op [] [a, b] := by
  unfold twoRes
  by_cases h : Tm.deep a = 0 ∨ Tm.deep b = 0
  · rw [if_pos h, bRes_two, if_pos h]
  · rw [if_neg h]
    rw [not_or] at h
    exact two_made h.1 h.2 (Tm.is_two (Tm.deep_is h.1).1 (Tm.deep_is h.2).1 hop)

theorem bRes_one (op : UInt8) (a : Bs) : bRes op [] [a] = if Tm.deep a = 0 then ([], 10) else if 64 < Tm.deep a + 1 ∨ 16384 < 1 + a.length then ([], 3) else (op :: a, 0) := by
  unfold bRes
  have e1 : ([a].any (fun k => Tm.deep k == 0) = true) ↔ Tm.deep a = 0 := by simp
  have e2 : bDeep [a] = Tm.deep a + 1 := by simp [bDeep]
  have e3 : 1 + ([] : Bs).length + bSize [a] = 1 + a.length := by simp [bSize]
  have e4 : ([] : Bs) ++ [a].flatten = a := by simp
  rw [e2, e3, e4]
  by_cases h : Tm.deep a = 0
  · rw [if_pos (e1.2 h), if_pos h]
  · rw [if_neg (fun x => h (e1.1 x)), if_neg h]

theorem oneRes_hash (a : Bs) : oneRes 72 a = bRes 72 [] [a] := by
  unfold oneRes
  rw [bRes_one]
  by_cases h : Tm.deep a = 0
  · rw [if_pos h, if_pos h]
  · rw [if_neg h, if_neg h, made_is (Tm.is_hash (Tm.deep_is h).1)]
    have e : ((72 : UInt8) :: a).length = 1 + a.length := by simp; omega
    rw [e]

theorem jointRes_no {a b : Bs} (h : Tm.deep a = 0 ∨ Tm.deep b = 0) : jointRes a b = ([], 10) := by
  unfold jointRes
  rw [bRes_two, if_pos h]
  split <;> rfl
theorem jointRes_pk {a b : Bs} (h : (Tm.isPk a.head? && Tm.isPk b.head?) = false) : jointRes a b = ([], 10) := by
  unfold jointRes
  rw [h]; rfl
theorem jointRes_yes {a b : Bs} (ha : Tm.deep a ≠ 0) (hb : Tm.deep b ≠ 0) (h1 : Tm.isPk a.head? = true) (h2 : Tm.isPk b.head? = true) : jointRes a b = twoRes 87 a b := by
  unfold jointRes twoRes
  rw [h1, h2, if_pos (by decide), if_neg (by simp [ha, hb])]
  exact (two_made ha hb (Tm.is_joint (Tm.deep_is ha).1 (Tm.deep_is hb).1 h1 h2)).symm
theorem boundRes_no {a b : Bs} (h : Tm.deep a = 0 ∨ Tm.deep b = 0) : boundRes a b = ([], 10) := by
  unfold boundRes
  rw [bRes_two, if_pos h]
  split <;> rfl
theorem boundRes_pk {a b : Bs} (h : Tm.isPk a.head? = false) : boundRes a b = ([], 10) := by
  unfold boundRes
  rw [h]; rfl
theorem boundRes_yes {a b : Bs} (ha : Tm.deep a ≠ 0) (hb : Tm.deep b ≠ 0) (h1 : Tm.isPk a.head? = true) : boundRes a b = twoRes 76 a b := by
  unfold boundRes twoRes
  rw [h1, if_pos rfl, if_neg (by simp [ha, hb])]
  exact (two_made ha hb (Tm.is_bound (Tm.deep_is ha).1 (Tm.deep_is hb).1 h1)).symm

/-- the first byte of a right term -/
theorem first_byte {a : Bs} (h : Tm.deep a ≠ 0) : ∃ c, a.head? = some c ∧ 0 < a.length ∧ ∀ h, (⟨a.toArray⟩ : ByteArray)[0]'h = c := by
  match a with
  | [] => exact absurd rfl h
  | c :: l => exact ⟨c, rfl, by simp, fun _ => rfl⟩

set_option maxHeartbeats 1000000 in
set_option maxRecDepth 100000 in
theorem rjoints_no (a b : Bs) (w : World) (h : Tm.deep a = 0 ∨ Tm.deep b = 0) : Calls Tryd.prog 40 #[St a, St b] w fun en w' => en = made (jointRes a b) ∧ Below w.heap.size w w' := by
  have HR := hid (jointRes_no h)
  by_cases ha : Tm.deep a = 0
  · have HA := hid ha
    clear ha h
    go_enter Tryd.func40, Tryd.ntmps40
    go_wp2_with fail
    refine (rright_any a _).mono ?_
    rintro e w1 ⟨rfl, hb⟩
    have HB := hid hb
    clear hb
    rw [HA.out]
    go_wp2_with fail
    go_ret2
    exact ⟨by rw [HR.out]; rfl, HB.out⟩
  · have HA : Hid ((Tm.deep a != 0) = true) := by apply hid; simpa using ha
    have HBB : Hid (Tm.deep b = 0) := by apply hid; rcases h with h | h; exact absurd h ha; exact h
    clear ha h
    go_enter Tryd.func40, Tryd.ntmps40
    go_wp2_with fail
    refine (rright_any a _).mono ?_
    rintro e w1 ⟨rfl, hb⟩
    have HB := hid hb
    clear hb
    rw [HA.out]
    go_wp2_with fail
    refine (rright_any b _).mono ?_
    rintro e w2 ⟨rfl, hb⟩
    have HB2 := hid (HB.out.trans (hb.mono HB.out.size))
    clear hb
    rw [HBB.out]
    go_wp2_with fail
    go_ret2
    exact ⟨by rw [HR.out]; rfl, HB2.out⟩

set_option maxHeartbeats 1000000 in
set_option maxRecDepth 100000 in
theorem rjoints_any (a b : Bs) (w : World) : Calls Tryd.prog 40 #[St a, St b] w fun en w' => en = made (jointRes a b) ∧ Below w.heap.size w w' := by
  by_cases h : Tm.deep a = 0 ∨ Tm.deep b = 0
  · exact rjoints_no a b w h
  · rw [not_or] at h
    have HA : Hid ((Tm.deep a != 0) = true) := by apply hid; simpa using h.1
    have HBB : Hid ((Tm.deep b != 0) = true) := by apply hid; simpa using h.2
    have HH := hid h
    obtain ⟨x, hx, la, ea⟩ := first_byte h.1
    obtain ⟨y, hy, lb, eb⟩ := first_byte h.2
    have HX := hid hx
    have HY := hid hy
    have hsa : (⟨a.toArray⟩ : ByteArray).size = a.length := st_size a
    have hsb : (⟨b.toArray⟩ : ByteArray).size = b.length := st_size b
    clear h hx hy
    cases h1 : Tm.isPk (some x)
    · have HR : Hid (jointRes a b = ([], 10)) := by apply hid; apply jointRes_pk; rw [HX.out, h1]; rfl
      have H1 := hid h1
      clear h1
      go_enter Tryd.func40, Tryd.ntmps40
      go_wp2_with fail
      refine (rright_any a _).mono ?_
      rintro e w1 ⟨rfl, hb⟩
      have HB := hid hb
      clear hb
      rw [HA.out]
      go_wp2_with fail
      refine (rright_any b _).mono ?_
      rintro e w2 ⟨rfl, hb⟩
      have HB2 := hid (HB.out.trans (hb.mono HB.out.size))
      clear hb
      rw [HBB.out]
      go_wp2_with fail
      refine (rpublic_any x _).mono ?_
      rintro e w3 ⟨rfl, rfl⟩
      rw [H1.out]
      go_wp2_with fail
      go_ret2
      exact ⟨by rw [HR.out]; rfl, HB2.out⟩
    · cases h2 : Tm.isPk (some y)
      · have HR : Hid (jointRes a b = ([], 10)) := by apply hid; apply jointRes_pk; rw [HY.out, h2, Bool.and_false]
        have H1 := hid h1
        have H2 := hid h2
        clear h1 h2
        go_enter Tryd.func40, Tryd.ntmps40
        go_wp2_with fail
        refine (rright_any a _).mono ?_
        rintro e w1 ⟨rfl, hb⟩
        have HB := hid hb
        clear hb
        rw [HA.out]
        go_wp2_with fail
        refine (rright_any b _).mono ?_
        rintro e w2 ⟨rfl, hb⟩
        have HB2 := hid (HB.out.trans (hb.mono HB.out.size))
        clear hb
        rw [HBB.out]
        go_wp2_with fail
        refine (rpublic_any x _).mono ?_
        rintro e w3 ⟨rfl, rfl⟩
        rw [H1.out]
        go_wp2_with fail
        refine (rpublic_any y _).mono ?_
        rintro e w3 ⟨rfl, rfl⟩
        rw [H2.out]
        go_wp2_with fail
        go_ret2
        exact ⟨by rw [HR.out]; rfl, HB2.out⟩
      · have HR : Hid (jointRes a b = twoRes 87 a b) := by apply hid; apply jointRes_yes HH.out.1 HH.out.2; rw [HX.out, h1]; rw [HY.out, h2]
        have H1 := hid h1
        have H2 := hid h2
        clear h1 h2
        go_enter Tryd.func40, Tryd.ntmps40
        go_wp2_with fail
        refine (rright_any a _).mono ?_
        rintro e w1 ⟨rfl, hb⟩
        have HB := hid hb
        clear hb
        rw [HA.out]
        go_wp2_with fail
        refine (rright_any b _).mono ?_
        rintro e w2 ⟨rfl, hb⟩
        have HB2 := hid (HB.out.trans (hb.mono HB.out.size))
        clear hb
        rw [HBB.out]
        go_wp2_with fail
        refine (rpublic_any x _).mono ?_
        rintro e w3 ⟨rfl, rfl⟩
        rw [H1.out]
        go_wp2_with fail
        refine (rpublic_any y _).mono ?_
        rintro e w3 ⟨rfl, rfl⟩
        rw [H2.out]
        go_wp2_with fail
        refine (rtwo_any 87 a b _).mono ?_
        rintro e w4 ⟨rfl, hb⟩
        have HB4 := hid (HB2.out.trans (hb.mono HB2.out.size))
        clear hb
        go_wp2_with fail
        go_ret2
        exact ⟨by rw [HR.out]; rfl, HB4.out⟩

set_option maxHeartbeats 1000000 in
set_option maxRecDepth 100000 in
theorem rbounds_any (a b : Bs) (w : World) : Calls Tryd.prog 41 #[St a, St b] w fun en w' => en = made (boundRes a b) ∧ Below w.heap.size w w' := by
  by_cases ha : Tm.deep a = 0
  · have HR := hid (boundRes_no (a := a) (b := b) (Or.inl ha))
    have HA := hid ha
    clear ha
    go_enter Tryd.func41, Tryd.ntmps41
    go_wp2_with fail
    refine (rright_any a _).mono ?_
    rintro e w1 ⟨rfl, hb⟩
    have HB := hid hb
    clear hb
    rw [HA.out]
    go_wp2_with fail
    go_ret2
    exact ⟨by rw [HR.out]; rfl, HB.out⟩
  · have HA : Hid ((Tm.deep a != 0) = true) := by apply hid; simpa using ha
    by_cases hbz : Tm.deep b = 0
    · have HR := hid (boundRes_no (a := a) (b := b) (Or.inr hbz))
      have HBB := hid hbz
      clear ha hbz
      go_enter Tryd.func41, Tryd.ntmps41
      go_wp2_with fail
      refine (rright_any a _).mono ?_
      rintro e w1 ⟨rfl, hb⟩
      have HB := hid hb
      clear hb
      rw [HA.out]
      go_wp2_with fail
      refine (rright_any b _).mono ?_
      rintro e w2 ⟨rfl, hb⟩
      have HB2 := hid (HB.out.trans (hb.mono HB.out.size))
      clear hb
      rw [HBB.out]
      go_wp2_with fail
      go_ret2
      exact ⟨by rw [HR.out]; rfl, HB2.out⟩
    · have HBB : Hid ((Tm.deep b != 0) = true) := by apply hid; simpa using hbz
      have HH := hid (And.intro ha hbz)
      obtain ⟨x, hx, la, ea⟩ := first_byte ha
      have HX := hid hx
      have hsa : (⟨a.toArray⟩ : ByteArray).size = a.length := st_size a
      clear ha hbz hx
      cases h1 : Tm.isPk (some x)
      · have HR : Hid (boundRes a b = ([], 10)) := by apply hid; apply boundRes_pk; rw [HX.out, h1]
        have H1 := hid h1
        clear h1
        go_enter Tryd.func41, Tryd.ntmps41
        go_wp2_with fail
        refine (rright_any a _).mono ?_
        rintro e w1 ⟨rfl, hb⟩
        have HB := hid hb
        clear hb
        rw [HA.out]
        go_wp2_with fail
        refine (rright_any b _).mono ?_
        rintro e w2 ⟨rfl, hb⟩
        have HB2 := hid (HB.out.trans (hb.mono HB.out.size))
        clear hb
        rw [HBB.out]
        go_wp2_with fail
        refine (rpublic_any x _).mono ?_
        rintro e w3 ⟨rfl, rfl⟩
        rw [H1.out]
        go_wp2_with fail
        go_ret2
        exact ⟨by rw [HR.out]; rfl, HB2.out⟩
      · have HR : Hid (boundRes a b = twoRes 76 a b) := by apply hid; apply boundRes_yes HH.out.1 HH.out.2; rw [HX.out, h1]
        have H1 := hid h1
        clear h1
        go_enter Tryd.func41, Tryd.ntmps41
        go_wp2_with fail
        refine (rright_any a _).mono ?_
        rintro e w1 ⟨rfl, hb⟩
        have HB := hid hb
        clear hb
        rw [HA.out]
        go_wp2_with fail
        refine (rright_any b _).mono ?_
        rintro e w2 ⟨rfl, hb⟩
        have HB2 := hid (HB.out.trans (hb.mono HB.out.size))
        clear hb
        rw [HBB.out]
        go_wp2_with fail
        refine (rpublic_any x _).mono ?_
        rintro e w3 ⟨rfl, rfl⟩
        rw [H1.out]
        go_wp2_with fail
        refine (rtwo_any 76 a b _).mono ?_
        rintro e w4 ⟨rfl, hb⟩
        have HB4 := hid (HB2.out.trans (hb.mono HB2.out.size))
        clear hb
        go_wp2_with fail
        go_ret2
        exact ⟨by rw [HR.out]; rfl, HB4.out⟩
end Go.Proofs.YtcmpiffkmnbepaaDoor
