/- DigestNone and DigestSums, as calls. -/
import Derived.Test.YtkeppcpplkdkaaaDoorWorks
import Derived.Laws.BytesArg
namespace Go.Proofs.YtkeppcpplkdkaaaDoor
open Go.RowKit

theorem sz_nil (w : World) : Sz w none 0 [] := ⟨Nat.le_refl _, fun h => by simp at h⟩
theorem own_sz {w : World} {base : Nat} {v : Value} {n : Nat} {c : Bs} (h : w.ownsRow base 5 1 v n (bys c)) : ∃ a cap, v = .slice a n cap ∧ Sz w a cap c := by
  have hl : c.length = n := by have := h.1; simpa using this
  by_cases h0 : 0 < n
  · obtain ⟨g, kc, rfl, hk, hat⟩ := own_u8 h h0
    exact ⟨_, _, rfl, by omega, fun _ => ⟨g, 0, rfl, hat⟩⟩
  · rcases h.2 with ⟨h1, h2⟩ | ⟨g, cap, cur, hv, _, _, hc1, _⟩
    · subst h2; exact ⟨_, _, h1, by omega, fun h => by omega⟩
    · exact ⟨_, _, hv, by omega, fun h => by omega⟩
/-- bytes as a text -/
theorem conv_str {w : World} {a : Option Addr} {cap : Nat} {c : Bs} (h : Sz w a cap c) : (convert 22 9 (.slice a c.length cap)).run Tryd.prog w = .ok (.string ⟨c.toArray⟩) w := by
  by_cases h0 : 0 < c.length
  · obtain ⟨cb, co, rfl, hat⟩ := h.som h0
    refine run_convert_bytes_back (P := Tryd.prog) w 22 9 5 ⟨cb, co, none⟩ cap c Tryd.underlying22 Tryd.underlying5 Tryd.underlying9 (fun j hj => ?_)
    rw [add_off, hat.2 j hj]
    simp [byt, List.getD, List.getElem?_eq_getElem hj]
  · obtain rfl : c = [] := List.eq_nil_of_length_eq_zero (by omega)
    cases a with
    | none => exact run_convert_bytes_nil (P := Tryd.prog) (w := w) 22 5 Tryd.underlying22 Tryd.underlying5 0 cap 9 Tryd.underlying9
    | some ad => exact run_convert_bytes_back (P := Tryd.prog) w 22 9 5 ad cap [] Tryd.underlying22 Tryd.underlying5 Tryd.underlying9 (fun j hj => by simp at hj)

set_option maxHeartbeats 4000000 in
set_option maxRecDepth 100000 in
theorem none_any (w : World) (v : Value) (hkc : KC w) : Calls Tryd.prog 5 #[v] w fun en w' => en = .returned (.bool true) ∧ Below w.heap.size w w' := by
  have HKC := hid hkc
  clear hkc
  obtain ⟨q, hq⟩ : ∃ q : Bs, q = [] := ⟨_, rfl⟩
  have HQ := hid hq
  clear hq
  have HSE : Hid (∀ W, (Op.equalIn 10000 23 (vsum (sumS q)) (vsum (sumS q))).run Tryd.prog W = .ok true W) := hid (sum_eq _)
  have HCS : Hid (∀ W, KC W → Calls Tryd.prog 13 #[.pointer none] W fun en w' => en = .returned (vsum (sumS q)) ∧ Below W.heap.size W w') := hid (fun W h => snil_any' W q HQ.out h)
  have HCM : Hid (∀ W : World, Calls Tryd.prog 8 #[.slice none 0 0] W fun en w' => en = .returned (vsum (sumS q)) ∧ Below W.heap.size W w') := by
    apply hid; intro W; have h := rsum_any W none 0 q (by rw [HQ.out]; exact sz_nil W) (by rw [HQ.out]; decide); rw [show q.length = 0 by rw [HQ.out]; rfl] at h; exact h
  unfold vsum at HSE HCS HCM
  generalize (u8s (outs (sumS q))).toArray = OO at HSE HCS HCM
  have hse := HSE.out
  go_enter Tryd.func5, Tryd.ntmps5
  go_wp2_with fail
  refine (write_nil v w).mono ?_
  rintro e w1 ⟨rfl, rfl⟩
  go_wp2_with fail
  refine (HCS.out _ HKC.out).mono ?_
  rintro e w2 ⟨rfl, hb2⟩
  have HB2 := hid hb2
  clear hb2
  go_wp2_with fail
  refine (HCM.out _).mono ?_
  rintro e w3 ⟨rfl, hb3⟩
  have HB3 := hid (HB2.out.trans (hb3.mono HB2.out.size))
  clear hb3
  go_wp2_with fail
  refine (works_any _ (HKC.out.below HB3.out)).mono ?_
  rintro e w4 ⟨rfl, hb4⟩
  have HB4 := hid (HB3.out.trans (hb4.mono HB3.out.size))
  clear hb4
  go_wp2_with fail
  go_ret
  exact ⟨rfl, HB4.out⟩

set_option maxHeartbeats 4000000 in
set_option maxRecDepth 100000 in
theorem sums_any (w : World) (a : Option Addr) (cap : Nat) (c : Bs) (hs : Sz w a cap c) (hkc : KC w) : Calls Tryd.prog 3 #[.slice a c.length cap] w fun en w' => en = .returned (.bool true) ∧ Below w.heap.size w w' := by
  by_cases hl : c.length ≤ 5000
  · have HS := hid hs
    have HKC := hid hkc
    obtain ⟨v1, w1, hrun1, hown1, hg1⟩ := append_bytes w w.heap.size (.slice none 0 0) 0 [] (World.ownsRow_nil _ _ _ _) a cap c hs (by omega) (Nat.le_refl _)
    have hb1 := below_grown2 (Below.refl _ w) (World.ownsRow_nil w w.heap.size 5 1) hg1
    rw [Nat.zero_add, List.nil_append] at hown1
    obtain ⟨a1, cap1, rfl, hs1⟩ := own_sz hown1
    have HS1 := hid hs1
    have HB1 := hid hb1
    have HRUN := hid hrun1
    have HL := hid hl
    clear hown1 hb1 hrun1 hg1 hs hl hs1 hkc
    have HCM : Hid (∀ W : World, Below w1.heap.size w1 W → Calls Tryd.prog 7 #[.slice a1 c.length cap1] W fun en w' => en = .returned (vsum (sumS c)) ∧ Below W.heap.size W w') := hid (fun W h => sum_any W a1 cap1 c (HS1.out.below h) (by have := HL.out; omega) ((HKC.out.below HB1.out).below h))
    have HCR : Hid (∀ W : World, Below w.heap.size w W → Calls Tryd.prog 8 #[.slice a c.length cap] W fun en w' => en = .returned (vsum (sumS c)) ∧ Below W.heap.size W w') := hid (fun W h => rsum_any W a cap c (HS.out.below h) (by have := HL.out; omega))
    have HCH : Hid (∀ W : World, Below w1.heap.size w1 W → Calls Tryd.prog 9 #[.slice a1 c.length cap1] W fun en w' => en = .returned (.string ⟨(hx (outs (sumS c))).toArray⟩) ∧ Below W.heap.size W w') := hid (fun W h => hex_any W a1 cap1 c (HS1.out.below h) (by have := HL.out; omega) ((HKC.out.below HB1.out).below h))
    have HCG : Hid (∀ W : World, Below w.heap.size w W → Calls Tryd.prog 10 #[.slice a c.length cap] W fun en w' => en = .returned (.string ⟨(hx (outs (sumS c))).toArray⟩) ∧ Below W.heap.size W w') := hid (fun W h => rhex_any W a cap c (HS.out.below h) (by have := HL.out; omega))
    have HC1 : Hid (∀ W : World, Below w1.heap.size w1 W → (convert 22 9 (.slice a1 c.length cap1)).run Tryd.prog W = .ok (.string ⟨c.toArray⟩) W) := hid (fun W h => conv_str (HS1.out.below h))
    have HC2 : Hid (∀ W : World, Below w.heap.size w W → (convert 22 9 (.slice a c.length cap)).run Tryd.prog W = .ok (.string ⟨c.toArray⟩) W) := hid (fun W h => conv_str (HS.out.below h))
    have HSE : Hid (∀ W, (Op.equalIn 10000 23 (vsum (sumS c)) (vsum (sumS c))).run Tryd.prog W = .ok true W) := hid (sum_eq _)
    unfold vsum at HSE HCM HCR
    generalize (u8s (outs (sumS c))).toArray = OO at HSE HCM HCR
    generalize (⟨(hx (outs (sumS c))).toArray⟩ : ByteArray) = H at HCH HCG
    generalize (⟨c.toArray⟩ : ByteArray) = C at HC1 HC2
    obtain ⟨n, hn⟩ : ∃ n, n = c.length := ⟨_, rfl⟩
    rw [← hn] at HCM HCR HCH HCG HC1 HC2 HRUN ⊢
    have hn1 : ¬ (5000 : Int) < (n : Int) := by have := HL.out; omega
    clear hn
    have hse := HSE.out
    go_enter Tryd.func3, Tryd.ntmps3
    go_wp2_with (first | (at_builtin; refine wpList_append_run rfl (.tmp 7) (.tmp 8) 22 rfl (.slice none 0 0) (.slice a n cap) (.slice a1 n cap1) w1 rfl rfl HRUN.out ?_))
    refine (HCM.out w1 (Below.refl _ _)).mono ?_
    rintro e w2 ⟨rfl, hb2⟩
    have HD2 := hid hb2
    have HB2 := hid (HB1.out.trans (hb2.mono HB1.out.size))
    clear hb2
    go_wp2_with fail
    refine (HCR.out w2 HB2.out).mono ?_
    rintro e w3 ⟨rfl, hb3⟩
    have HD3 := hid (HD2.out.trans (hb3.mono HD2.out.size))
    have HB3 := hid (HB2.out.trans (hb3.mono HB2.out.size))
    clear hb3
    go_wp2_with fail
    refine (HCH.out w3 HD3.out).mono ?_
    rintro e w4 ⟨rfl, hb4⟩
    have HD4 := hid (HD3.out.trans (hb4.mono HD3.out.size))
    have HB4 := hid (HB3.out.trans (hb4.mono HB3.out.size))
    clear hb4
    go_wp2_with fail
    refine (HCG.out w4 HB4.out).mono ?_
    rintro e w5 ⟨rfl, hb5⟩
    have HD5 := hid (HD4.out.trans (hb5.mono HD4.out.size))
    have HB5 := hid (HB4.out.trans (hb5.mono HB4.out.size))
    have hc1 := HC1.out w5 HD5.out
    have hc2 := HC2.out w5 HB5.out
    clear hb5
    go_wp2_with fail
    refine (works_any w5 (HKC.out.below HB5.out)).mono ?_
    rintro e w6 ⟨rfl, hb6⟩
    have HB6 := hid (HB5.out.trans (hb6.mono HB5.out.size))
    clear hb6
    go_wp2_with fail
    go_ret
    exact ⟨rfl, HB6.out⟩
  · have hn1 : (5000 : Int) < (c.length : Int) := by omega
    go_enter Tryd.func3, Tryd.ntmps3
    go_wp2_with fail
    go_ret
    exact ⟨rfl, Below.refl _ _⟩
end Go.Proofs.YtkeppcpplkdkaaaDoor
