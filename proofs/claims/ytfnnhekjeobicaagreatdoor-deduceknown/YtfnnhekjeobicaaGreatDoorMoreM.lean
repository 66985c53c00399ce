/- What is made of what can be made can be made. -/
import Derived.Test.YtfnnhekjeobicaaGreatDoorDedAll
import Derived.Test.YtfnnhekjeobicaaGreatDoorMkAll
import Derived.Test.YtfnnhekjeobicaaGreatDoorAskC
namespace Go.Proofs.YtfnnhekjeobicaaGreatDoor

/-- hearing what can be made adds nothing -/
theorem can_cut {H K : Bs → Prop} (h : ∀ t, K t → Can H t) {t : Bs} (c : Can K t) : Can H t := by
  induction c with
  | heard a => exact h _ a
  | whole a b c _ ih => exact .whole a b c ih
  | agree1 a b c _ d _ ih1 ih2 => exact .agree1 a b c ih1 d ih2
  | agree2 a b c _ d _ ih1 ih2 => exact .agree2 a b c ih1 d ih2
  | pub _ a ih => exact .pub ih a
  | part _ a b ih => exact .part ih a b
  | opened _ a b _ ih1 ih2 => exact .opened ih1 a b ih2

theorem bres_two {op : UInt8} {a b : Bs} (h : (bRes op [] [a, b]).2 = 0) : (bRes op [] [a, b]).1 = op :: (a ++ b) ∧ Tm.Is (Tm.deep a) a ∧ Tm.Is (Tm.deep b) b ∧ max (Tm.deep a) (Tm.deep b) + 1 ≤ 64 ∧ (op :: (a ++ b)).length ≤ 16384 := by
  unfold bRes at h ⊢
  by_cases h1 : ([a, b].any fun k => Tm.deep k == 0) = true
  · rw [if_pos h1] at h; cases h
  · rw [if_neg h1] at h ⊢
    by_cases h2 : 64 < bDeep [a, b] ∨ 16384 < 1 + ([] : Bs).length + bSize [a, b]
    · rw [if_pos h2] at h; cases h
    · rw [if_neg h2]
      simp [bDeep, bSize] at h1 h2
      refine ⟨by simp, (Tm.deep_is (by omega)).1, (Tm.deep_is (by omega)).1, by omega, by simp; omega⟩
theorem bres_one {op : UInt8} {a : Bs} (h : (bRes op [] [a]).2 = 0) : (bRes op [] [a]).1 = op :: a ∧ Tm.Is (Tm.deep a) a ∧ Tm.deep a + 1 ≤ 64 ∧ (op :: a).length ≤ 16384 := by
  unfold bRes at h ⊢
  by_cases h1 : ([a].any fun k => Tm.deep k == 0) = true
  · rw [if_pos h1] at h; cases h
  · rw [if_neg h1] at h ⊢
    by_cases h2 : 64 < bDeep [a] ∨ 16384 < 1 + ([] : Bs).length + bSize [a]
    · rw [if_pos h2] at h; cases h
    · rw [if_neg h2]
      simp [bDeep, bSize] at h1 h2
      refine ⟨by simp, (Tm.deep_is (by omega)).1, by omega, by simp; omega⟩
theorem whole_two {H : Bs → Prop} {op : UInt8} {a b : Bs} (h : (bRes op [] [a, b]).2 = 0) (hi : Tm.Is (Tm.deep a) a → Tm.Is (Tm.deep b) b → Tm.Is (max (Tm.deep a) (Tm.deep b) + 1) (op :: (a ++ b))) (c1 : op ≠ 110) (c2 : op ≠ 116) (c3 : op ≠ 84) (c4 : op ≠ 80) (c5 : op ≠ 72) (c6 : op ≠ 88) (ca : Can H a) (cb : Can H b) :
    Can H (bRes op [] [a, b]).1 ∧ (bRes op [] [a, b]).1.length ≤ 16384 := by
  obtain ⟨e, ia, ib, hd, hl⟩ := bres_two h
  rw [e]
  refine ⟨.whole (is_right (hi ia ib) hd hl) (by simpa using c1) (by simpa using c6) (fun k hk => ?_), hl⟩
  rw [kids_of_two ia ib (by omega) (by omega) c1 c2 c3 c4 c5] at hk
  simp at hk
  rcases hk with rfl | rfl
  · exact ca
  · exact cb
theorem whole_hash {H : Bs → Prop} {a : Bs} (h : (bRes 72 [] [a]).2 = 0) (ca : Can H a) : Can H (bRes 72 [] [a]).1 ∧ (bRes 72 [] [a]).1.length ≤ 16384 := by
  obtain ⟨e, ia, hd, hl⟩ := bres_one h
  rw [e]
  refine ⟨.whole (is_right (Tm.is_hash ia) hd hl) (by simp) (by simp) (fun k hk => ?_), hl⟩
  rw [kids_of_one ia (by omega) (Or.inr rfl)] at hk
  simp at hk
  rw [hk]
  exact ca
theorem whole_pub {H : Bs → Prop} {a : Bs} (h : (pubRes a).2 = 0) (ca : Can H a) : Can H (pubRes a).1 ∧ (pubRes a).1.length ≤ 16384 := by
  refine ⟨.pub ca h, ?_⟩
  obtain ⟨_, h2, h3⟩ := pub_right h
  rw [h3]
  exact (Tm.deep_is h2).2
theorem whole_agree {H : Bs → Prop} {a b : Bs} (h : (agreeRes a b).2 = 0) (ca : Can H a) (cb : Can H b) : Can H (agreeRes a b).1 ∧ (agreeRes a b).1.length ≤ 16384 := by
  unfold agreeRes at h ⊢
  by_cases h1 : Tm.deep b = 0 ∨ b.head? ≠ some 80
  · rw [if_pos h1] at h; cases h
  · rw [if_neg h1] at h ⊢
    have h2 : Tm.deep b ≠ 0 := fun e => h1 (Or.inl e)
    have h3 : b.head? = some 80 := Classical.byContradiction fun e => h1 (Or.inr e)
    obtain ⟨x, rfl⟩ : ∃ x, b = 80 :: x := by
      cases b with
      | nil => cases h3
      | cons c x => simp at h3; exact ⟨x, by rw [h3]⟩
    obtain ⟨y, hy⟩ : ∃ y, y = (80 :: x : Bs).tail := ⟨_, rfl⟩
    rw [← hy] at h ⊢
    have hyx : y = x := hy
    subst hyx
    clear hy
    by_cases h4 : Tm.leB a y = true
    · rw [if_pos h4] at h ⊢
      obtain ⟨e, ia, ib, hd, hl⟩ := bres_two h
      rw [e]
      exact ⟨.agree1 (is_right (Tm.is_agree ia ib h4) hd hl) (by simp) (kids_of_two ia ib (by omega) (by omega) (by decide) (by decide) (by decide) (by decide) (by decide)) ca h2 cb, hl⟩
    · rw [if_neg h4] at h ⊢
      obtain ⟨e, ia, ib, hd, hl⟩ := bres_two h
      rw [e]
      exact ⟨.agree2 (is_right (Tm.is_agree ia ib (Tm.leB_total (by simpa using h4))) hd hl) (by simp) (kids_of_two ia ib (by omega) (by omega) (by decide) (by decide) (by decide) (by decide) (by decide)) ca h2 cb, hl⟩
theorem kids_tuple {a b : Bs} (ia : Tm.Is (Tm.deep a) a) (ib : Tm.Is (Tm.deep b) b) (ha : Tm.deep a ≤ 63) (hb : Tm.deep b ≤ 63) : Tm.kidsOf 63 (84 :: (Lib.decDigits 2 ++ [58] ++ (a ++ b))) = [a, b] := by
  show Tm.tupleK (Tm.rd 63) (Lib.decDigits 2 ++ [58] ++ (a ++ b)) = _
  unfold Tm.tupleK
  rw [show Lib.decDigits 2 ++ [58] ++ (a ++ b) = Lib.decDigits 2 ++ 58 :: (a ++ b) by simp, num_dec 2 (by omega)]
  have h1 := ia.2.2 63 b ha
  have h2 := ib.2.2 63 [] hb
  rw [List.append_nil] at h2
  have e1 := Tm.used_app a b
  have e2 := Tm.used_app b []
  rw [List.append_nil] at e2
  simp only [Tm.kidsN, h1, h2, e1, e2]
theorem whole_tuple {H : Bs → Prop} {a b : Bs} (h : (tupRes [a, b]).2 = 0) (ca : Can H a) (cb : Can H b) : Can H (tupRes [a, b]).1 ∧ (tupRes [a, b]).1.length ≤ 16384 := by
  unfold tupRes at h ⊢
  rw [if_neg (by simp)] at h ⊢
  have hz : ∀ k ∈ [a, b], Tm.deep k ≠ 0 := fun k hk e => by
    obtain ⟨i, hi, rfl⟩ := List.getElem_of_mem hk
    rw [tuple_bad _ _ _ i hi e] at h
    cases h
  have hr := tuple_res [a, b] (by simp) hz
  have hdec : dec [a, b].length = Lib.decDigits [a, b].length := rfl
  rw [hdec, ← hr] at h ⊢
  by_cases hd : Tm.deep (84 :: (Lib.decDigits [a, b].length ++ [58] ++ [a, b].flatten)) = 0
  · rw [if_pos hd] at h; cases h
  · rw [if_neg hd]
    have ia := (Tm.deep_is (hz a (by simp))).1
    have ib := (Tm.deep_is (hz b (by simp))).1
    have hl := (Tm.deep_is hd).2
    have hfl : [a, b].flatten = a ++ b := by simp
    have hb : bDeep [a, b] ≤ 64 := by
      have h1 := is_tuple [a, b] (by simp) hz
      apply Classical.byContradiction
      intro hc
      exact hd (Tm.is_deep0 h1 (Or.inl (by omega)))
    simp [bDeep] at hb
    refine ⟨.whole hd (by simp) (by simp) (fun k hk => ?_), hl⟩
    rw [hfl] at hk
    rw [show [a, b].length = 2 from rfl, kids_tuple ia ib (by omega) (by omega)] at hk
    simp at hk
    rcases hk with rfl | rfl
    · exact ca
    · exact cb
/-- all that is made of two -/
def madeL (a b : Bs) : List (Bs × Nat) := [bRes 72 [] [a], bRes 83 [] [a, b], bRes 66 [] [a, b], bRes 68 [] [a, b], bRes 86 [] [a, b], bRes 75 [] [a, b], pubRes a, jointRes a b, boundRes a b, agreeRes a b, tupRes [a, b]]
theorem made_can {H : Bs → Prop} {a b : Bs} (ca : Can H a) (cb : Can H b) : ∀ r ∈ madeL a b, r.2 = 0 → Can H r.1 ∧ r.1.length ≤ 16384 := by
  intro r hr h
  unfold madeL at hr
  simp only [List.mem_cons, List.not_mem_nil, or_false] at hr
  rcases hr with rfl | rfl | rfl | rfl | rfl | rfl | rfl | rfl | rfl | rfl | rfl
  · exact whole_hash h ca
  · exact whole_two h (fun x y => Tm.is_two x y (by decide)) (by decide) (by decide) (by decide) (by decide) (by decide) (by decide) ca cb
  · exact whole_two h (fun x y => Tm.is_two x y (by decide)) (by decide) (by decide) (by decide) (by decide) (by decide) (by decide) ca cb
  · exact whole_two h (fun x y => Tm.is_two x y (by decide)) (by decide) (by decide) (by decide) (by decide) (by decide) (by decide) ca cb
  · exact whole_two h (fun x y => Tm.is_two x y (by decide)) (by decide) (by decide) (by decide) (by decide) (by decide) (by decide) ca cb
  · exact whole_two h (fun x y => Tm.is_two x y (by decide)) (by decide) (by decide) (by decide) (by decide) (by decide) (by decide) ca cb
  · exact whole_pub h ca
  · unfold jointRes at h ⊢
    by_cases h1 : (Tm.isPk a.head? && Tm.isPk b.head?) = true
    · rw [if_pos h1] at h ⊢
      have h2 := Bool.and_eq_true_iff.1 h1
      exact whole_two h (fun x y => Tm.is_joint x y h2.1 h2.2) (by decide) (by decide) (by decide) (by decide) (by decide) (by decide) ca cb
    · rw [if_neg h1] at h; cases h
  · unfold boundRes at h ⊢
    by_cases h1 : Tm.isPk a.head? = true
    · rw [if_pos h1] at h ⊢
      exact whole_two h (fun x y => Tm.is_bound x y h1) (by decide) (by decide) (by decide) (by decide) (by decide) (by decide) ca cb
    · rw [if_neg h1] at h; cases h
  · exact whole_agree h ca cb
  · exact whole_tuple h ca cb
theorem unbox_can {H : Bs → Prop} {a b : Bs} (ca : Can H a) (cb : Can H b) (h : (unboxRes a b).2 = true) : Can H (unboxRes a b).1 ∧ (unboxRes a b).1.length ≤ 16384 := by
  unfold unboxRes at h ⊢
  by_cases h1 : Tm.deep b ≠ 0 ∧ b.head? = some 66
  · rw [if_pos h1] at h ⊢
    obtain ⟨c, l, rfl⟩ : ∃ c l, b = c :: l := by
      cases b with
      | nil => cases h1.2
      | cons c l => exact ⟨c, l, rfl⟩
    have hc : c = 66 := by simpa using h1.2
    subst hc
    obtain ⟨x, y, hk⟩ := Tm.kids_pair h1.1 (by decide) (by decide) (by decide) (by decide) (by decide)
    rw [hk] at h ⊢
    simp only [] at h ⊢
    by_cases h2 : x = a
    · rw [if_pos h2]
      subst h2
      have h3 := Tm.kids_right h1.1 (k := y) (by rw [hk]; simp)
      exact ⟨.opened cb h1.2 hk ca, (Tm.deep_is h3.1).2⟩
    · rw [if_neg h2] at h; cases h
  · rw [if_neg h1] at h; cases h
end Go.Proofs.YtfnnhekjeobicaaGreatDoor
