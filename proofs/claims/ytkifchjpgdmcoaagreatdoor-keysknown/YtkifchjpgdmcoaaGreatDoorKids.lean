/- The parts of a right term are right, less deep, shorter, and stand in it. No program in it. -/
import Derived.Test.YtkifchjpgdmcoaaGreatDoorMath
namespace Go.Proofs.YtkifchjpgdmcoaaGreatDoor.Tm
structure PartOf (d : Nat) (t k : Bs) : Prop where
 is : ∃ e, Is e k ∧ e + 1 ≤ d
 within : ∃ a b, t = a ++ (k ++ b) ∧ a ≠ []
theorem kidsN_part {n : Nat} : ∀ (k d : Nat) (l : Bs) (e : Nat) (r : Bs), manyA (rd n) k d l = some (e, r) → ∀ x ∈ kidsN (rd n) k l, (∃ f, Is f x ∧ f + 1 ≤ e) ∧ ∃ a b, l = a ++ (x ++ b)
 | 0, _, _, _, _, _, x, hx => by simp [kidsN] at hx
 | k + 1, d, l, e, r, h, x, hx => by
   rw [manyA] at h
   rw [kidsN] at hx
   match hg : rd n l with
   | none => rw [hg] at h; simp at h
   | some (d1, r1) =>
     rw [hg] at h hx
     simp only at h hx
     obtain ⟨p, rfl, hd, hi⟩ := rd_good n _ _ _ hg
     obtain ⟨q, rfl, h2, h3, _⟩ := many_good (rd_good n) k _ _ _ _ h
     rcases List.mem_cons.1 hx with hx | hx
     · rw [used_app] at hx
       subst hx
       exact ⟨⟨d1, hi, by omega⟩, [], q ++ r, rfl⟩
     · obtain ⟨h4, a, b, h5⟩ := kidsN_part k _ _ _ _ h x hx
       exact ⟨h4, p ++ a, b, by rw [h5]; simp⟩
theorem kids_part {n : Nat} {c : UInt8} {l : Bs} {d : Nat} {r : Bs} (h : rd (n + 1) (c :: l) = some (d, r)) : ∀ x ∈ kidsOf n (c :: l), PartOf d (c :: l) x := by
 intro x hx
 rw [rd_cons] at h
 change x ∈ (if c = 84 then tupleK (rd n) l else if c = 80 ∨ c = 72 then kids1 (rd n) l else if c = 110 ∨ c = 116 then [] else kids2 (rd n) l) at hx
 have two : ∀ d' r1 r2, twoA (rd n) l = some (d', r1, r2) → d' = d → x ∈ kids2 (rd n) l → PartOf d (c :: l) x := by
   intro d' r1 r2 h2 e hx
   obtain ⟨p, q, a, b, e1, rfl, e3, ha, hb, hp, hq⟩ := two_good (rd_good n) h2
   unfold kids2 at hx
   rw [h2] at hx
   simp only [e1, used_app, List.mem_cons, List.not_mem_nil, or_false] at hx
   rcases hx with rfl | rfl
   · exact ⟨⟨a, hp, by omega⟩, [c], q ++ r2, by rw [e1]; rfl, by simp⟩
   · exact ⟨⟨b, hq, by omega⟩, c :: p, r2, by rw [e1]; rfl, by simp⟩
 by_cases c1 : c = 110
 · subst c1; simp at hx
 rw [if_neg c1] at h
 by_cases c2 : c = 116
 · subst c2; simp at hx
 rw [if_neg c2] at h
 by_cases c3 : c = 84
 · rw [if_pos c3] at h hx
   unfold tupleA at h
   unfold tupleK at hx
   match hg : num 58 l with
   | none => rw [hg] at h; simp at h
   | some (k, r0) =>
     rw [hg] at h hx
     simp only at h hx
     split at h
     · obtain ⟨p, hp, rfl, _⟩ := num_app hg
       obtain ⟨h1, a, b, h2⟩ := kidsN_part _ _ _ _ _ h x hx
       exact ⟨h1, c :: (p ++ a), b, by rw [h2]; simp, by simp⟩
     · simp at h
 rw [if_neg c3] at h hx
 have one : ∀ d1 r1, rd n l = some (d1, r1) → d1 + 1 = d → x ∈ kids1 (rd n) l → PartOf d (c :: l) x := by
   intro d1 r1 h1 e hx
   obtain ⟨p, rfl, hd, hi⟩ := rd_good n _ _ _ h1
   unfold kids1 at hx
   rw [h1] at hx
   simp only [used_app, List.mem_singleton] at hx
   subst hx
   exact ⟨⟨d1, hi, by omega⟩, [c], r1, rfl, by simp⟩
 by_cases c4 : c = 80
 · rw [if_pos c4] at h
   rw [if_pos (Or.inl c4)] at hx
   unfold pubA at h
   match hg : rd n l with
   | none => rw [hg] at h; simp at h
   | some (d1, r1) =>
     rw [hg] at h
     simp only at h
     split at h
     · simp at h
     · simp at h; exact one d1 r1 hg h.1 hx
 rw [if_neg c4] at h
 by_cases c5 : c = 72
 · rw [if_pos c5] at h
   rw [if_pos (Or.inr c5)] at hx
   unfold oneA at h
   match hg : rd n l with
   | none => rw [hg] at h; simp at h
   | some (d1, r1) =>
     rw [hg] at h
     simp at h
     exact one d1 r1 hg h.1 hx
 rw [if_neg c5] at h
 rw [if_neg (by simp [c4, c5]), if_neg (by simp [c1, c2])] at hx
 match hg : twoA (rd n) l with
 | none =>
   unfold kids2 at hx
   rw [hg] at hx
   simp at hx
 | some (d1, r1, r2) =>
   refine two d1 r1 r2 hg ?_ hx
   unfold two2 agreeA jointA boundA at h
   simp only [hg] at h
   repeat' split at h
   all_goals first | (simp at h; exact h.1) | simp at h
theorem kids_right {t k : Bs} (h : deep t ≠ 0) (hk : k ∈ kidsOf 63 t) : deep k ≠ 0 ∧ deep k < deep t ∧ k.length < t.length ∧ ∃ a b, t = a ++ (k ++ b) ∧ a ≠ [] := by
 obtain ⟨hi, hl⟩ := deep_is h
 have h64 := deep_le t
 match t, h, hi, hk with
 | [], _, hi, _ => exact absurd rfl hi.2.1
 | c :: l, h, hi, hk =>
   have hr := hi.2.2 64 [] h64
   rw [List.append_nil] at hr
   obtain ⟨⟨e, he, h1⟩, a, b, h2, h3⟩ := kids_part hr k hk
   have hlen : k.length < (c :: l).length := by
     rw [h2]
     have : 0 < a.length := List.length_pos_iff.2 h3
     simp; omega
   have hd : deep k = e := is_deep he (by omega) (by omega)
   have := he.1
   exact ⟨by omega, by omega, hlen, a, b, h2, h3⟩
theorem kidsN_count (f : Bs → Option (Nat × Bs)) : ∀ (k : Nat) (l : Bs), (kidsN f k l).length ≤ k
 | 0, _ => by simp [kidsN]
 | k + 1, l => by
   rw [kidsN]
   match f l with
   | none => simp
   | some (_, r) => have := kidsN_count f k r; simp; omega
theorem kids_count {t : Bs} (h : deep t ≠ 0) : (kidsOf 63 t).length ≤ 32 := by
 match t, h with
 | [], h => simp [kidsOf]
 | c :: l, h =>
   obtain ⟨hi, hl⟩ := deep_is h
   have hr := hi.2.2 64 [] (deep_le _)
   rw [List.append_nil, rd_cons] at hr
   show (if c = 84 then tupleK (rd 63) l else if c = 80 ∨ c = 72 then kids1 (rd 63) l else if c = 110 ∨ c = 116 then [] else kids2 (rd 63) l).length ≤ 32
   by_cases c3 : c = 84
   · subst c3
     rw [if_neg (by decide), if_neg (by decide), if_pos rfl] at hr
     rw [if_pos rfl]
     unfold tupleA at hr
     unfold tupleK
     match hg : num 58 l with
     | none => simp
     | some (k, r0) =>
       rw [hg] at hr
       simp only at hr ⊢
       split at hr
       · rename_i hk; have := kidsN_count (rd 63) k r0; omega
       · simp at hr
   · rw [if_neg c3]
     split
     · unfold kids1; split <;> simp
     · split
       · simp
       · unfold kids2; split <;> simp
theorem kids_pair {c : UInt8} {l : Bs} (h : deep (c :: l) ≠ 0) (c1 : c ≠ 110) (c2 : c ≠ 116) (c3 : c ≠ 84) (c4 : c ≠ 80) (c5 : c ≠ 72) : ∃ x y, kidsOf 63 (c :: l) = [x, y] := by
 obtain ⟨hi, hl⟩ := deep_is h
 have hr := hi.2.2 64 [] (deep_le _)
 rw [List.append_nil, rd_cons, if_neg c1, if_neg c2, if_neg c3, if_neg c4, if_neg c5] at hr
 show ∃ x y, (if c = 84 then tupleK (rd 63) l else if c = 80 ∨ c = 72 then kids1 (rd 63) l else if c = 110 ∨ c = 116 then [] else kids2 (rd 63) l) = [x, y]
 rw [if_neg c3, if_neg (by simp [c4, c5]), if_neg (by simp [c1, c2])]
 match hg : twoA (rd 63) l with
 | none =>
   unfold two2 agreeA jointA boundA at hr
   simp [hg] at hr
 | some (d1, r1, r2) => exact ⟨_, _, by unfold kids2; rw [hg]⟩
end Go.Proofs.YtkifchjpgdmcoaaGreatDoor.Tm
