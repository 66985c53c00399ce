import Derived.Test.YtkifchjpgdmcoaaGreatDoorDedDAll
import Derived.Test.YtkifchjpgdmcoaaGreatDoorFollowFAll
/- All that may be noted of a list of right terms. -/
namespace Go.Proofs.YtkifchjpgdmcoaaGreatDoor

theorem used_less (l r : Bs) : (Tm.used l r).length ≤ l.length - r.length := by unfold Tm.used; simp
/-- the parts of a term are together shorter -/
theorem kids_sum_all {t : Bs} (h : t ≠ []) : ((Tm.kidsOf 63 t).map List.length).sum + 1 ≤ t.length := by
  match t, h with
  | c :: l, _ =>
    by_cases c3 : c = 84
    · exact kids_sum (by rw [c3]; rfl)
    · show ((if c = 84 then Tm.tupleK (Tm.rd 63) l else if c = 80 ∨ c = 72 then Tm.kids1 (Tm.rd 63) l else if c = 110 ∨ c = 116 then [] else Tm.kids2 (Tm.rd 63) l).map List.length).sum + 1 ≤ _
      rw [if_neg c3]
      split
      · unfold Tm.kids1
        split
        · simp
        · rename_i d r hg
          have := used_less l r
          simp; omega
      · split
        · simp
        · unfold Tm.kids2 Tm.twoA
          match hg : Tm.rd 63 l with
          | none => simp
          | some (d, r) =>
            simp only
            match hg2 : Tm.rd 63 r with
            | none => simp
            | some (e, r') =>
              have h1 := used_less l r
              have h2 := used_less r r'
              have h3 := (Tm.rd_len hg).1
              simp; omega
/-- all that stands in a term, and the public keys of secrets that are joined or bound -/
def subsF : Nat → Bs → List Bs
  | 0, t => [t]
  | n + 1, t => t :: ((if VK t ∧ (pubRes t).2 = 0 then [(pubRes t).1] else []) ++ (Tm.kidsOf 63 t).flatMap (subsF n))
theorem subs_self (n : Nat) (t : Bs) : t ∈ subsF n t := by cases n <;> simp [subsF]
theorem ne_of_right {t : Bs} (h : Tm.deep t ≠ 0) : t ≠ [] := fun e => by rw [e] at h; exact h rfl
theorem sum_flat {f : Bs → List Bs} : ∀ (ks : List Bs), (∀ k ∈ ks, (f k).length ≤ 2 * k.length) → (ks.flatMap f).length ≤ 2 * (ks.map List.length).sum
  | [], _ => by simp
  | k :: ks, h => by
    have h1 := h k (by simp)
    have h2 := sum_flat ks (fun x hx => h x (by simp [hx]))
    simp only [List.flatMap_cons, List.length_append, List.map_cons, List.sum_cons]
    omega
theorem subs_len : ∀ (n : Nat) (t : Bs), Tm.deep t ≠ 0 → (subsF n t).length ≤ 2 * t.length
  | 0, t, h => by have := List.length_pos_iff.2 (ne_of_right h); simp [subsF]; omega
  | n + 1, t, h => by
    have h1 := kids_sum_all (ne_of_right h)
    have h2 := sum_flat (Tm.kidsOf 63 t) (fun k hk => subs_len n k (Tm.kids_right h hk).1)
    rw [subsF, List.length_cons, List.length_append]
    have h3 : (if VK t ∧ (pubRes t).2 = 0 then [(pubRes t).1] else []).length ≤ 1 := by split <;> simp
    omega
theorem subs_right : ∀ (n : Nat) (t : Bs), Tm.deep t ≠ 0 → ∀ s ∈ subsF n t, Tm.deep s ≠ 0
  | 0, t, h, s, hs => by simp [subsF] at hs; rw [hs]; exact h
  | n + 1, t, h, s, hs => by
    rw [subsF] at hs
    rcases List.mem_cons.1 hs with e | hs
    · rw [e]; exact h
    · rcases List.mem_append.1 hs with hs | hs
      · split at hs
        · rename_i hv
          simp at hs
          obtain ⟨_, h2, h3⟩ := pub_right hv.2
          rw [hs, h3]; exact h2
        · cases hs
      · obtain ⟨k, hk, hs⟩ := List.mem_flatMap.1 hs
        exact subs_right n k (Tm.kids_right h hk).1 s hs
/-- what of a list must be in it too -/
def Closed (s : Bs) (l : List Bs) : Prop := (s.head? = some 84 ∨ s.head? = some 66 → ∀ k ∈ Tm.kidsOf 63 s, k ∈ l) ∧ (VK s → (pubRes s).2 = 0 → (pubRes s).1 ∈ l)
theorem Closed.mono {s : Bs} {l r : List Bs} (h : Closed s l) (hl : ∀ x ∈ l, x ∈ r) : Closed s r := ⟨fun a k b => hl k (h.1 a k b), fun a b => hl _ (h.2 a b)⟩
theorem subs_closed : ∀ (n : Nat) (t : Bs), Tm.deep t ≠ 0 → Tm.deep t ≤ n → ∀ s ∈ subsF n t, Closed s (subsF n t)
  | 0, t, h, h0, _, _ => absurd (Nat.le_zero.1 h0) h
  | n + 1, t, h, hn, s, hs => by
    have hin : ∀ k ∈ Tm.kidsOf 63 t, ∀ x ∈ subsF n k, x ∈ subsF (n + 1) t := fun k hk x hx => by
      rw [subsF]
      exact List.mem_cons.2 (Or.inr (List.mem_append.2 (Or.inr (List.mem_flatMap.2 ⟨k, hk, hx⟩))))
    have hs' := hs
    rw [subsF] at hs'
    rcases List.mem_cons.1 hs' with e | hs'
    · subst e
      refine ⟨fun _ k hk => hin k hk k (subs_self _ _), fun a b => ?_⟩
      rw [subsF]
      refine List.mem_cons.2 (Or.inr (List.mem_append.2 (Or.inl ?_)))
      rw [if_pos ⟨a, b⟩]; simp
    · rcases List.mem_append.1 hs' with hs' | hs'
      · split at hs'
        · rename_i hv
          simp at hs'
          have hp := pub_head hv.2
          rw [← hs'] at hp
          refine ⟨fun a => ?_, fun a => ?_⟩
          · rcases a with a | a <;> rw [a] at hp <;> cases hp
          · rcases a with a | a <;> rw [a] at hp <;> cases hp
        · cases hs'
      · obtain ⟨k, hk, hs'⟩ := List.mem_flatMap.1 hs'
        have hr := Tm.kids_right h hk
        exact (subs_closed n k hr.1 (by omega) s hs').mono (hin k hk)
/-- all that may be noted of a list of right terms -/
theorem uni_of {l : List Bs} (h : ∀ t ∈ l, Tm.deep t ≠ 0) (hl : (l.map List.length).sum < 50000000) : Uni (l.flatMap (subsF 64)) ∧ ∀ t ∈ l, t ∈ l.flatMap (subsF 64) := by
  have hc : ∀ s ∈ l.flatMap (subsF 64), Closed s (l.flatMap (subsF 64)) := fun s hs => by
    obtain ⟨t, ht, hs⟩ := List.mem_flatMap.1 hs
    exact (subs_closed 64 t (h t ht) (Tm.deep_le _) s hs).mono (fun x hx => List.mem_flatMap.2 ⟨t, ht, hx⟩)
  refine ⟨⟨?_, fun s hs => ?_, fun s hs a k hk => (hc s hs).1 (Or.inl a) k hk, fun s hs a b => (hc s hs).2 a b, fun s hs a k m hk => (hc s hs).1 (Or.inr a) m (by rw [hk]; simp)⟩, fun t ht => List.mem_flatMap.2 ⟨t, ht, subs_self _ _⟩⟩
  · have := sum_flat l (fun k hk => subs_len 64 k (h k hk))
    omega
  · obtain ⟨t, ht, hs⟩ := List.mem_flatMap.1 hs
    exact subs_right 64 t (h t ht) s hs
end Go.Proofs.YtkifchjpgdmcoaaGreatDoor

/- What can be made can be made among the terms that stand within. -/
namespace Go.Proofs.YtkifchjpgdmcoaaGreatDoor

/-- S has all that the rules make of it among the terms A -/
structure Local (A S : Bs → Prop) : Prop where
  kids : ∀ t k, A t → k ∈ Tm.kidsOf 63 t → A k
  keys : ∀ t k, A t → t.head? = some 88 → k ∈ Tm.kidsOf 63 t → Tm.deep (80 :: k) ≠ 0 → A (80 :: k)
  whole : ∀ t, A t → Tm.deep t ≠ 0 → t.head? ≠ some 110 → t.head? ≠ some 88 → (∀ k ∈ Tm.kidsOf 63 t, S k) → S t
  agree1 : ∀ t a b, A t → Tm.deep t ≠ 0 → t.head? = some 88 → Tm.kidsOf 63 t = [a, b] → S a → Tm.deep (80 :: b) ≠ 0 → S (80 :: b) → S t
  agree2 : ∀ t a b, A t → Tm.deep t ≠ 0 → t.head? = some 88 → Tm.kidsOf 63 t = [a, b] → S b → Tm.deep (80 :: a) ≠ 0 → S (80 :: a) → S t
  pub : ∀ x, S x → (pubRes x).2 = 0 → A (pubRes x).1 → S (pubRes x).1
  part : ∀ t k, S t → A t → t.head? = some 84 → k ∈ Tm.kidsOf 63 t → S k
  opened : ∀ t k m, S t → A t → t.head? = some 66 → Tm.kidsOf 63 t = [k, m] → S k → S m
theorem mk_local {A S : Bs → Prop} (hL : Local A S) {N : NM} (hS : Sat N) (hN : ∀ s, Hld N s → S s ∧ A s) : ∀ (n : Nat) (t : Bs), t.length ≤ n → A t → mkF N t = true → S t := by
  have noted : ∀ t, A t → (N t).isSome = true → S t := by
    intro t ha hn
    by_cases hh : Hld N t
    · exact (hN t hh).1
    · obtain ⟨x, hx, _, hp⟩ := hS.odd t hn hh
      have := hL.pub x (hN x hx).1 (by rw [hp]) (by rw [hp]; exact ha)
      rw [hp] at this
      exact this
  intro n
  induction n with
  | zero =>
    intro t ht ha hm
    have e : t = [] := List.length_eq_zero_iff.1 (by omega)
    subst e
    rw [mkF_wrong N (by rfl)] at hm
    exact noted _ ha hm
  | succ n ih =>
    intro t ht ha hm
    by_cases hq : (N t).isSome = true
    · exact noted _ ha hq
    · by_cases h0 : Tm.deep t = 0
      · rw [mkF_wrong N h0] at hm; exact absurd hm hq
      · have hlk : ∀ k ∈ Tm.kidsOf 63 t, mkF N k = true → S k := fun k hk => ih k (by have := (Tm.kids_right h0 hk).2.2.1; omega) (hL.kids t k ha hk)
        by_cases h1 : t.head? = some 110
        · rw [mkF_name N h1] at hm; exact absurd hm hq
        · by_cases h2 : t.head? = some 88
          · obtain ⟨a, b, hk⟩ := agree_kids h0 h2
            rw [mkF_agree N h0 h2 hk] at hm
            have one : ∀ y, y ∈ Tm.kidsOf 63 t → hasKeyF N y (mkF N y) = true → Tm.deep (80 :: y) ≠ 0 ∧ S (80 :: y) := by
              intro y hy hh
              unfold hasKeyF at hh
              simp only [Bool.and_eq_true, Bool.or_eq_true] at hh
              have e0 : (pubRes y).2 = 0 := by simpa using hh.1.1
              have e := pub_plain e0 (by simpa using hh.1.2)
              have hr := pub_right e0
              have hd : Tm.deep (80 :: y) ≠ 0 := by rw [← e, hr.2.2]; exact hr.2.1
              have hA := hL.keys t y ha h2 hy hd
              refine ⟨hd, ?_⟩
              rcases hh.2 with c | c
              · have := hL.pub y (hlk y hy c) e0 (by rw [e]; exact hA)
                rw [e] at this
                exact this
              · rw [e] at c; exact noted _ hA c
            have ma : a ∈ Tm.kidsOf 63 t := by rw [hk]; simp
            have mb : b ∈ Tm.kidsOf 63 t := by rw [hk]; simp
            simp only [Bool.or_eq_true, Bool.and_eq_true] at hm
            rcases hm with hm | hm | hm
            · exact absurd hm hq
            · have := one b mb hm.2
              exact hL.agree1 t a b ha h0 h2 hk (hlk a ma hm.1) this.1 this.2
            · have := one a ma hm.2
              exact hL.agree2 t a b ha h0 h2 hk (hlk b mb hm.1) this.1 this.2
          · rw [mkF_else N h0 h1 h2] at hm
            simp only [Bool.or_eq_true, List.all_eq_true] at hm
            rcases hm with hm | hm
            · exact absurd hm hq
            · exact hL.whole t ha h0 h1 h2 (fun k hk => hlk k hk (hm k hk))
theorem open_local {U : List Bs} (hU : Uni U) {A S : Bs → Prop} (hL : Local A S) (N : NM) (l : List Bs) (box : Bs) (hO : Ok U N) (hS : Sat N) (hb : box ∈ U) (hm : mkF N (nget N box).key = true) (h : ∀ s, Hld N s → S s ∧ A s) : ∀ s, Hld (openF (N, l) box).1 s → S s ∧ A s := by
  obtain ⟨hk, h66, m, hks⟩ := box_of hU hO hm
  have hd := hU.right box hb
  have hub : (unboxRes (nget N box).key box).1 = m := by unfold unboxRes; rw [if_pos ⟨hd, h66⟩, hks]; simp
  have hE : openF (N, l) box = takeF 64 (nput N box ⟨(nget N box).heard, (nget N box).held, []⟩, l) m := by unfold openF; rw [hub]
  rw [hE]
  obtain ⟨hbS, hbA⟩ := h box (hS.kz box hk)
  have hkA := hL.kids box (nget N box).key hbA (by rw [hks]; simp)
  have hkS := mk_local hL hS h _ _ (Nat.le_refl _) hkA hm
  refine take_sound (Q := fun s => S s ∧ A s) (fun t k a b c => ⟨hL.part t k a.1 a.2 b c, hL.kids t k a.2 c⟩) 64 _ l m (fun s a => ?_) ⟨hL.opened box _ m hbS hbA h66 hks hkS, hL.kids box m hbA (by rw [hks]; simp)⟩
  unfold Hld at a
  rw [nget_put] at a
  by_cases e : s = box
  · rw [if_pos e] at a; rw [e]; exact h box a
  · rw [if_neg e] at a; exact h s a
/-- a mind that learns what S has holds what S has -/
theorem learn_local {U : List Bs} (hU : Uni U) {A S : Bs → Prop} (hL : Local A S) {H : Bs → Prop} {N : NM} (hO : Ok U N) (h : Mind H N) (hN : ∀ s, Hld N s → S s ∧ A s) {t : Bs} (ht : t ∈ U) (htS : S t ∧ A t) {L : List (Bs × Note)} (hOv : Over N L) {M : NM}
    (hF : Follow (takeF 64 (N, []) t).1 (takeF 64 (N, []) t).2 (shutL L) M) : ∀ s, Hld (nput M t ⟨true, (nget M t).held, (nget M t).key⟩) s → S s ∧ A s := by
  have hs0 : ∀ s, Hld (takeF 64 (N, []) t).1 s → S s ∧ A s :=
    take_sound (Q := fun s => S s ∧ A s) (fun t k a b c => ⟨hL.part t k a.1 a.2 b c, hL.kids t k a.2 c⟩) 64 N [] t hN htS
  obtain ⟨_, _, _, _, _, hs⟩ := learn_inv hU hO h.full.sat h.full.shut ht hOv hF (P := fun N => ∀ s, Hld N s → S s ∧ A s) (fun N l box => open_local hU hL N l box) hs0
  intro s a
  unfold Hld at a
  rw [nget_put] at a
  by_cases e : s = t
  · rw [e]; exact htS
  · rw [if_neg e] at a; exact hs s a
end Go.Proofs.YtkifchjpgdmcoaaGreatDoor

/- What follow does. -/
namespace Go.Proofs.YtkifchjpgdmcoaaGreatDoor
open Go.RowKit Go.Maps Go.WideElems

set_option maxRecDepth 100000 in
set_option maxHeartbeats 8000000 in
theorem follow_any {U : List Bs} (hU : Uni U) (w : World) (p b : Nat) (N : NM) (vn : Value) (news : List Bs) (vs : Value) (shut : List Bs) (h : Fo U w vs p b N vn news vs shut w) :
    Calls Tryz.prog 31 #[.pointer (some ⟨p, 0, none⟩), vn, vs] w fun e w' => ∃ M, e = .returned (.tuple #[]) ∧ Follow N news shut M ∧ Md w' p b M ∧ Ok U M ∧ (∃ v', Kp w w' b vs v') ∧ G0 w' := by
  obtain ⟨an, kn, hvn⟩ := own_shape h.mn.row
  obtain ⟨aq, kq, hvs⟩ := own_shape h.row
  subst hvn
  subst hvs
  have HU := hid hU
  have HF := hid h
  clear h hU
  go_enter Tryz.func31, Tryz.ntmps31
  go_wp2_with fail
  go_loopg [1, 2] (2 * nu U N + (if news = [] then 0 else 1)) (fun gg vn' vs' wr => ∃ (N' : NM) (news' shut' : List Bs) (an' : Option Addr) (kn' : Nat) (aq' : Option Addr) (kq' : Nat), gg = 2 * nu U N' + (if news' = [] then 0 else 1) ∧ vn' = .slice an' news'.length kn' ∧ vs' = .slice aq' shut'.length kq' ∧
    Fo U w (.slice aq shut.length kq) p b N' (.slice an' news'.length kn') news' (.slice aq' shut'.length kq') shut' wr ∧ ∀ M, Follow N' news' shut' M → Follow N news shut M)
  case atStart => exact ⟨N, news, shut, an, kn, aq, kq, rfl, rfl, rfl, HF.out, fun M h => h⟩
  case round =>
    clear HF
    obtain ⟨N1, news1, shut1, an1, kn1, aq1, kq1, rfl, rfl, rfl, hF, hfol⟩ := hrel
    have HF := hid hF
    have HFO := hid hfol
    clear hF hfol
    by_cases hnil : news1 = []
    · have hn0 : news1.length = 0 := by rw [hnil]; rfl
      have HNIL := hid hnil
      clear hnil
      go_wp2_with fail
      go_end0
      have hF := HF.out
      refine ⟨N1, rfl, HFO.out N1 ?_, hF.mn.md, hF.ok, ⟨_, hF.kp⟩, hF.g0⟩
      rw [HNIL.out]
      exact Follow.done N1 shut1
    · have hn0 : ¬ (news1.length : Int) = 0 := by have := List.length_pos_iff.2 hnil; omega
      have hn1 : (0 : Int) < (news1.length : Int) := by omega
      have HNN := hid hnil
      have hn2 : 0 < news1.length := List.length_pos_iff.2 hnil
      clear hnil
      have HBX := hid (boxes_any wr p b N1 _ news1 HF.out.mn (by have := HF.out.bd; omega) (fun t ht => by have := (Tm.deep_is (HU.out.right t (HF.out.nu' t ht))).2; omega))
      have HNX : Hid (∀ x ∈ news1, x ≠ []) := hid (fun x hx e => absurd (by decide) (HU.out.right [] (e ▸ HF.out.nu' x hx)))
      have HB32 := hid HF.out.bd
      generalize hnl : news1.length = nl at hn0 hn1 hn2 HBX ⊢
      have HNL := hid hnl
      have hdc : decide (0 < nl) = true := by simpa using hn2
      go_wp2_with fail
      refine HBX.out.mono ?_
      rintro e w1 ⟨ax, kx, rfl, hrow, hb1⟩
      obtain ⟨ao2, kc2, w2, hrun, hown2, hk2, hs2⟩ := append_row w1 b (.slice aq1 shut1.length kq1) (.slice ax (boxesF N1 news1).length kx) shut1 (boxesF N1 news1) (own_below HF.out.row hb1) (own_zero hrow) (by have := boxesF_le N1 news1; have := HF.out.bd; omega)
      obtain ⟨sh, hsh⟩ : ∃ sh, sh = shut1 ++ boxesF N1 news1 := ⟨_, rfl⟩
      rw [← hsh] at hrun hown2 hk2
      have HSH := hid hsh
      have HFI : Hid (Fi U w (.slice aq shut.length kq) p b (N1, []) (.slice none 0 0) (.slice an1 nl kn1) news1 (.slice ao2 sh.length kc2) sh (.slice none 0 0) [] w2) := by
        apply hid
        have hF := HF.out
        rw [hnl] at hF
        have hmn1 := hF.mn.below hb1
        have hsr := own_below hF.row hb1
        have hne := own_ne hmn1.md hsr
        have hmd2 : Md w2 p b N1 := hmn1.md.kp hne.1 hne.2 hmn1.md.ne hk2 (hs2 b hmn1.md.om.lt hne.2)
        exact ⟨⟨hmd2, World.ownsRow_nil _ _ _ _⟩, hk2.row hmn1.md hmn1.row hF.ap, hown2, World.ownsRow_nil _ _ _ _, (ap_none _ _).symm, (ap_none _ _).symm, (ap_none _ _).symm, (ap_none _ _).symm, (ap_none _ _).symm, (fun g e => by cases e), (fun g e => by cases e), (hF.kp.below hb1).trans hk2, hF.ok, (hF.g0.below hb1).kp hmn1.md.om hsr hk2⟩
      have HSU : Hid (∀ x ∈ sh, x ∈ U) := by
        apply hid; rw [hsh]; intro x hx
        rcases List.mem_append.1 hx with hx | hx
        · exact HF.out.su x hx
        · exact boxesF_mem HF.out.nu' x hx
      have HSB2 : Hid (sh.length + nu U N1 < 1000000000) := by apply hid; rw [hsh, List.length_append]; have := boxesF_le N1 news1; have := HF.out.bd; omega
      have HSB : Hid (sh.length < 1000000000) := by apply hid; rw [hsh, List.length_append]; have := boxesF_le N1 news1; have := HF.out.bd; omega
      have HRUN := hid hrun
      have HNU := hid HF.out.nu'
      have HOK1 := hid HF.out.ok
      clear hrow hb1 hrun hown2 hk2 hs2 HBX hsh HF hnl
      go_wp2_with (first | (at_builtin; refine wpList_append_run rfl (.tmp 13) (.tmp 16) 39 rfl (.slice aq1 shut1.length kq1) (.slice ax (boxesF N1 news1).length kx) (.slice ao2 sh.length kc2) w2 rfl rfl HRUN.out ?_) | fail)
      clear HRUN
      obtain ⟨F, hF⟩ : ∃ F : Nat → (NM × List Bs) × List Bs, F = fun i => (sh.take i).foldl (passStep news1) ((N1, []), []) := ⟨_, rfl⟩
      have HF0 : Hid (F 0 = ((N1, []), [])) := by apply hid; rw [hF]; rfl
      have HFS : Hid (∀ i (hi : i < sh.length), F (i + 1) = passStep news1 (F i) sh[i]) := by
        apply hid; intro i hi; rw [hF]; simp only [List.take_succ_eq_append_getElem hi, List.foldl_append, List.foldl_cons, List.foldl_nil]
      have HFE : Hid (F sh.length = (shut1 ++ boxesF N1 news1).foldl (passStep news1) ((N1, []), [])) := by apply hid; rw [hF, ← HSH.out]; simp
      have HFB : Hid (∀ i, Ok U (F i).1.1 ∧ (F i).1.2.length + nu U (F i).1.1 ≤ nu U N1 ∧ (F i).2.length ≤ sh.length) := by
        apply hid; intro i
        obtain ⟨h1, h2, h3⟩ := pass_bound HU.out news1 (sh.take i) ((N1, []), []) (fun x hx => HSU.out x (List.mem_of_mem_take hx)) HOK1.out
        rw [hF]
        refine ⟨h1, by simpa using h2, Nat.le_trans h3 ?_⟩
        simp
        omega
      have HFM : Hid ((∀ x ∈ (F sh.length).1.2, x ∈ U) ∧ ∀ x ∈ (F sh.length).2, x ∈ U) := by
        apply hid
        rw [hF]
        simp only [List.take_length]
        exact pass_mem HU.out news1 sh ((N1, []), []) HSU.out HOK1.out (by simp) (by simp)
      clear hF HSH
      obtain ⟨n, hn⟩ : ∃ n, n = sh.length := ⟨_, rfl⟩
      have HN := hid hn
      have hnb : n < 1000000000 := by rw [hn]; exact HSB.out
      rw [← hn]
      have HFI2 := HFI
      rw [← hn] at HFI2
      clear hn HFI
      go_loopg [6, 7, 20] n (fun gg vm vt vi wr => ∃ (i : Nat) (am : Option Addr) (km : Nat) (au : Option Addr) (ku : Nat), i ≤ n ∧ gg = n - i ∧ vi = .int .i64 (i : Int) ∧ vm = .slice am (F i).1.2.length km ∧ vt = .slice au (F i).2.length ku ∧
        Fi U w (.slice aq shut.length kq) p b (F i).1 (.slice am (F i).1.2.length km) (.slice an1 nl kn1) news1 (.slice ao2 n kc2) sh (.slice au (F i).2.length ku) (F i).2 wr)
      case atStart => exact ⟨0, none, 0, none, 0, by omega, by omega, rfl, by rw [HF0.out]; rfl, by rw [HF0.out]; rfl, by rw [HF0.out]; exact HFI2.out⟩
      case round =>
        clear HFI2 HF0
        obtain ⟨i, am, km, au, ku, hi, rfl, rfl, rfl, rfl, hfi⟩ := hrel
        have HFI := hid hfi
        clear hfi
        by_cases hil : i < n
        · as_aux_lemma =>
          have hik : i < sh.length := by rw [← HN.out]; exact hil
          have hsr := HFI.out.srow
          obtain ⟨g, kc', hv, hg1, hg2, hcs⟩ := row_cells hsr (by omega)
          rw [← HN.out] at hv
          cases hv
          have hcell := hcs i hik
          have hbU := HSU.out sh[i] (List.getElem_mem hik)
          have HFX := hid (HFS.out i hik)
          generalize sh[i] = box at hcell hbU HFX
          have HBU := hid hbU
          have hbl : box.length ≤ 100000 := by have := (Tm.deep_is (HU.out.right box hbU)).2; omega
          obtain ⟨mx, hmx⟩ := HFI.out.g0.cell
          have HCO := hid (concern_any wr (.slice an1 nl kn1) news1 HFI.out.nrow (by have := HB32.out; have := HNL.out; omega) HNX.out box hbl mx hmx)
          have HBD := hid (HFB.out i)
          have HFI1 := HFI
          clear hsr hcs hbU hmx hg1 hg2
          -- what stays shut
          have STAYS : Hid (∀ W, Fi U w (.slice aq shut.length kq) p b (F i).1 (.slice am (F i).1.2.length km) (.slice an1 nl kn1) news1 (.slice (some ⟨g, 0, none⟩) n kc2) sh (.slice au (F i).2.length ku) (F i).2 W → ∃ ao5 kc5 w5, (∀ ty, (Builtin.append_ #[39, 39] ty #[.slice au (F i).2.length ku, .slice (some ⟨W.heap.size, 0, none⟩) 1 1]).run Tryz.prog (W.alloc (.cells #[St box] 22)) = .ok (.slice ao5 ((F i).2.length + 1) kc5) w5) ∧
              Fi U w (.slice aq shut.length kq) p b (F i).1 (.slice am (F i).1.2.length km) (.slice an1 nl kn1) news1 (.slice (some ⟨g, 0, none⟩) n kc2) sh (.slice ao5 ((F i).2.length + 1) kc5) ((F i).2 ++ [box]) w5) := by
            apply hid
            intro W hW
            obtain ⟨ao5, kc5, w5, h1, h2, h3, h4⟩ := append_kp W b (.slice au (F i).2.length ku) (F i).2 box hW.trow (by have := HBD.out.2.2; have := HN.out; omega)
            exact ⟨ao5, kc5, w5, h1, hW.stays h2 h3 h4⟩
          cases hcc : concernF news1 box
          · rw [hcc] at HCO
            have HPS : Hid (F (i + 1) = ((F i).1, (F i).2 ++ [box])) := by apply hid; rw [HFX.out]; unfold passStep; rw [hcc]; rfl
            obtain ⟨ao5, kc5, w5, hrun5, hfi5⟩ := STAYS.out wr HFI.out
            have HR5 := hid hrun5
            have HF5 := hid hfi5
            clear hrun5 hfi5
            go_wp2_with fail
            refine HCO.out.mono ?_
            rintro e w3 ⟨rfl, hw3⟩
            subst hw3
            go_wp2_with (first | (at_builtin; refine wpList_append_run rfl (.tmp 42) (.tmp 44) 39 rfl (.slice au (F i).2.length ku) (.slice (some ⟨w3.heap.size, 0, none⟩) 1 1) (.slice ao5 ((F i).2.length + 1) kc5) w5 rfl rfl HR5.out ?_) | fail)
            go_roundg (n - (i + 1))
            case measure => omega
            case rel =>
              refine ⟨i + 1, am, km, ao5, kc5, by omega, rfl, by go_num, ?_, ?_, ?_⟩
              · rw [HPS.out]
              · rw [HPS.out]; simp
              · rw [HPS.out]; simpa using HF5.out
          · rw [hcc] at HCO
            have hmp := HFI.out.mn.md.rm.cell
            have hlk := HFI.out.mn.md.rm.one box hbl
            have HKL : Hid ((nget (F i).1.1 box).key.length ≤ 100000) := by
              apply hid
              by_cases hk0 : (nget (F i).1.1 box).key = []
              · rw [hk0]; simp
              · obtain ⟨h66, m, hks⟩ := HBD.out.1.key box hk0
                have := (Tm.kids_right (HU.out.right box HBU.out) (by rw [hks]; simp : (nget (F i).1.1 box).key ∈ Tm.kidsOf 63 box)).2.2.1
                omega
            have HMK := hid (fun W (hW : Rm W p (some b) (F i).1.1) => makes_any W p (some b) (F i).1.1 (nget (F i).1.1 box).key hW HKL.out)
            have HPX : Hid (F (i + 1) = if mkF (F i).1.1 (nget (F i).1.1 box).key then (openF (F i).1 box, (F i).2) else ((F i).1, (F i).2 ++ [box])) := by
              apply hid; rw [HFX.out]; unfold passStep; rw [hcc]; rfl
            have HOP : Hid (mkF (F i).1.1 (nget (F i).1.1 box).key = true → ∀ W, Mn W p b (F i).1.1 (.slice am (F i).1.2.length km) (F i).1.2 → Calls Tryz.prog 60 #[.pointer (some ⟨p, 0, none⟩), St box, .slice am (F i).1.2.length km] W fun e w' => ∃ v', e = .returned v' ∧ Mn w' p b (openF (F i).1 box).1 v' (openF (F i).1 box).2 ∧ Kp W w' b (.slice am (F i).1.2.length km) v') := by
              apply hid
              intro hm W hW
              obtain ⟨hk, h66, m, hks⟩ := box_of HU.out HBD.out.1 hm
              exact open_any HU.out W p b (F i).1.1 _ (F i).1.2 hW HBD.out.1.dom box _ m HBU.out h66 hks rfl (by have := HBD.out.2.1; have := HB32.out; omega)
            have HOO : Hid (mkF (F i).1.1 (nget (F i).1.1 box).key = true → Ok U (openF (F i).1 box).1) := hid (fun hm => (openF_ok HU.out (l := (F i).1.2) HBD.out.1 HBU.out hm).1)
            generalize mkF (F i).1.1 (nget (F i).1.1 box).key = mk at HMK HPX HOP HOO
            generalize nget (F i).1.1 box = nt at hlk HMK
            obtain ⟨nh, nd, nk⟩ := nt
            simp only at HMK
            have hfd : ∀ W, Sem.run Tryz.prog (Instr.field 63 (.agg #[.bool nh, .bool nd, .string ⟨nk.toArray⟩]) 2) W = .ok (.string ⟨nk.toArray⟩) W := fun _ => rfl
            clear hcc HKL hbl
            go_wp2_with fail
            refine HCO.out.mono ?_
            rintro e w3 ⟨rfl, hw3⟩
            subst hw3
            go_wp2_with fail
            refine (HMK.out _ HFI.out.mn.md.rm).mono ?_
            rintro e w4 ⟨rfl, hb4⟩
            have HF4 := hid (HFI.out.below hb4)
            clear hb4 hmp hlk hfd
            cases mk
            · have HPS : Hid (F (i + 1) = ((F i).1, (F i).2 ++ [box])) := by apply hid; rw [HPX.out]; rfl
              obtain ⟨ao5, kc5, w5, hrun5, hfi5⟩ := STAYS.out w4 HF4.out
              have HR5 := hid hrun5
              have HF5 := hid hfi5
              clear hrun5 hfi5
              go_wp2_with (first | (at_builtin; refine wpList_append_run rfl (.tmp 42) (.tmp 44) 39 rfl (.slice au (F i).2.length ku) (.slice (some ⟨w4.heap.size, 0, none⟩) 1 1) (.slice ao5 ((F i).2.length + 1) kc5) w5 rfl rfl HR5.out ?_) | fail)
              go_roundg (n - (i + 1))
              case measure => omega
              case rel =>
                refine ⟨i + 1, am, km, ao5, kc5, by omega, rfl, by go_num, ?_, ?_, ?_⟩
                · rw [HPS.out]
                · rw [HPS.out]; simp
                · rw [HPS.out]; simpa using HF5.out
            · have HPS : Hid (F (i + 1) = (openF (F i).1 box, (F i).2)) := by apply hid; rw [HPX.out]; rfl
              have HO5 := hid (HOP.out rfl w4 HF4.out.mn)
              have HOK := hid (HOO.out rfl)
              go_wp2_with fail
              refine HO5.out.mono ?_
              rintro e w5 ⟨v5, rfl, hmn5, hkp5⟩
              have HF5 := hid (HF4.out.opened hmn5 hkp5 HOK.out)
              obtain ⟨am5, km5, hv5⟩ := own_shape hmn5.row
              subst hv5
              clear hmn5 hkp5
              go_wp2_with fail
              go_roundg (n - (i + 1))
              case measure => omega
              case rel =>
                refine ⟨i + 1, am5, km5, au, ku, by omega, rfl, by go_num, ?_, ?_, ?_⟩
                · rw [HPS.out]
                · rw [HPS.out]
                · rw [HPS.out]; exact HF5.out
        · obtain rfl : i = n := by omega
          have HFI1 := HFI
          clear HFI
          go_wp2_with fail
          go_roundg (2 * nu U (F i).1.1 + (if (F i).1.2 = [] then 0 else 1))
          case measure =>
            have h1 := (HFB.out i).2.1
            try rw [if_neg HNN.out]
            by_cases e : (F i).1.2 = []
            · rw [if_pos e]; omega
            · rw [if_neg e]; have := List.length_pos_iff.2 e; omega
          case rel =>
            have hfi := HFI1.out
            have hb := HFB.out i
            refine ⟨(F i).1.1, (F i).1.2, (F i).2, am, km, au, ku, rfl, rfl, rfl, ⟨hfi.mn, hfi.trow, hfi.a3.symm, ⟨hfi.kp.os, hfi.kp.tape, hfi.kp.output, hfi.kp.size, hfi.kp.block, fun g e => Or.inr (hfi.nt g e)⟩, hb.1, ?_, ?_, hfi.g0, ?_⟩, fun M hM => ?_⟩
            · rw [HN.out]; exact HFM.out.1
            · rw [HN.out]; exact HFM.out.2
            · have h2 := hb.2.1; have h3 := hb.2.2; have h4 := HSB2.out; omega
            · refine HFO.out M (Follow.step HNN.out ?_)
              rw [HN.out, HFE.out] at hM
              exact hM
end Go.Proofs.YtkifchjpgdmcoaaGreatDoor

/- Going over no notes. -/
namespace Go.Proofs.YtkifchjpgdmcoaaGreatDoor
open Go.RowKit Go.Maps Go.WideElems

set_option maxRecDepth 100000 in
set_option maxHeartbeats 2000000 in
theorem look_none (w : World) (p : Nat) (N : NM) (h : Rm w p none N) :
    Calls Tryz.prog 29 #[.pointer (some ⟨p, 0, none⟩)] w fun e w' => e = .returned (.tuple #[.int .i64 0, .slice none 0 0]) ∧ Below w.heap.size w w' := by
  have hc := h.cell
  have hrg := run_range_nilMap (P := Tryz.prog) w 59 22 63 Tryz.underlying59
  have hnx : ∀ ty, (Instr.next (.pointer (some ⟨w.heap.size, 0, none⟩)) false ty).run Tryz.prog (w.alloc (.mapIter none 0 #[] 0)) = _ := fun ty => run_next_nilMap w ty 0 0 #[]
  go_enter Tryz.func29, Tryz.ntmps29
  go_wp2
  refine wp_loop_rounds 1 ?_
  rw [rounds_succ]
  go_wp2
  go_ret2
  exact ⟨rfl, (Below.refl _ _).alloc (Nat.le_refl _) _⟩
end Go.Proofs.YtkifchjpgdmcoaaGreatDoor
