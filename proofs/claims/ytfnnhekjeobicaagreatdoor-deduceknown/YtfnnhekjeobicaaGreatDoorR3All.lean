import Derived.Test.YtfnnhekjeobicaaGreatDoorMi
import Derived.Test.YtfnnhekjeobicaaGreatDoorMoreM
import Derived.Test.YtfnnhekjeobicaaGreatDoorSmAll
import Derived.Test.YtfnnhekjeobicaaGreatDoorOpAll
/- The document's deduction: secrets of public keys, and what stands within. -/
namespace Go.Proofs.YtfnnhekjeobicaaGreatDoor


/-- what Secret answers, for terms so deep -/
def secF : Nat → Bs → Bs × Bool
  | 0, _ => ([], false)
  | n + 1, p => if Tm.deep p = 0 then ([], false) else
    if p.head? = some 80 then ((Tm.kidsOf 63 p).headD [], true) else
    if p.head? = some 87 then (match Tm.kidsOf 63 p with | [a, b] => ((twoRes 86 (secF n a).1 (secF n b).1).1, (twoRes 86 (secF n a).1 (secF n b).1).2 == 0) | _ => ([], false)) else
    if p.head? = some 76 then (match Tm.kidsOf 63 p with | [a, b] => ((twoRes 75 (secF n a).1 b).1, (twoRes 75 (secF n a).1 b).2 == 0) | _ => ([], false)) else ([], false)
theorem sec_not {n : Nat} {p : Bs} (h : Tm.isPk p.head? = false) : secF n p = ([], false) := by
  cases n with
  | zero => rfl
  | succ n =>
    have h1 : p.head? ≠ some 80 := fun e => by rw [e] at h; cases h
    have h2 : p.head? ≠ some 87 := fun e => by rw [e] at h; cases h
    have h3 : p.head? ≠ some 76 := fun e => by rw [e] at h; cases h
    unfold secF
    rw [if_neg h1, if_neg h2, if_neg h3]
    split <;> rfl
theorem sec_wrong {n : Nat} {p : Bs} (h : Tm.deep p = 0) : secF n p = ([], false) := by
  cases n with
  | zero => rfl
  | succ n => unfold secF; rw [if_pos h]
/-- the secret of a right public key -/
structure Sec (p s : Bs) : Prop where
  right : Tm.deep s ≠ 0
  deep : Tm.deep s ≤ Tm.deep p
  len : s.length < p.length
  pk : Tm.pk s = p
theorem joint_inv {c : UInt8} {l : Bs} (h : Tm.deep (c :: l) ≠ 0) (hc : c = 87 ∨ c = 76) : ∃ a b, l = a ++ b ∧ Tm.kidsOf 63 (c :: l) = [a, b] ∧ Tm.Is (Tm.deep a) a ∧ Tm.Is (Tm.deep b) b ∧ Tm.deep (c :: l) = max (Tm.deep a) (Tm.deep b) + 1 ∧ Tm.isPk a.head? = true ∧ (c = 87 → Tm.isPk b.head? = true) := by
  obtain ⟨hi, hl⟩ := Tm.deep_is h
  have hr := hi.2.2 64 [] (Tm.deep_le _)
  rw [List.append_nil] at hr
  rw [Tm.rd_cons] at hr
  have c1 : c ≠ 110 := by rcases hc with e | e <;> rw [e] <;> decide
  have c2 : c ≠ 116 := by rcases hc with e | e <;> rw [e] <;> decide
  have c3 : c ≠ 84 := by rcases hc with e | e <;> rw [e] <;> decide
  have c4 : c ≠ 80 := by rcases hc with e | e <;> rw [e] <;> decide
  have c5 : c ≠ 72 := by rcases hc with e | e <;> rw [e] <;> decide
  have c6 : ¬ Tm.isTwo c = true := by rcases hc with e | e <;> rw [e] <;> decide
  have c7 : c ≠ 88 := by rcases hc with e | e <;> rw [e] <;> decide
  rw [if_neg c1, if_neg c2, if_neg c3, if_neg c4, if_neg c5, if_neg c6, if_neg c7] at hr
  have key : ∃ d r r', Tm.twoA (Tm.rd 63) l = some (d, r, r') ∧ r' = [] ∧ d = Tm.deep (c :: l) ∧ Tm.isPk l.head? = true ∧ (c = 87 → Tm.isPk r.head? = true) := by
    rcases hc with rfl | rfl
    · rw [if_pos rfl] at hr
      unfold Tm.jointA at hr
      cases e : Tm.twoA (Tm.rd 63) l with
      | none => rw [e] at hr; cases hr
      | some x =>
        obtain ⟨d, r, r'⟩ := x
        rw [e] at hr
        simp only [] at hr
        by_cases g : (Tm.isPk l.head? && Tm.isPk r.head?) = true
        · rw [if_pos g] at hr
          cases hr
          have g2 := Bool.and_eq_true_iff.1 g
          exact ⟨_, _, _, rfl, rfl, rfl, g2.1, fun _ => g2.2⟩
        · rw [if_neg g] at hr; cases hr
    · rw [if_neg (by decide), if_pos rfl] at hr
      unfold Tm.boundA at hr
      cases e : Tm.twoA (Tm.rd 63) l with
      | none => rw [e] at hr; cases hr
      | some x =>
        obtain ⟨d, r, r'⟩ := x
        rw [e] at hr
        simp only [] at hr
        by_cases g : Tm.isPk l.head? = true
        · rw [if_pos g] at hr
          cases hr
          exact ⟨_, _, _, rfl, rfl, rfl, g, fun e => by cases e⟩
        · rw [if_neg g] at hr; cases hr
  obtain ⟨d, r, r', e1, rfl, rfl, g1, g2⟩ := key
  obtain ⟨p, q, a, b, el, er, ed, ha, hb, ip, iq⟩ := Tm.two_good (Tm.rd_good 63) e1
  rw [List.append_nil] at el er
  subst el
  subst er
  have hlp : p.length ≤ 16384 ∧ r.length ≤ 16384 := by
    simp only [List.length_cons, List.length_append] at hl
    omega
  have dp := Tm.is_deep ip (by omega) hlp.1
  have dq := Tm.is_deep iq (by omega) hlp.2
  rw [Tm.head_app ip.2.1] at g1
  exact ⟨p, r, rfl, kids_of_two ip iq ha hb c1 c2 c3 c4 c5, by rw [dp]; exact ip, by rw [dq]; exact iq, by rw [dp, dq]; exact ed, g1, g2⟩
theorem sec_spec : ∀ (n : Nat) (p : Bs), Tm.deep p ≠ 0 → Tm.deep p ≤ n → Tm.isPk p.head? = true → ∃ s, secF n p = (s, true) ∧ Sec p s
  | 0, p, h, hn, _ => by omega
  | n + 1, p, h, hn, hp => by
    unfold secF
    rw [if_neg h]
    cases p with
    | nil => cases hp
    | cons c l =>
      have hc : c = 80 ∨ c = 87 ∨ c = 76 := by
        simp [Tm.isPk] at hp
        rcases hp with (e | e) | e
        · exact Or.inl e
        · exact Or.inr (Or.inl e)
        · exact Or.inr (Or.inr e)
      rcases hc with rfl | hc
      · rw [if_pos (show (80 :: l : Bs).head? = some 80 from rfl)]
        obtain ⟨h1, h2, h3, h4⟩ := pub_kid h
        have h5 := Tm.kids_right h (k := l) (by rw [h1]; simp)
        rw [h1]
        refine ⟨l, rfl, h2, by omega, h5.2.2.1, ?_⟩
        exact Tm.pk_else (Tm.deep_is h2).1 (Tm.deep_le _) h3 h4
      · obtain ⟨a, b, rfl, hk, ia, ib, hd, g1, g2⟩ := joint_inv h hc
        have hl := (Tm.deep_is h).2
        have hda : Tm.deep a ≠ 0 := by have := ia.1; omega
        have hdb : Tm.deep b ≠ 0 := by have := ib.1; omega
        obtain ⟨sa, ea, qa⟩ := sec_spec n a hda (by omega) g1
        have h64 := Tm.deep_le (c :: (a ++ b))
        have isa := (Tm.deep_is qa.right).1
        simp only [List.length_cons, List.length_append] at hl
        rcases hc with rfl | rfl
        · rw [if_neg (show ¬ (87 :: (a ++ b) : Bs).head? = some 80 by simp), if_pos (show (87 :: (a ++ b) : Bs).head? = some 87 from rfl), hk]
          obtain ⟨sb, eb, qb⟩ := sec_spec n b hdb (by omega) (g2 rfl)
          have isb := (Tm.deep_is qb.right).1
          have l1 := qa.len
          have l2 := qb.len
          have d1 := qa.deep
          have d2 := qb.deep
          have hi := Tm.is_two (c := 86) isa isb (by decide)
          have hdd := Tm.is_deep hi (by omega) (by simp; omega)
          have e2 : twoRes 86 sa sb = (86 :: (sa ++ sb), 0) := by
            unfold twoRes madeRes
            rw [if_neg (by have := qa.right; have := qb.right; omega), if_neg (by omega)]
          simp only [ea, eb, e2]
          refine ⟨_, rfl, by omega, by omega, by simp; omega, ?_⟩
          rw [Tm.pk_join isa isb (by omega) (by omega), qa.pk, qb.pk]
        · rw [if_neg (show ¬ (76 :: (a ++ b) : Bs).head? = some 80 by simp), if_neg (show ¬ (76 :: (a ++ b) : Bs).head? = some 87 by simp), if_pos (show (76 :: (a ++ b) : Bs).head? = some 76 from rfl), hk]
          have l1 := qa.len
          have d1 := qa.deep
          have hi := Tm.is_two (c := 75) isa ib (by decide)
          have hdd := Tm.is_deep hi (by omega) (by simp; omega)
          have e2 : twoRes 75 sa b = (75 :: (sa ++ b), 0) := by
            unfold twoRes madeRes
            rw [if_neg (by have := qa.right; omega), if_neg (by omega)]
          simp only [ea, e2]
          refine ⟨_, rfl, by omega, by omega, by simp; omega, ?_⟩
          rw [Tm.pk_bind isa ib (by omega) (by omega), qa.pk]
/-- the secret of a public key, or none -/
def sec (p : Bs) : Bs × Bool := secF 64 p
theorem sec_yes {p s : Bs} (h : sec p = (s, true)) : Tm.deep p ≠ 0 ∧ Tm.isPk p.head? = true ∧ Sec p s := by
  by_cases h1 : Tm.deep p = 0
  · unfold sec at h; rw [sec_wrong h1] at h; cases h
  · cases h2 : Tm.isPk p.head? with
    | false => unfold sec at h; rw [sec_not h2] at h; cases h
    | true =>
      obtain ⟨s', e, q⟩ := sec_spec 64 p h1 (Tm.deep_le _) h2
      unfold sec at h
      rw [e] at h
      cases h
      exact ⟨h1, rfl, q⟩
theorem sec_ok {p : Bs} (h1 : Tm.deep p ≠ 0) (h2 : Tm.isPk p.head? = true) : ∃ s, sec p = (s, true) ∧ Sec p s := sec_spec 64 p h1 (Tm.deep_le _) h2

/-- a right term has two bytes at least -/
theorem two_long (x : Bs) (h : Tm.deep x ≠ 0) : 2 ≤ x.length := by
  cases x with
  | nil => exact absurd rfl h
  | cons c l =>
    cases l with
    | cons d l => simp
    | nil =>
      exfalso
      obtain ⟨hi, _⟩ := Tm.deep_is h
      have hr := hi.2.2 64 [] (Tm.deep_le _)
      rw [List.append_nil, Tm.rd_cons] at hr
      have e0 : Tm.rd 63 [] = none := rfl
      have e1 : Tm.num 59 [] = none := rfl
      have e2 : Tm.num 58 [] = none := rfl
      have e3 : Tm.twoA (Tm.rd 63) [] = none := rfl
      simp [Tm.nameA, Tm.textA, Tm.tupleA, Tm.pubA, Tm.oneA, Tm.two2, Tm.agreeA, Tm.jointA, Tm.boundA, e0, e1, e2, e3] at hr
/-- what must stand in a list with a term: its parts, its secret, the public keys of what it was agreed of -/
inductive Nx (t : Bs) : Bs → Prop
  | kid {k : Bs} : k ∈ kidsR t → Nx t k
  | sec {s : Bs} : sec t = (s, true) → Nx t s
  | key {k : Bs} : Tm.deep t ≠ 0 → t.head? = some 88 → k ∈ Tm.kidsOf 63 t → Tm.deep (80 :: k) ≠ 0 → Nx t (80 :: k)
/-- what the walk through a term leaves: the list, all that stands within, nothing twice, and of each new one all that must stand with it -/
structure Wi (V l : List Bs) (t : Bs) (r : List Bs) : Prop where
  sub : ∀ x ∈ l, x ∈ r
  here : t ∈ r
  nodup : r.Nodup
  inn : ∀ x ∈ r, x ∈ l ∨ x ∈ V
  new : ∀ x ∈ r, x ∉ l → ∀ y, Nx x y → y ∈ r
/-- a row of such walks -/
structure Wr (V l : List Bs) (P : Bs → Prop) (r : List Bs) : Prop where
  sub : ∀ x ∈ l, x ∈ r
  here : ∀ t, P t → t ∈ r
  nodup : r.Nodup
  inn : ∀ x ∈ r, x ∈ l ∨ x ∈ V
  new : ∀ x ∈ r, x ∉ l → ∀ y, Nx x y → y ∈ r
theorem Wr.refl {V l : List Bs} (h : l.Nodup) : Wr V l (fun _ => False) l := ⟨fun _ h => h, fun _ h => h.elim, h, fun _ h => Or.inl h, fun _ h g => absurd h g⟩
theorem Wr.step {V l r q : List Bs} {P : Bs → Prop} {t : Bs} (h : Wr V l P r) (g : Wi V r t q) : Wr V l (fun x => x = t ∨ P x) q where
  sub x hx := g.sub x (h.sub x hx)
  here x hx := by
    rcases hx with rfl | hx
    · exact g.here
    · exact g.sub x (h.here x hx)
  nodup := g.nodup
  inn x hx := by
    rcases g.inn x hx with a | a
    · exact h.inn x a
    · exact Or.inr a
  new x hx hn y hy := by
    by_cases a : x ∈ r
    · exact g.sub y (h.new x a hn y hy)
    · exact g.new x hx a y hy
theorem Wr.weak {V l r : List Bs} {P Q : Bs → Prop} (h : Wr V l P r) (hq : ∀ t, Q t → P t) : Wr V l Q r := ⟨h.sub, fun t a => h.here t (hq t a), h.nodup, h.inn, h.new⟩
/-- a term that was put in, and then all that must stand with it -/
theorem Wi.of {V l r : List Bs} {t : Bs} (hn : t ∉ l) (htV : t ∈ V) (h : Wr V (l ++ [t]) (Nx t) r) : Wi V l t r where
  sub x hx := h.sub x (by simp [hx])
  here := h.sub t (by simp)
  nodup := h.nodup
  inn x hx := by
    rcases h.inn x hx with a | a
    · rcases List.mem_append.1 a with b | b
      · exact Or.inl b
      · simp at b; subst b; exact Or.inr htV
    · exact Or.inr a
  new x hx hnx y hy := by
    by_cases e : x = t
    · subst e; exact h.here y hy
    · exact h.new x hx (by simp [hnx, e]) y hy
theorem Wi.old {V l : List Bs} {t : Bs} (hl : l.Nodup) (h : t ∈ l) : Wi V l t l := ⟨fun _ a => a, h, hl, fun _ a => Or.inl a, fun _ a b => absurd a b⟩
/-- all that stands next to a term is right and shorter -/
theorem Nx.less {t y : Bs} (h : Nx t y) : Tm.deep y ≠ 0 ∧ y.length < t.length := by
  cases h with
  | kid hk =>
    unfold kidsR at hk
    split at hk
    · cases hk
    · rename_i hd
      have := Tm.kids_right hd hk
      exact ⟨this.1, this.2.2.1⟩
  | sec hs =>
    obtain ⟨_, _, q⟩ := sec_yes hs
    exact ⟨q.right, q.len⟩
  | key hd h88 hk hr =>
    refine ⟨hr, ?_⟩
    obtain ⟨a, b, hab⟩ := agree_kids hd h88
    have hsum := kids_sum_all (ne_of_right hd)
    rw [hab] at hk hsum
    simp at hk hsum
    have ha := Tm.kids_right hd (k := a) (by rw [hab]; simp)
    have hb := Tm.kids_right hd (k := b) (by rw [hab]; simp)
    have la := Tm.len_pos (Tm.deep_is ha.1).1
    have lb := Tm.len_pos (Tm.deep_is hb.1).1
    have l2 : ∀ x : Bs, Tm.deep x ≠ 0 → 2 ≤ x.length := two_long
    have := l2 a ha.1
    have := l2 b hb.1
    rcases hk with rfl | rfl <;> simp <;> omega
end Go.Proofs.YtfnnhekjeobicaaGreatDoor

/- All that stands within terms, as a list. -/
namespace Go.Proofs.YtfnnhekjeobicaaGreatDoor

theorem sec_uniq {p s t : Bs} (h : Sec p s) (g : Sec p t) : s = t := by
  have h1 := (Tm.deep_is h.right).1
  have g1 := (Tm.deep_is g.right).1
  exact (Tm.pk_inj s.length (x := []) (y := []) (Nat.le_refl _) h1 g1 (Tm.deep_le _) (Tm.deep_le _) (by rw [h.pk, g.pk])).1
theorem sec_is {p s : Bs} (h : Sec p s) (h1 : Tm.deep p ≠ 0) (h2 : Tm.isPk p.head? = true) : sec p = (s, true) := by
  obtain ⟨t, e, q⟩ := sec_ok h1 h2
  rw [e, sec_uniq h q]
/-- a term and all its parts -/
def subsA : Nat → Bs → List Bs
  | 0, t => [t]
  | n + 1, t => t :: (kidsR t).flatMap (subsA n)
theorem subsA_self (n : Nat) (t : Bs) : t ∈ subsA n t := by cases n <;> simp [subsA]
theorem flat_len {f : Bs → List Bs} : ∀ (ks : List Bs), (∀ k ∈ ks, (f k).length ≤ k.length) → (ks.flatMap f).length ≤ (ks.map List.length).sum
  | [], _ => by simp
  | k :: ks, h => by
    have := flat_len ks (fun x hx => h x (by simp [hx]))
    have := h k (by simp)
    simp only [List.flatMap_cons, List.length_append, List.map_cons, List.sum_cons]
    omega
theorem subsA_len : ∀ (n : Nat) (t : Bs), Tm.deep t ≠ 0 → (subsA n t).length ≤ t.length
  | 0, t, h => by
    have := Tm.len_pos (Tm.deep_is h).1
    simpa [subsA] using this
  | n + 1, t, h => by
    have hs := kids_sum_all (ne_of_right h)
    have hk : kidsR t = Tm.kidsOf 63 t := by unfold kidsR; rw [if_neg h]
    have := flat_len (f := subsA n) (kidsR t) (fun k hk' => subsA_len n k (by rw [hk] at hk'; exact (Tm.kids_right h hk').1))
    rw [hk] at this
    simp only [subsA, List.length_cons]
    rw [hk]
    omega
theorem subsA_kid : ∀ (n : Nat) (t : Bs), Tm.deep t ≤ n → ∀ x ∈ subsA n t, ∀ k ∈ kidsR x, k ∈ subsA n t
  | 0, t, h, x, hx, k, hk => by
    simp [subsA] at hx
    subst hx
    have := kidsR_right hk
    omega
  | n + 1, t, h, x, hx, k, hk => by
    simp only [subsA, List.mem_cons, List.mem_flatMap] at hx ⊢
    rcases hx with rfl | ⟨y, hy, hx⟩
    · exact Or.inr ⟨k, hk, subsA_self n k⟩
    · have := kidsR_right hy
      exact Or.inr ⟨y, hy, subsA_kid n y (by omega) x hx k hk⟩
/-- all that can stand within these -/
def withinV (S : List Bs) : List Bs := S ++ (S.map (fun x => (sec x).1) ++ S.map (fun x => 80 :: x))
theorem withinV_len (S : List Bs) : (withinV S).length = 3 * S.length := by
  unfold withinV
  simp
  omega
theorem withinV_closed {S : List Bs} (hS : ∀ x ∈ S, ∀ k ∈ kidsR x, k ∈ S) {x y : Bs} (hx : x ∈ withinV S) (h : Nx x y) : y ∈ withinV S := by
  have inS : ∀ {z : Bs}, z ∈ S → z ∈ withinV S := fun hz => by unfold withinV; simp [hz]
  have inSec : ∀ {z s : Bs}, z ∈ S → sec z = (s, true) → s ∈ withinV S := fun {z s} hz e => by
    unfold withinV
    simp only [List.mem_append, List.mem_map]
    exact Or.inr (Or.inl ⟨z, hz, by rw [e]⟩)
  have inKey : ∀ {z : Bs}, z ∈ S → (80 :: z) ∈ withinV S := fun {z} hz => by
    unfold withinV
    simp only [List.mem_append, List.mem_map]
    exact Or.inr (Or.inr ⟨z, hz, rfl⟩)
  have caseS : ∀ z ∈ S, Nx z y → y ∈ withinV S := fun z hz h => by
    cases h with
    | kid hk => exact inS (hS z hz _ hk)
    | sec hs => exact inSec hz hs
    | key hd h88 hk hr => exact inKey (hS z hz _ (by unfold kidsR; rw [if_neg hd]; exact hk))
  unfold withinV at hx
  simp only [List.mem_append, List.mem_map] at hx
  rcases hx with hx | ⟨z, hz, rfl⟩ | ⟨z, hz, rfl⟩
  · exact caseS x hx h
  · obtain ⟨s, b, e⟩ : ∃ s b, sec z = (s, b) := ⟨_, _, rfl⟩
    rw [e] at h
    simp only [] at h
    cases b with
    | false =>
      have e0 : s = [] := by
        by_cases h1 : Tm.deep z = 0
        · unfold sec at e; rw [sec_wrong h1] at e; cases e; rfl
        · cases h2 : Tm.isPk z.head? with
          | false => unfold sec at e; rw [sec_not h2] at e; cases e; rfl
          | true =>
            obtain ⟨t, e2, _⟩ := sec_ok h1 h2
            rw [e2] at e
            cases e
      subst e0
      have d0 : Tm.deep [] = 0 := rfl
      cases h with
      | kid hk => unfold kidsR at hk; rw [if_pos d0] at hk; cases hk
      | sec hs => exact absurd d0 (sec_yes hs).1
      | key hd _ _ _ => exact absurd d0 hd
    | true =>
      obtain ⟨h1, h2, q⟩ := sec_yes e
      cases z with
      | nil => cases h2
      | cons c l =>
        have hkz : kidsR (c :: l) = Tm.kidsOf 63 (c :: l) := by unfold kidsR; rw [if_neg h1]
        have hc : c = 80 ∨ c = 87 ∨ c = 76 := by
          simp [Tm.isPk] at h2
          rcases h2 with (e | e) | e
          · exact Or.inl e
          · exact Or.inr (Or.inl e)
          · exact Or.inr (Or.inr e)
        rcases hc with rfl | hc
        · obtain ⟨k1, k2, k3, k4⟩ := pub_kid h1
          have k5 := Tm.kids_right h1 (k := l) (by rw [k1]; simp)
          have q2 : Sec (80 :: l) l := ⟨k2, by omega, k5.2.2.1, Tm.pk_else (Tm.deep_is k2).1 (Tm.deep_le _) k3 k4⟩
          obtain rfl := sec_uniq q q2
          exact caseS s (hS _ hz _ (by rw [hkz, k1]; simp)) h
        · obtain ⟨a, b, rfl, hk, ia, ib, hd, g1, g2⟩ := joint_inv h1 hc
          have ha : a ∈ S := hS _ hz _ (by rw [hkz, hk]; simp)
          have hb : b ∈ S := hS _ hz _ (by rw [hkz, hk]; simp)
          have hda : Tm.deep a ≠ 0 := by have := ia.1; omega
          have hdb : Tm.deep b ≠ 0 := by have := ib.1; omega
          obtain ⟨sa, ea, qa⟩ := sec_ok hda g1
          have isa := (Tm.deep_is qa.right).1
          have h64 := Tm.deep_le (c :: (a ++ b))
          have hl := (Tm.deep_is h1).2
          simp only [List.length_cons, List.length_append] at hl
          have l1 := qa.len
          have d1 := qa.deep
          rcases hc with rfl | rfl
          · obtain ⟨sb, eb, qb⟩ := sec_ok hdb (g2 rfl)
            have isb := (Tm.deep_is qb.right).1
            have l2 := qb.len
            have d2 := qb.deep
            have hi := Tm.is_two (c := 86) isa isb (by decide)
            have hdd := Tm.is_deep hi (by omega) (by simp; omega)
            have q2 : Sec (87 :: (a ++ b)) (86 :: (sa ++ sb)) := ⟨by omega, by omega, by simp; omega, by rw [Tm.pk_join isa isb (by omega) (by omega), qa.pk, qb.pk]⟩
            obtain rfl := sec_uniq q q2
            have hks := kids_of_two (c := 86) isa isb (by omega) (by omega) (by decide) (by decide) (by decide) (by decide) (by decide)
            cases h with
            | kid hk2 =>
              unfold kidsR at hk2
              rw [if_neg (by omega), hks] at hk2
              simp at hk2
              rcases hk2 with rfl | rfl
              · exact inSec ha ea
              · exact inSec hb eb
            | sec hs => have := (sec_yes hs).2.1; cases this
            | key _ h88 _ _ => cases h88
          · have hi := Tm.is_two (c := 75) isa ib (by decide)
            have hdd := Tm.is_deep hi (by omega) (by simp; omega)
            have q2 : Sec (76 :: (a ++ b)) (75 :: (sa ++ b)) := ⟨by omega, by omega, by simp; omega, by rw [Tm.pk_bind isa ib (by omega) (by omega), qa.pk]⟩
            obtain rfl := sec_uniq q q2
            have hks := kids_of_two (c := 75) isa ib (by omega) (by omega) (by decide) (by decide) (by decide) (by decide) (by decide)
            cases h with
            | kid hk2 =>
              unfold kidsR at hk2
              rw [if_neg (by omega), hks] at hk2
              simp at hk2
              rcases hk2 with rfl | rfl
              · exact inSec ha ea
              · exact inS hb
            | sec hs => have := (sec_yes hs).2.1; cases this
            | key _ h88 _ _ => cases h88
  · cases h with
    | kid hk =>
      unfold kidsR at hk
      split at hk
      · cases hk
      · rename_i hd
        rw [(pub_kid hd).1] at hk
        simp at hk
        subst hk
        exact inS hz
    | sec hs =>
      obtain ⟨h1, _, q⟩ := sec_yes hs
      obtain ⟨k1, k2, k3, k4⟩ := pub_kid h1
      have k5 := Tm.kids_right h1 (k := z) (by rw [k1]; simp)
      have q2 : Sec (80 :: z) z := ⟨k2, by omega, k5.2.2.1, Tm.pk_else (Tm.deep_is k2).1 (Tm.deep_le _) k3 k4⟩
      obtain rfl := sec_uniq q q2
      exact inS hz
    | key _ h88 _ _ => cases h88
/-- a universe for these -/
theorem withinV_of {L : List Bs} (h : ∀ t ∈ L, Tm.deep t ≠ 0) : ∃ V : List Bs, (∀ t ∈ L, t ∈ V) ∧ (∀ x ∈ V, ∀ y, Nx x y → y ∈ V) ∧ V.length ≤ 3 * (L.map List.length).sum := by
  refine ⟨withinV (L.flatMap (subsA 64)), fun t ht => ?_, fun x hx y hy => withinV_closed (fun z hz k hk => ?_) hx hy, ?_⟩
  · unfold withinV
    simp only [List.mem_append, List.mem_flatMap]
    exact Or.inl ⟨t, ht, subsA_self 64 t⟩
  · obtain ⟨t, ht, hz⟩ := List.mem_flatMap.1 hz
    exact List.mem_flatMap.2 ⟨t, ht, subsA_kid 64 t (Tm.deep_le _) z hz k hk⟩
  · rw [withinV_len]
    have := flat_len (f := subsA 64) L (fun k hk => subsA_len 64 k (h k hk))
    omega
end Go.Proofs.YtfnnhekjeobicaaGreatDoor

/- The document's rules, as its functions ask for them, make just what can be made. -/
namespace Go.Proofs.YtfnnhekjeobicaaGreatDoor

/-- what a term gives, taken apart -/
def partsR (M : List Bs) (t : Bs) : List Bs :=
  if t.head? = some 84 then kidsR t else
  if t.head? = some 66 then (match kidsR t with | [k, m] => if k ∈ M then [m] else [] | _ => []) else []
def wholeR (M : List Bs) (t : Bs) : Bool := (kidsR t).all (fun k => decide (k ∈ M))
def secR (M : List Bs) (t : Bs) : Bool := (sec t).2 && decide ((sec t).1 ∈ M)
/-- half of what makes an agreed secret -/
def halfR (M : List Bs) (a b : Bs) : Bool := (oneRes 80 b).2 == 0 && decide (a ∈ M) && decide ((oneRes 80 b).1 ∈ M)
/-- is there a rule that makes a right term? -/
def makesR (M : List Bs) (t : Bs) : Bool :=
  if t.head? = some 110 then false else
  if t.head? = some 88 then (match kidsR t with | [a, b] => halfR M a b || halfR M b a | _ => false) else
  if t.head? = some 80 then secR M t else
  if t.head? = some 87 ∨ t.head? = some 76 then wholeR M t || secR M t else wholeR M t
theorem one_key {b : Bs} (h : (oneRes 80 b).2 = 0) : (oneRes 80 b).1 = 80 :: b ∧ Tm.deep (80 :: b) ≠ 0 := by
  unfold oneRes madeRes at h ⊢
  by_cases h1 : Tm.deep b = 0
  · rw [if_pos h1] at h; cases h
  · rw [if_neg h1] at h ⊢
    by_cases h2 : Tm.deep (80 :: b) = 0
    · rw [if_pos h2] at h; cases h
    · rw [if_neg h2]; exact ⟨rfl, h2⟩
theorem one_ok {b : Bs} (h : Tm.deep (80 :: b) ≠ 0) : oneRes 80 b = (80 :: b, 0) := by
  unfold oneRes madeRes
  rw [if_neg (pub_kid h).2.1, if_neg h]
theorem kidsR_of {t : Bs} (h : Tm.deep t ≠ 0) : kidsR t = Tm.kidsOf 63 t := by unfold kidsR; rw [if_neg h]
theorem sec_can {H : Bs → Prop} {t s : Bs} (e : sec t = (s, true)) (c : Can H s) : Can H t := by
  obtain ⟨h1, _, q⟩ := sec_yes e
  have hp := pub_ok q.right (by rw [q.pk]; exact h1)
  rw [q.pk] at hp
  have := Can.pub c (by rw [hp])
  rw [hp] at this
  exact this
theorem parts_can {H : Bs → Prop} {M : List Bs} (hM : ∀ x ∈ M, Can H x) {t : Bs} (ht : t ∈ M) (hd : Tm.deep t ≠ 0) : ∀ p ∈ partsR M t, Can H p := by
  intro p hp
  unfold partsR at hp
  by_cases h1 : t.head? = some 84
  · rw [if_pos h1, kidsR_of hd] at hp
    exact .part (hM t ht) h1 hp
  · rw [if_neg h1] at hp
    by_cases h2 : t.head? = some 66
    · rw [if_pos h2, kidsR_of hd] at hp
      split at hp
      · rename_i k m hk
        split at hp
        · rename_i hkM
          simp at hp
          subst hp
          exact .opened (hM t ht) h2 hk (hM k hkM)
        · cases hp
      · cases hp
    · rw [if_neg h2] at hp; cases hp
theorem parts_nx {M : List Bs} {t p : Bs} (hp : p ∈ partsR M t) : Nx t p := by
  unfold partsR at hp
  split at hp
  · exact .kid hp
  · split at hp
    · split at hp
      · rename_i k m hk
        split at hp
        · simp at hp
          subst hp
          exact .kid (by rw [hk]; simp)
        · cases hp
      · cases hp
    · cases hp
theorem makes_can {H : Bs → Prop} {M : List Bs} (hM : ∀ x ∈ M, Can H x) {t : Bs} (hd : Tm.deep t ≠ 0) (h : makesR M t = true) : Can H t := by
  have whole : t.head? ≠ some 110 → t.head? ≠ some 88 → wholeR M t = true → Can H t := fun h1 h2 h3 => by
    refine .whole hd h1 h2 (fun k hk => hM k ?_)
    unfold wholeR at h3
    rw [List.all_eq_true] at h3
    have := h3 k (by rw [kidsR_of hd]; exact hk)
    simpa using this
  have byS : secR M t = true → Can H t := fun h3 => by
    unfold secR at h3
    have h4 := Bool.and_eq_true_iff.1 h3
    exact sec_can (s := (sec t).1) (by rw [← h4.1]) (hM _ (by simpa using h4.2))
  unfold makesR at h
  by_cases h1 : t.head? = some 110
  · rw [if_pos h1] at h; cases h
  · rw [if_neg h1] at h
    by_cases h2 : t.head? = some 88
    · rw [if_pos h2, kidsR_of hd] at h
      split at h
      · rename_i a b hk
        have half : ∀ x y, halfR M x y = true → Can H x ∧ Tm.deep (80 :: y) ≠ 0 ∧ Can H (80 :: y) := fun x y g => by
          unfold halfR at g
          have g1 := Bool.and_eq_true_iff.1 g
          have g2 := Bool.and_eq_true_iff.1 g1.1
          obtain ⟨e1, e2⟩ := one_key (by simpa using g2.1)
          rw [e1] at g1
          exact ⟨hM _ (by simpa using g2.2), e2, hM _ (by simpa using g1.2)⟩
        rcases Bool.or_eq_true_iff.1 h with g | g
        · obtain ⟨x1, x2, x3⟩ := half a b g
          exact .agree1 hd h2 hk x1 x2 x3
        · obtain ⟨x1, x2, x3⟩ := half b a g
          exact .agree2 hd h2 hk x1 x2 x3
      · cases h
    · rw [if_neg h2] at h
      by_cases h3 : t.head? = some 80
      · rw [if_pos h3] at h; exact byS h
      · rw [if_neg h3] at h
        by_cases h4 : t.head? = some 87 ∨ t.head? = some 76
        · rw [if_pos h4] at h
          rcases Bool.or_eq_true_iff.1 h with g | g
          · exact whole h1 h2 g
          · exact byS g
        · rw [if_neg h4] at h; exact whole h1 h2 h
/-- nothing more is to be done -/
structure Done (A M : List Bs) : Prop where
  open_ : ∀ a ∈ A, a ∈ M → ∀ p ∈ partsR M a, p ∈ M
  make : ∀ a ∈ A, a ∉ M → makesR M a = false
theorem done_local {A M : List Bs} (hA : ∀ x ∈ A, Tm.deep x ≠ 0) (hN : ∀ x ∈ A, ∀ y, Nx x y → y ∈ A) (h : Done A M) : Local (fun x => x ∈ A) (fun x => x ∈ M) := by
  have must : ∀ t, t ∈ A → makesR M t = true → t ∈ M := fun t ht hm => by
    apply Classical.byContradiction
    intro hn
    rw [h.make t ht hn] at hm
    cases hm
  have secM : ∀ t s, t ∈ A → sec t = (s, true) → s ∈ M → t ∈ M := fun t s ht e hs => by
    obtain ⟨h1, h2, q⟩ := sec_yes e
    refine must t ht ?_
    have hsr : secR M t = true := by unfold secR; rw [e]; simp [hs]
    have c1 : t.head? ≠ some 110 := fun e => by rw [e] at h2; cases h2
    have c2 : t.head? ≠ some 88 := fun e => by rw [e] at h2; cases h2
    unfold makesR
    rw [if_neg c1, if_neg c2]
    split
    · exact hsr
    · split
      · rw [hsr, Bool.or_true]
      · rename_i c3 c4
        exfalso
        simp [Tm.isPk] at h2
        rcases h2 with (x | x) | x
        · exact c3 x
        · exact c4 (Or.inl x)
        · exact c4 (Or.inr x)
  refine ⟨fun t k ht hk => hN t ht k (.kid (by rw [kidsR_of (hA t ht)]; exact hk)), fun t k ht h88 hk hr => hN t ht _ (.key (hA t ht) h88 hk hr), fun t ht hd h1 h2 hk => ?_, fun t a b ht hd h88 hk ha hb hb2 => must t ht ?_, fun t a b ht hd h88 hk ha hb hb2 => must t ht ?_, fun x hx hp ha => ?_, fun t k ht hA' h84 hk => ?_, fun t k m ht hA' h66 hk hkM => ?_⟩
  · have hw : wholeR M t = true := by
      unfold wholeR
      rw [List.all_eq_true]
      intro k hk2
      rw [kidsR_of hd] at hk2
      simpa using hk k hk2
    by_cases h80 : t.head? = some 80
    · obtain ⟨l, rfl⟩ : ∃ l, t = 80 :: l := by
        cases t with
        | nil => cases h80
        | cons c l => simp at h80; exact ⟨l, by rw [h80]⟩
      obtain ⟨k1, k2, k3, k4⟩ := pub_kid hd
      have k5 := Tm.kids_right hd (k := l) (by rw [k1]; simp)
      have q2 : Sec (80 :: l) l := ⟨k2, by omega, k5.2.2.1, Tm.pk_else (Tm.deep_is k2).1 (Tm.deep_le _) k3 k4⟩
      exact secM _ l ht (sec_is q2 hd rfl) (hk l (by rw [k1]; simp))
    · refine must t ht ?_
      unfold makesR
      rw [if_neg h1, if_neg h2, if_neg h80]
      split
      · rw [hw, Bool.true_or]
      · exact hw
  · unfold makesR
    rw [if_neg (by rw [h88]; decide), if_pos h88, kidsR_of hd, hk]
    have : halfR M a b = true := by unfold halfR; rw [one_ok hb]; simp [ha, hb2]
    simp only [this, Bool.true_or]
  · unfold makesR
    rw [if_neg (by rw [h88]; decide), if_pos h88, kidsR_of hd, hk]
    have : halfR M b a = true := by unfold halfR; rw [one_ok hb]; simp [ha, hb2]
    simp only [this, Bool.or_true]
  · obtain ⟨p1, p2, p3⟩ := pub_right hp
    have hdA := hA _ ha
    have hpk := pub_head hp
    obtain ⟨s, e, q⟩ := sec_ok hdA hpk
    have : s = x := by
      have i1 := (Tm.deep_is q.right).1
      have i2 := (Tm.deep_is p1).1
      exact (Tm.pk_inj s.length (x := []) (y := []) (Nat.le_refl _) i1 i2 (Tm.deep_le _) (Tm.deep_le _) (by rw [q.pk, p3])).1
    subst this
    exact secM _ s ha e hx
  · refine h.open_ t hA' ht k ?_
    unfold partsR
    rw [if_pos h84, kidsR_of (hA t hA')]
    exact hk
  · refine h.open_ t hA' ht m ?_
    unfold partsR
    rw [if_neg (by rw [h66]; decide), if_pos h66, kidsR_of (hA t hA'), hk]
    simp [hkM]
end Go.Proofs.YtfnnhekjeobicaaGreatDoor

/- ref03.has. -/
namespace Go.Proofs.YtfnnhekjeobicaaGreatDoor
open Go.RowKit Go.Maps Go.WideElems

set_option maxRecDepth 100000 in
set_option maxHeartbeats 2000000 in
theorem has_any (w : World) (ao : Option Addr) (cap : Nat) (l : List Bs) (t : Bs) (hk : Texts w (.slice ao l.length cap) l) (hl : l.length ≤ 1000000) :
    Calls Tryz.prog 65 #[.slice ao l.length cap, St t] w fun e w' => e = .returned (.bool (decide (t ∈ l))) ∧ w' = w := by
  have HC : Hid (∀ i (h : i < l.length), ∃ g o, ao = some ⟨g, o, none⟩ ∧ w.cell? ⟨g, o + i, none⟩ = some (St l[i])) := hid (fun i h => by
    obtain ⟨ao', cap', he, ht⟩ := hk
    cases he
    obtain ⟨g, o, e, hg, hc⟩ := ht (fun e => by rw [e] at h; simp at h)
    exact ⟨g, o, e, hc i h⟩)
  obtain ⟨q, hq⟩ : ∃ q, q = l.length := ⟨_, rfl⟩
  have HQ := hid hq
  rw [← hq] at hl ⊢
  clear hk hq
  go_enter Tryz.func65, Tryz.ntmps65
  go_wp2_with fail
  go_loopg [5] q (fun gg v wr => ∃ i : Nat, i ≤ q ∧ gg = q - i ∧ v = .int .i64 (i : Int) ∧ wr = w ∧ ∀ j (h : j < l.length), j < i → l[j] ≠ t)
  case atStart => exact ⟨0, by omega, by omega, rfl, rfl, fun j h hj => by omega⟩
  case round =>
    obtain ⟨i, hi, rfl, rfl, rfl, hall⟩ := hrel
    have HA := hid hall
    clear hall
    by_cases hil : i < q
    · have hi1 : (i : Int) < (q : Int) := by omega
      have hik : i < l.length := by rw [← HQ.out]; exact hil
      obtain ⟨g, o, hao, hc⟩ := HC.out i hik
      subst hao
      by_cases he : l[i] = t
      · have HM : Hid (t ∈ l) := hid (by rw [← he]; exact List.getElem_mem hik)
        rw [he] at hc
        clear he
        go_wp2_with fail
        go_ret
        exact ⟨by rw [decide_eq_true HM.out]; rfl, rfl⟩
      · have HE := hid he
        have hne : (l[i] == t) = false := by simpa using he
        clear he
        go_wp2_with fail
        go_roundg (q - (i + 1))
        case measure => omega
        case rel => exact ⟨i + 1, by omega, rfl, by go_num, rfl, fun j h hj => by
          by_cases e : j = i
          · subst e; exact HE.out
          · exact HA.out j h (by omega)⟩
    · have hi1 : ¬ (i : Int) < (q : Int) := by omega
      have HM : Hid (t ∉ l) := hid (fun hm => by
        obtain ⟨j, hj, e⟩ := List.getElem_of_mem hm
        exact HA.out j hj (by have := HQ.out; omega) e)
      go_wp2_with fail
      go_ret
      exact ⟨by rw [decide_eq_false HM.out]; rfl, rfl⟩
end Go.Proofs.YtfnnhekjeobicaaGreatDoor

/- ref03.Secret. -/
namespace Go.Proofs.YtfnnhekjeobicaaGreatDoor
open Go.RowKit Go.Maps Go.WideElems

/-- the document's Open: the op, and the parts -/
theorem dopen_any (t : Bs) (w : World) : Calls Tryz.prog 89 #[St t] w fun en w' => ∃ (c : UInt8) (n : Int) (x : ByteArray) (ao : Option Addr) (kc : Nat), en = .returned (.tuple #[.agg #[.int .u8 (c.toNat : Int), .int .i64 n, .string x, .slice ao (kidsR t).length kc], .bool (decide (Tm.deep t ≠ 0))]) ∧
      (Tm.deep t ≠ 0 → t.head? = some c) ∧ (Tm.deep t = 0 → c = 0) ∧ w'.ownsRow w.heap.size 29 1 (.slice ao (kidsR t).length kc) (kidsR t).length ((kidsR t).map St) ∧ Below w.heap.size w w' := by
  by_cases hd : Tm.deep t = 0
  · refine (ropen_no t w hd).mono ?_
    rintro e w' ⟨rfl, hb⟩
    have hk : kidsR t = [] := by unfold kidsR; rw [if_pos hd]
    refine ⟨0, 0, ⟨#[]⟩, none, 0, ?_, fun h => absurd hd h, fun _ => rfl, by rw [hk]; exact World.ownsRow_nil _ _ _ _, hb⟩
    rw [hk, decide_eq_false (by simpa using hd)]
    rfl
  · cases t with
    | nil => exact absurd rfl hd
    | cons c l =>
      refine (ropen_yes c l hd w).mono ?_
      rintro e w' ⟨kids, rfl, hown, hb⟩
      obtain ⟨ao, kc, rfl⟩ := own_shape hown
      rw [kidsR_of hd]
      exact ⟨c, _, _, ao, kc, by rw [decide_eq_true hd], fun _ => rfl, fun h => absurd h hd, hown, hb⟩
/-- what was opened lies there -/
structure Pk (xb : Nat) (c : UInt8) (ao : Option Addr) (kc : Nat) (ks : List Bs) (W : World) : Prop where
  op : W.cell? ⟨xb, 0, none⟩ = some (.int .u8 (c.toNat : Int))
  kids : W.cell? ⟨xb, 3, none⟩ = some (.slice ao ks.length kc)
  kid : ∀ i (h : i < ks.length), ∃ g, ao = some ⟨g, 0, none⟩ ∧ g < W.heap.size ∧ W.cell? ⟨g, i, none⟩ = some (St ks[i])
  lt : xb < W.heap.size
  klt : ∀ g, ao = some ⟨g, 0, none⟩ → g < W.heap.size
theorem Pk.below {xb : Nat} {c : UInt8} {ao : Option Addr} {kc : Nat} {ks : List Bs} {W W' : World} (h : Pk xb c ao kc ks W) (hb : Below W.heap.size W W') : Pk xb c ao kc ks W' where
  op := (hb.cell (p := ⟨xb, 0, none⟩) h.lt).trans h.op
  kids := (hb.cell (p := ⟨xb, 3, none⟩) h.lt).trans h.kids
  kid i hi := by
    obtain ⟨g, e, h1, h2⟩ := h.kid i hi
    exact ⟨g, e, Nat.lt_of_lt_of_le h1 hb.size, (hb.cell (p := ⟨g, i, none⟩) h1).trans h2⟩
  lt := Nat.lt_of_lt_of_le h.lt hb.size
  klt g e := Nat.lt_of_lt_of_le (h.klt g e) hb.size
theorem Pk.drew {xb : Nat} {c : UInt8} {ao : Option Addr} {kc : Nat} {ks : List Bs} {W : World} (h : Pk xb c ao kc ks W) : Pk xb c ao kc ks W.drew := ⟨h.op, h.kids, h.kid, h.lt, h.klt⟩
theorem Pk.new {w w1 : World} {c : UInt8} {n : Int} {x : ByteArray} {ao : Option Addr} {kc : Nat} {ks : List Bs} (ho : w1.ownsRow w.heap.size 29 1 (.slice ao ks.length kc) ks.length (ks.map St)) : Pk w1.heap.size c ao kc ks (w1.alloc (.cells #[.int .u8 (c.toNat : Int), .int .i64 n, .string x, .slice ao ks.length kc] 66)) := by
  have h1 := heap_alloc_new w1 (.cells #[.int .u8 (c.toNat : Int), .int .i64 n, .string x, .slice ao ks.length kc] 66)
  refine ⟨by rw [cell_of_heap h1]; rfl, by rw [cell_of_heap h1]; rfl, fun i hi => ?_, by simp, fun g e => by subst e; have := (own_ge ho (g := g) rfl).2; simp; omega⟩
  obtain ⟨g, kc', hv, hg1, hg2, hcs⟩ := row_cells ho (by omega)
  cases hv
  refine ⟨g, rfl, by simp; omega, ?_⟩
  rw [World.cell?_of_block (Below.heap_alloc w1 _ g hg2)]
  exact hcs i hi
theorem nat_beq0 (m : Nat) : ((m : Int) == 0) = (m == 0) := by rw [Bool.eq_iff_iff]; simp
theorem secF_succ (n : Nat) (p : Bs) : secF (n + 1) p = if Tm.deep p = 0 then ([], false) else
    if p.head? = some 80 then ((Tm.kidsOf 63 p).headD [], true) else
    if p.head? = some 87 then (match Tm.kidsOf 63 p with | [a, b] => ((twoRes 86 (secF n a).1 (secF n b).1).1, (twoRes 86 (secF n a).1 (secF n b).1).2 == 0) | _ => ([], false)) else
    if p.head? = some 76 then (match Tm.kidsOf 63 p with | [a, b] => ((twoRes 75 (secF n a).1 b).1, (twoRes 75 (secF n a).1 b).2 == 0) | _ => ([], false)) else ([], false) := rfl
def SecC (n : Nat) : Prop := ∀ (w : World) (t : Bs), Tm.deep t ≤ n → Calls Tryz.prog 108 #[St t] w fun e w' => e = .returned (.tuple #[St (secF n t).1, .bool (secF n t).2]) ∧ Below w.heap.size w w'
set_option maxRecDepth 100000 in
set_option maxHeartbeats 4000000 in
theorem secret_wrong (n : Nat) (w : World) (t : Bs) (hd : Tm.deep t = 0) : Calls Tryz.prog 108 #[St t] w fun e w' => e = .returned (.tuple #[St (secF n t).1, .bool (secF n t).2]) ∧ Below w.heap.size w w' := by
  rw [sec_wrong hd]
  have HO := hid (dopen_any t w)
  rw [decide_eq_false (by simpa using hd)] at HO
  clear hd
  go_enter Tryz.func108, Tryz.ntmps108
  go_wp2_with fail
  refine HO.out.mono ?_
  rintro e w1 ⟨c, n, x, ao, kc, rfl, hc, hc0, hown, hb⟩
  have HB := hid hb
  clear hb hc hc0 hown
  go_wp2_with fail
  go_ret2
  exact ⟨rfl, HB.out.alloc HB.out.size _⟩
set_option maxRecDepth 100000 in
set_option maxHeartbeats 8000000 in
theorem secret_step {n : Nat} (ih : SecC n) (w : World) (t : Bs) (hd : Tm.deep t ≠ 0) (hn : Tm.deep t ≤ n + 1) : Calls Tryz.prog 108 #[St t] w fun e w' => e = .returned (.tuple #[St (secF (n + 1) t).1, .bool (secF (n + 1) t).2]) ∧ Below w.heap.size w w' := by
  have HO := hid (dopen_any t w)
  rw [decide_eq_true hd] at HO
  have HD := hid hd
  have HN := hid hn
  have HK := hid (kidsR_of hd)
  have HI := hid ih
  clear hd hn ih
  go_enter Tryz.func108, Tryz.ntmps108
  go_wp2_with fail
  refine HO.out.mono ?_
  rintro e w1 ⟨c, n0, x, ao, kc, rfl, hc, hc0, hown, hb⟩
  have HC := hid (hc HD.out)
  have HP := hid (Pk.new (c := c) (n := n0) (x := x) hown)
  have HB : Hid (Below w.heap.size w (w1.alloc (.cells #[.int .u8 (c.toNat : Int), .int .i64 n0, .string x, .slice ao (kidsR t).length kc] 66))) := hid (hb.alloc hb.size _)
  clear hb hc hc0 hown HO
  go_upto_if 25 with fail
  generalize w1.alloc (.cells #[.int .u8 (c.toNat : Int), .int .i64 n0, .string x, .slice ao (kidsR t).length kc] 66) = w2 at HP HB ⊢
  obtain ⟨l, rfl⟩ : ∃ l, t = c :: l := by
    have h := HC.out
    cases t with
    | nil => cases h
    | cons d l => simp at h; exact ⟨l, by rw [h]⟩
  have hop := HP.out.op
  by_cases h80 : c = 80
  · subst h80
    have hkk : kidsR (80 :: l) = [l] := by rw [HK.out]; exact (pub_kid HD.out).1
    have HR : Hid (secF (n + 1) (80 :: l) = (l, true)) := hid (by rw [secF_succ, if_neg HD.out, if_pos (show (80 :: l : Bs).head? = some 80 from rfl), (pub_kid HD.out).1]; rfl)
    rw [hkk] at HP
    have hk3 := HP.out.kids
    obtain ⟨g, hao, hg, hk0⟩ := HP.out.kid 0 (by simp)
    subst hao
    simp only [List.length_cons, List.length_nil, List.getElem_cons_zero] at hk3 hk0
    clear hkk
    go_wp2_with fail
    go_ret2
    exact ⟨by rw [HR.out]; rfl, HB.out⟩
  · have h80z : ¬ (c.toNat : Int) = 80 := fun e => h80 (UInt8.toNat_inj.1 (by have : (80 : UInt8).toNat = 80 := rfl; omega))
    by_cases h87 : c = 87
    · subst h87
      obtain ⟨a, b, rfl, hk, ia, ib, hdd, _, _⟩ := joint_inv HD.out (Or.inl rfl)
      have hkk : kidsR (87 :: (a ++ b)) = [a, b] := by rw [HK.out]; exact hk
      have HR : Hid (secF (n + 1) (87 :: (a ++ b)) = ((twoRes 86 (secF n a).1 (secF n b).1).1, (twoRes 86 (secF n a).1 (secF n b).1).2 == 0)) := hid (by rw [secF_succ, if_neg HD.out, if_neg (show ¬ (87 :: (a ++ b) : Bs).head? = some 80 by simp), if_pos (show (87 :: (a ++ b) : Bs).head? = some 87 from rfl), hk])
      have HSA := hid (fun W => HI.out W a (by have := HN.out; omega))
      have HSB := hid (fun W => HI.out W b (by have := HN.out; omega))
      rw [hkk] at HP
      obtain ⟨g, hao, hg, hk0⟩ := HP.out.kid 0 (by simp)
      subst hao
      have hk3 := HP.out.kids
      simp only [List.length_cons, List.length_nil, List.getElem_cons_zero] at hk3 hk0
      clear hkk hk ia ib hdd h80 h80z
      generalize secF n a = ra at HR HSA
      generalize secF n b = rb at HR HSB
      go_wp2_with fail
      refine (HSA.out _).mono ?_
      rintro e w3 ⟨rfl, hb3⟩
      have HB3 := hid (two_below HB.out hb3)
      have HP3 := hid (HP.out.below hb3)
      have hk3b := HP3.out.kids
      obtain ⟨g1, hao1, _, hk1⟩ := HP3.out.kid 1 (by simp)
      cases hao1
      simp only [List.length_cons, List.length_nil, List.getElem_cons_succ, List.getElem_cons_zero] at hk3b hk1
      clear hb3 hk3 hk0 hop
      go_wp2_with fail
      refine (HSB.out _).mono ?_
      rintro e w4 ⟨rfl, hb4⟩
      have HB4 := hid (two_below HB3.out hb4)
      clear hb4 hk3b hk1
      have HTW := hid (fun W => rtwo_any 86 ra.1 rb.1 W)
      go_wp2_with fail
      refine (HTW.out _).mono ?_
      rintro e w5 ⟨rfl, hb5⟩
      have HB5 := hid (two_below HB4.out hb5)
      clear hb5
      go_wp2_with fail
      go_ret2
      refine ⟨?_, HB5.out⟩
      rw [HR.out]
      exact congrArg (fun b => Ending.returned (.tuple #[St (twoRes 86 ra.1 rb.1).1, .bool b])) (nat_beq0 _)
    · have h87z : ¬ (c.toNat : Int) = 87 := fun e => h87 (UInt8.toNat_inj.1 (by have : (87 : UInt8).toNat = 87 := rfl; omega))
      by_cases h76 : c = 76
      · subst h76
        obtain ⟨a, b, rfl, hk, ia, ib, hdd, _, _⟩ := joint_inv HD.out (Or.inr rfl)
        have hkk : kidsR (76 :: (a ++ b)) = [a, b] := by rw [HK.out]; exact hk
        have HR : Hid (secF (n + 1) (76 :: (a ++ b)) = ((twoRes 75 (secF n a).1 b).1, (twoRes 75 (secF n a).1 b).2 == 0)) := hid (by rw [secF_succ, if_neg HD.out, if_neg (show ¬ (76 :: (a ++ b) : Bs).head? = some 80 by simp), if_neg (show ¬ (76 :: (a ++ b) : Bs).head? = some 87 by simp), if_pos (show (76 :: (a ++ b) : Bs).head? = some 76 from rfl), hk])
        have HSA := hid (fun W => HI.out W a (by have := HN.out; omega))
        rw [hkk] at HP
        obtain ⟨g, hao, hg, hk0⟩ := HP.out.kid 0 (by simp)
        subst hao
        have hk3 := HP.out.kids
        simp only [List.length_cons, List.length_nil, List.getElem_cons_zero] at hk3 hk0
        clear hkk hk ia ib hdd h80 h80z h87 h87z
        generalize secF n a = ra at HR HSA
        go_wp2_with fail
        refine (HSA.out _).mono ?_
        rintro e w3 ⟨rfl, hb3⟩
        have HB3 := hid (two_below HB.out hb3)
        have HP3 := hid (HP.out.below hb3)
        have hk3b := HP3.out.kids
        obtain ⟨g1, hao1, _, hk1⟩ := HP3.out.kid 1 (by simp)
        cases hao1
        simp only [List.length_cons, List.length_nil, List.getElem_cons_succ, List.getElem_cons_zero] at hk3b hk1
        clear hb3 hk3 hk0 hop
        have HTW := hid (fun W => rtwo_any 75 ra.1 b W)
        go_wp2_with fail
        refine (HTW.out _).mono ?_
        rintro e w5 ⟨rfl, hb5⟩
        have HB5 := hid (two_below HB3.out hb5)
        clear hb5
        go_wp2_with fail
        go_ret2
        refine ⟨?_, HB5.out⟩
        rw [HR.out]
        exact congrArg (fun y => Ending.returned (.tuple #[St (twoRes 75 ra.1 b).1, .bool y])) (nat_beq0 _)
      · have h76z : ¬ (c.toNat : Int) = 76 := fun e => h76 (UInt8.toNat_inj.1 (by have : (76 : UInt8).toNat = 76 := rfl; omega))
        have HR : Hid (secF (n + 1) (c :: l) = ([], false)) := hid (by rw [secF_succ, if_neg HD.out, if_neg (show ¬ (c :: l : Bs).head? = some 80 by simpa using h80), if_neg (show ¬ (c :: l : Bs).head? = some 87 by simpa using h87), if_neg (show ¬ (c :: l : Bs).head? = some 76 by simpa using h76)])
        go_wp2_with fail
        go_ret2
        exact ⟨by rw [HR.out]; rfl, HB.out⟩
theorem secret_all : ∀ n, SecC n
  | 0 => fun w t h => secret_wrong 0 w t (by omega)
  | n + 1 => fun w t h => by
    by_cases hd : Tm.deep t = 0
    · exact secret_wrong (n + 1) w t hd
    · exact secret_step (secret_all n) w t hd h
theorem secret_any (w : World) (t : Bs) : Calls Tryz.prog 108 #[St t] w fun e w' => e = .returned (.tuple #[St (sec t).1, .bool (sec t).2]) ∧ Below w.heap.size w w' := secret_all 64 w t (Tm.deep_le _)
end Go.Proofs.YtfnnhekjeobicaaGreatDoor
