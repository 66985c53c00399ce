/- What following does to the notes: at the end no key of a shut box can be made. -/
import Derived.Test.YtkifchjpgdmcoaaGreatDoorKyLAll
import Derived.Test.YtkifchjpgdmcoaaGreatDoorFollowFAll
namespace Go.Proofs.YtkifchjpgdmcoaaGreatDoor

/-- all that was taken has been taken apart -/
structure Sat (N : NM) : Prop where
  cl : ∀ s, Hld N s → Cl N s
  odd : ∀ s, (N s).isSome = true → ¬ Hld N s → ∃ x, Hld N x ∧ VK x ∧ pubRes x = (s, 0)
  kz : ∀ s, (nget N s).key ≠ [] → Hld N s
theorem Sat.gr {N M : NM} {l r : List Bs} (h : Sat N) (g : Gr (fun _ => False) N l M r) : Sat M where
  cl := fun s a => by
    rcases g.clos s a with b | b | b
    · exact (h.cl s b).mono g.le g.held (g.key s b)
    · exact absurd b (fun x => x)
    · exact b
  odd := fun s a b => by
    rcases g.odd s a b with ⟨c, d⟩ | c
    · obtain ⟨x, hx, hv⟩ := h.odd s c d
      exact ⟨x, g.held x hx, hv⟩
    · exact c
  kz := g.kz h.kz
/-- how a pass goes on -/
structure Ps (N : NM) (l : List Bs) (M : NM) (r : List Bs) : Prop where
  le : Le N M
  held : ∀ s, Hld N s → Hld M s
  heard : ∀ s, (nget M s).heard = (nget N s).heard
  key : ∀ s, Hld N s → (nget M s).key = (nget N s).key ∨ (nget M s).key = []
  news : ∀ s, (M s).isSome = true → (N s).isSome = true ∨ s ∈ r
  newsH : ∀ s, Hld M s → Hld N s ∨ s ∈ r
  ext : ∀ s ∈ l, s ∈ r
theorem Ps.refl (N : NM) (l : List Bs) : Ps N l N l := ⟨fun _ h => h, fun _ h => h, fun _ => rfl, fun _ _ => Or.inl rfl, fun _ h => Or.inl h, fun _ h => Or.inl h, fun _ h => h⟩
theorem Ps.trans {N M P : NM} {l r q : List Bs} (h : Ps N l M r) (g : Ps M r P q) : Ps N l P q where
  le := fun s a => g.le s (h.le s a)
  held := fun s a => g.held s (h.held s a)
  heard := fun s => (g.heard s).trans (h.heard s)
  key := fun s a => by
    rcases g.key s (h.held s a) with b | b
    · rw [b]; exact h.key s a
    · exact Or.inr b
  news := fun s a => by
    rcases g.news s a with b | b
    · exact (h.news s b).imp id (g.ext s)
    · exact Or.inr b
  newsH := fun s a => by
    rcases g.newsH s a with b | b
    · exact (h.newsH s b).imp id (g.ext s)
    · exact Or.inr b
  ext := fun s a => g.ext s (h.ext s a)
theorem Gr.ps {N M : NM} {l r : List Bs} (g : Gr (fun _ => False) N l M r) : Ps N l M r := ⟨g.le, g.held, g.heard, fun s a => Or.inl (g.key s a), g.news, g.newsH, g.ext⟩

/-- what opening a box does -/
theorem open_ps {U : List Bs} (hU : Uni U) {N : NM} {l : List Bs} (hO : Ok U N) (h : Sat N) {box : Bs} (hb : box ∈ U) (hm : mkF N (nget N box).key = true) :
    Ps N l (openF (N, l) box).1 (openF (N, l) box).2 ∧ Sat (openF (N, l) box).1 ∧ (nget (openF (N, l) box).1 box).key = [] := by
  obtain ⟨hk, h66, m, hks⟩ := box_of hU hO hm
  have hd := hU.right box hb
  have hh := h.kz box hk
  have hub : (unboxRes (nget N box).key box).1 = m := by unfold unboxRes; rw [if_pos ⟨hd, h66⟩, hks]; simp
  have hE : openF (N, l) box = takeF 64 (nput N box ⟨(nget N box).heard, (nget N box).held, []⟩, l) m := by unfold openF; rw [hub]
  rw [hE]
  have hmr := Tm.kids_right hd (by rw [hks]; simp : m ∈ Tm.kidsOf 63 box)
  have hsome : ∀ s, (nput N box ⟨(nget N box).heard, (nget N box).held, []⟩ s).isSome = true ↔ (N s).isSome = true := fun s => by
    rw [isSome_put]
    exact ⟨fun a => a.elim (fun e => by rw [e]; exact noted_of_held hh) id, Or.inr⟩
  have hg : ∀ s, s ≠ box → nget (nput N box ⟨(nget N box).heard, (nget N box).held, []⟩) s = nget N s := fun s e => by rw [nget_put, if_neg e]
  have hgb : nget (nput N box ⟨(nget N box).heard, (nget N box).held, []⟩) box = ⟨(nget N box).heard, (nget N box).held, []⟩ := by rw [nget_put, if_pos rfl]
  have hhl : ∀ s, Hld (nput N box ⟨(nget N box).heard, (nget N box).held, []⟩) s ↔ Hld N s := fun s => by
    unfold Hld
    by_cases e : s = box
    · rw [e, hgb]
    · rw [hg s e]
  have hhd : ∀ s, (nget (nput N box ⟨(nget N box).heard, (nget N box).held, []⟩) s).heard = (nget N s).heard := fun s => by
    by_cases e : s = box
    · rw [e, hgb]
    · rw [hg s e]
  obtain ⟨g, gm⟩ := take_gr 64 (nput N box ⟨(nget N box).heard, (nget N box).held, []⟩) l m hmr.1 (Tm.deep_le _)
  generalize takeF 64 (nput N box ⟨(nget N box).heard, (nget N box).held, []⟩, l) m = R at g gm ⊢
  have hkb : (nget R.1 box).key = [] := by rw [g.key box ((hhl box).2 hh), hgb]
  have hkn : ∀ s, s ≠ box → Hld N s → (nget R.1 s).key = (nget N s).key := fun s e a => by rw [g.key s ((hhl s).2 a), hg s e]
  have hle : Le N R.1 := fun s a => g.le s ((hsome s).2 a)
  have hhe : ∀ s, Hld N s → Hld R.1 s := fun s a => g.held s ((hhl s).2 a)
  refine ⟨⟨hle, hhe, fun s => (g.heard s).trans (hhd s), fun s a => ?_, fun s a => (g.news s a).imp (hsome s).1 id, fun s a => (g.newsH s a).imp (hhl s).1 id, g.ext⟩, ⟨fun s a => ?_, fun s a b => ?_, g.kz (fun s a => ?_)⟩, hkb⟩
  · by_cases e : s = box
    · rw [e]; exact Or.inr hkb
    · exact Or.inl (hkn s e a)
  · rcases g.clos s a with b | b | b
    · by_cases e : s = box
      · subst e
        refine ⟨fun x => ?_, fun x => ?_, fun _ k m' hk' => Or.inr ⟨hkb, ?_⟩⟩
        · rw [h66] at x; exact absurd x (by decide)
        · rcases x with x | x <;> rw [h66] at x <;> exact absurd x (by decide)
        · rw [hks] at hk'
          simp at hk'
          rw [← hk'.2]; exact gm
      · exact (h.cl s ((hhl s).1 b)).mono hle hhe (hkn s e ((hhl s).1 b))
    · exact absurd b (fun x => x)
    · exact b
  · rcases g.odd s a b with ⟨c, d⟩ | c
    · obtain ⟨x, hx, hv⟩ := h.odd s ((hsome s).1 c) (fun y => d ((hhl s).2 y))
      exact ⟨x, hhe x hx, hv⟩
    · exact c
  · by_cases e : s = box
    · rw [e, hgb] at a; exact absurd rfl a
    · rw [hg s e] at a; exact (hhl s).2 (h.kz s a)

/-- a pass -/
theorem pass_inv {U : List Bs} (hU : Uni U) (news : List Bs) : ∀ (bs : List Bs) (s : (NM × List Bs) × List Bs), Ok U s.1.1 → Sat s.1.1 → (∀ x ∈ bs, x ∈ U ∧ Hld s.1.1 x) →
    Ps s.1.1 s.1.2 (bs.foldl (passStep news) s).1.1 (bs.foldl (passStep news) s).1.2 ∧ Ok U (bs.foldl (passStep news) s).1.1 ∧ Sat (bs.foldl (passStep news) s).1.1 ∧ (∀ x ∈ s.2, x ∈ (bs.foldl (passStep news) s).2) ∧
    (∀ x ∈ (bs.foldl (passStep news) s).2, x ∈ s.2 ∨ x ∈ bs) ∧
    ∀ x ∈ bs, (nget (bs.foldl (passStep news) s).1.1 x).key = [] ∨ (x ∈ (bs.foldl (passStep news) s).2 ∧ ∃ C : NM, Le s.1.1 C ∧ (concernF news x && mkF C (nget C x).key) = false ∧ (nget C x).key = (nget (bs.foldl (passStep news) s).1.1 x).key) := by
  intro bs
  induction bs with
  | nil => intro s hO h _; exact ⟨Ps.refl _ _, hO, h, fun _ a => a, fun _ a => Or.inl a, fun _ a => by cases a⟩
  | cons b bs ih =>
    intro s hO h hb
    rw [List.foldl_cons]
    have hbU := (hb b (by simp)).1
    have hbH := (hb b (by simp)).2
    by_cases hc : (concernF news b && mkF s.1.1 (nget s.1.1 b).key) = true
    · have hst : passStep news s b = (openF s.1 b, s.2) := by unfold passStep; rw [if_pos hc]
      have hm : mkF s.1.1 (nget s.1.1 b).key = true := by rw [Bool.and_eq_true] at hc; exact hc.2
      obtain ⟨p1, p2, p3⟩ := open_ps (l := s.1.2) hU hO h hbU hm
      have hO2 := (openF_ok hU (l := s.1.2) hO hbU hm).1
      rw [hst]
      obtain ⟨q1, q2, q3, q4, q6, q5⟩ := ih (openF s.1 b, s.2) hO2 p2 (fun x hx => ⟨(hb x (by simp [hx])).1, p1.held x (hb x (by simp [hx])).2⟩)
      refine ⟨p1.trans q1, q2, q3, q4, fun x hx => (q6 x hx).imp id (by intro a; simp [a]), fun x hx => ?_⟩
      rcases List.mem_cons.1 hx with e | e
      · subst e
        left
        rcases q1.key _ (p1.held _ hbH) with a | a
        · rw [a]; exact p3
        · exact a
      · rcases q5 x e with a | ⟨a, C, hC, a2⟩
        · exact Or.inl a
        · exact Or.inr ⟨a, C, fun t ht => hC t (p1.le t ht), a2⟩
    · have hc' : (concernF news b && mkF s.1.1 (nget s.1.1 b).key) = false := by simpa using hc
      have hst : passStep news s b = (s.1, s.2 ++ [b]) := by unfold passStep; rw [if_neg hc]
      rw [hst]
      obtain ⟨q1, q2, q3, q4, q6, q5⟩ := ih (s.1, s.2 ++ [b]) hO h (fun x hx => hb x (by simp [hx]))
      refine ⟨q1, q2, q3, fun x hx => q4 x (by simp [hx]), fun x hx => ?_, fun x hx => ?_⟩
      · rcases q6 x hx with a | a
        · rcases List.mem_append.1 a with c | c
          · exact Or.inl c
          · right; simp at c; simp [c]
        · right; simp [a]
      · rcases List.mem_cons.1 hx with e | e
        · subst e
          rcases q1.key _ hbH with a | a
          · exact Or.inr ⟨q4 _ (by simp), s.1.1, fun _ t => t, hc', a.symm⟩
          · exact Or.inl a
        · exact q5 x e

theorem pass_P {U : List Bs} (hU : Uni U) (news : List Bs) {P : NM → Prop} (hP : ∀ (N : NM) (l : List Bs) (box : Bs), Ok U N → Sat N → box ∈ U → mkF N (nget N box).key = true → P N → P (openF (N, l) box).1) :
    ∀ (bs : List Bs) (s : (NM × List Bs) × List Bs), Ok U s.1.1 → Sat s.1.1 → (∀ x ∈ bs, x ∈ U) → P s.1.1 → P (bs.foldl (passStep news) s).1.1 := by
  intro bs
  induction bs with
  | nil => intro s _ _ _ h; exact h
  | cons b bs ih =>
    intro s hO h hb hp
    rw [List.foldl_cons]
    have hbU := hb b (by simp)
    by_cases hc : (concernF news b && mkF s.1.1 (nget s.1.1 b).key) = true
    · have hst : passStep news s b = (openF s.1 b, s.2) := by unfold passStep; rw [if_pos hc]
      have hm : mkF s.1.1 (nget s.1.1 b).key = true := by rw [Bool.and_eq_true] at hc; exact hc.2
      rw [hst]
      exact ih (openF s.1 b, s.2) (openF_ok hU (l := s.1.2) hO hbU hm).1 (open_ps (l := s.1.2) hU hO h hbU hm).2.1 (fun x hx => hb x (by simp [hx])) (hP s.1.1 s.1.2 b hO h hbU hm hp)
    · have hst : passStep news s b = (s.1, s.2 ++ [b]) := by unfold passStep; rw [if_neg hc]
      rw [hst]
      exact ih (s.1, s.2 ++ [b]) hO h (fun x hx => hb x (by simp [hx])) hp

/-- what holds between passes -/
structure Fv (U : List Bs) (N : NM) (news shut : List Bs) : Prop where
  ok : Ok U N
  sat : Sat N
  su : ∀ x ∈ shut, x ∈ U ∧ Hld N x
  nu : ∀ x ∈ news, x ∈ U
  cover : ∀ s, (nget N s).key ≠ [] → s ∈ shut ∨ s ∈ news
  wait : ∀ s, (nget N s).key ≠ [] → s ∉ news → mkF (minus N news) (nget N s).key = false
/-- no key of a shut box can be made -/
def Shut (N : NM) : Prop := ∀ s, (nget N s).key ≠ [] → mkF N (nget N s).key = false
theorem mk_less {N M : NM} (h : Le N M) {t : Bs} (hm : mkF M t = false) : mkF N t = false := by
  cases hq : mkF N t with
  | false => rfl
  | true => rw [mk_mono h hq] at hm; cases hm
theorem follow_inv {U : List Bs} (hU : Uni U) {P : NM → Prop} (hP : ∀ (N : NM) (l : List Bs) (box : Bs), Ok U N → Sat N → box ∈ U → mkF N (nget N box).key = true → P N → P (openF (N, l) box).1) {N : NM} {news shut : List Bs} {M : NM} (h : Follow N news shut M) : Fv U N news shut → P N → (∃ l r, Ps N l M r) ∧ Sat M ∧ Ok U M ∧ Shut M ∧ P M := by
  induction h with
  | done N shut =>
    intro hv hp
    refine ⟨⟨[], [], Ps.refl _ _⟩, hv.sat, hv.ok, fun s hs => ?_, hp⟩
    have := hv.wait s hs (by simp)
    have e : minus N [] = N := by funext t; simp [minus]
    rw [e] at this
    exact this
  | @step N news shut M hn _ ih =>
    intro hv hp
    have hbs : ∀ x ∈ shut ++ boxesF N news, x ∈ U ∧ Hld N x := fun x hx => by
      rcases List.mem_append.1 hx with a | a
      · exact hv.su x a
      · have a' := List.mem_filter.1 a
        exact ⟨hv.nu x a'.1, hv.sat.kz x (by simpa using a'.2)⟩
    obtain ⟨p1, p2, p3, _, p6, p5⟩ := pass_inv hU news (shut ++ boxesF N news) ((N, []), []) hv.ok hv.sat hbs
    have pm := pass_mem hU news (shut ++ boxesF N news) ((N, []), []) (fun x hx => (hbs x hx).1) hv.ok (by simp) (by simp)
    have hp2 := pass_P hU news hP (shut ++ boxesF N news) ((N, []), []) hv.ok hv.sat (fun x hx => (hbs x hx).1) hp
    generalize (shut ++ boxesF N news).foldl (passStep news) ((N, []), []) = R at *
    simp only at p1 p5 p6
    have hle : Le (minus R.1.1 R.1.2) N := fun t ht => by
      unfold minus at ht
      split at ht
      · cases ht
      · rename_i hx
        rcases p1.news t ht with a | a
        · exact a
        · exact absurd a hx
    have hfate : ∀ s, (nget R.1.1 s).key ≠ [] → Hld N s → s ∈ R.2 ∧ mkF (minus R.1.1 R.1.2) (nget R.1.1 s).key = false := by
      intro s hs hh
      have hkey : (nget R.1.1 s).key = (nget N s).key := (p1.key s hh).elim id (fun a => absurd a hs)
      have hkN : (nget N s).key ≠ [] := by rw [← hkey]; exact hs
      have hin : s ∈ shut ++ boxesF N news := by
        rcases hv.cover s hkN with a | a
        · simp [a]
        · exact List.mem_append.2 (Or.inr (List.mem_filter.2 ⟨a, by simpa using hkN⟩))
      rcases p5 s hin with a | ⟨a, C, hC, hcm, hkC⟩
      · exact absurd a hs
      · refine ⟨a, ?_⟩
        rw [Bool.and_eq_false_iff] at hcm
        rcases hcm with hcf | hmf
        · have hsn : s ∉ news := fun hx => by
            unfold concernF at hcf
            rw [Bool.or_eq_false_iff] at hcf
            have := List.any_eq_false.1 hcf.2 s hx
            rw [contains_sub (bare_sub s)] at this
            exact absurd rfl this
          obtain ⟨h66, m, hks⟩ := hv.ok.key s hkN
          have hsub : Sub (nget N s).key s := Sub.kid (hU.right s (hbs s hin).1) (by rw [hks]; simp)
          rw [hkey]
          exact mk_less hle (concern_new hsub hcf (hv.wait s hkN hsn))
        · rw [← hkC]
          exact mk_less (fun t ht => hC t (hle t ht)) hmf
    have hv2 : Fv U R.1.1 R.1.2 R.2 := by
      refine ⟨p2, p3, fun x hx => ?_, pm.1, fun s hs => ?_, fun s hs hx => ?_⟩
      · have := p6 x hx
        rcases this with a | a
        · cases a
        · exact ⟨(hbs x a).1, p1.held x (hbs x a).2⟩
      · by_cases hh : Hld N s
        · exact Or.inl (hfate s hs hh).1
        · rcases p1.newsH s (p3.kz s hs) with a | a
          · exact absurd a hh
          · exact Or.inr a
      · by_cases hh : Hld N s
        · exact (hfate s hs hh).2
        · rcases p1.newsH s (p3.kz s hs) with a | a
          · exact absurd a hh
          · exact absurd a hx
    obtain ⟨⟨l, r, q1⟩, q2, q3, q4⟩ := ih hv2 hp2
    refine ⟨⟨[], R.1.2 ++ r, ?_⟩, q2, q3, q4⟩
    exact ⟨fun t a => q1.le t (p1.le t a), fun t a => q1.held t (p1.held t a), fun t => (q1.heard t).trans (p1.heard t), fun t a => by
          rcases q1.key t (p1.held t a) with b | b
          · rw [b]; exact p1.key t a
          · exact Or.inr b, fun t a => by
          rcases q1.news t a with b | b
          · exact (p1.news t b).imp id (by intro c; simp [c])
          · exact Or.inr (by simp [b]), fun t a => by
          rcases q1.newsH t a with b | b
          · exact (p1.newsH t b).imp id (by intro c; simp [c])
          · exact Or.inr (by simp [b]), fun t a => by cases a⟩

/-- what learning does: all is taken apart again, and no key of a shut box can be made -/
theorem learn_inv {U : List Bs} (hU : Uni U) {N : NM} (hO : Ok U N) (hS : Sat N) (hZ : Shut N) {t : Bs} (ht : t ∈ U) {L : List (Bs × Note)} (hL : Over N L) {M : NM}
    (h : Follow (takeF 64 (N, []) t).1 (takeF 64 (N, []) t).2 (shutL L) M) {P : NM → Prop} (hP : ∀ (N : NM) (l : List Bs) (box : Bs), Ok U N → Sat N → box ∈ U → mkF N (nget N box).key = true → P N → P (openF (N, l) box).1) (hp : P (takeF 64 (N, []) t).1) :
    (∃ l r, Ps N l M r) ∧ Sat M ∧ Ok U M ∧ Shut M ∧ Hld M t ∧ P M := by
  obtain ⟨g, gt⟩ := take_gr 64 N [] t (hU.right t ht) (Tm.deep_le _)
  have hO1 : Ok U (takeF 64 (N, []) t).1 := ⟨(take_bound hU 64 N [] t hO.dom ht).1, takeF_key hU 64 N [] t ht hO.key⟩
  have hmem := takeF_mem hU 64 N [] t ht (by simp)
  generalize takeF 64 (N, []) t = R at *
  have hsh : ∀ x, x ∈ shutL L ↔ (nget N x).key ≠ [] := fun x => by
    unfold shutL
    rw [List.mem_map]
    constructor
    · rintro ⟨y, hy, rfl⟩
      have hy' := List.mem_filter.1 hy
      have := (hL.mem y.1 y.2).1 hy'.1
      rw [nget, this]
      simpa using hy'.2
    · intro hk
      cases hn : N x with
      | none => rw [nget, hn] at hk; exact absurd rfl hk
      | some n => exact ⟨(x, n), List.mem_filter.2 ⟨(hL.mem x n).2 hn, by rw [nget, hn] at hk; simpa using hk⟩, rfl⟩
  have hv : Fv U R.1 R.2 (shutL L) := by
    refine ⟨hO1, hS.gr g, fun x hx => ?_, hmem, fun s hs => ?_, fun s hs hx => ?_⟩
    · have h1 := hS.kz x ((hsh x).1 hx)
      exact ⟨hO.dom x (noted_of_held h1), g.held x h1⟩
    · rcases g.newsH s ((hS.gr g).kz s hs) with a | a
      · left; rw [hsh, ← g.key s a]; exact hs
      · exact Or.inr a
    · rcases g.newsH s ((hS.gr g).kz s hs) with a | a
      · rw [g.key s a] at hs ⊢
        refine mk_less (fun z hz => ?_) (hZ s hs)
        unfold minus at hz
        split at hz
        · cases hz
        · rename_i hx2
          exact (g.news z hz).elim id (fun c => absurd c hx2)
      · exact absurd a hx
  obtain ⟨⟨l, r, q1⟩, q2, q3, q4, q5⟩ := follow_inv hU hP h hv hp
  refine ⟨⟨[], R.2 ++ r, ?_⟩, q2, q3, q4, q1.held _ gt, q5⟩
  have p1 := g.ps
  exact ⟨fun t a => q1.le t (p1.le t a), fun t a => q1.held t (p1.held t a), fun t => (q1.heard t).trans (p1.heard t), fun t a => by
      rcases q1.key t (p1.held t a) with b | b
      · rw [b]; exact p1.key t a
      · exact Or.inr b, fun t a => by
      rcases q1.news t a with b | b
      · exact (p1.news t b).imp id (by intro c; simp [c])
      · exact Or.inr (by simp [b]), fun t a => by
      rcases q1.newsH t a with b | b
      · exact (p1.newsH t b).imp id (by intro c; simp [c])
      · exact Or.inr (by simp [b]), fun t a => by cases a⟩
end Go.Proofs.YtkifchjpgdmcoaaGreatDoor
