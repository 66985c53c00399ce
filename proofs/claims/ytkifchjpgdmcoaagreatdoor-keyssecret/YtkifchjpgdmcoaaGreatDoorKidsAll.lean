import Derived.Test.YtkifchjpgdmcoaaGreatDoorMath
import Derived.Test.YtkifchjpgdmcoaaGreatDoorNmAll
/- The parts of a right term are right, less deep, shorter, and stand in it. No program in it. -/
namespace Go.Proofs.YtkifchjpgdmcoaaGreatDoor.Tm

/-- what a part is to the whole -/
structure PartOf (d : Nat) (t k : Bs) : Prop where
  is : ∃ e, Is e k ∧ e + 1 ≤ d
  within : ∃ a b, t = a ++ (k ++ b) ∧ a ≠ []

theorem kidsN_part {n : Nat} : ∀ (k d : Nat) (l : Bs) (e : Nat) (r : Bs), manyA (rd n) k d l = some (e, r) → ∀ x ∈ kidsN (rd n) k l, (∃ f, Is f x ∧ f + 1 ≤ e) ∧ ∃ a b, l = a ++ (x ++ b)
  | 0, _, _, _, _, _, x, hx => by simp [kidsN] at hx
  | k + 1, d, l, e, r, h, x, hx => by
    rw [manyA] at h
    rw [kidsN] at hx
    match hg : rd n l with
    | none => rw [hg] at h; simp at h
    | some (d1, r1) =>
      rw [hg] at h hx
      simp only at h hx
      obtain ⟨p, rfl, hd, hi⟩ := rd_good n _ _ _ hg
      obtain ⟨q, rfl, h2, h3, _⟩ := many_good (rd_good n) k _ _ _ _ h
      rcases List.mem_cons.1 hx with hx | hx
      · rw [used_app] at hx
        subst hx
        exact ⟨⟨d1, hi, by omega⟩, [], q ++ r, rfl⟩
      · obtain ⟨h4, a, b, h5⟩ := kidsN_part k _ _ _ _ h x hx
        exact ⟨h4, p ++ a, b, by rw [h5]; simp⟩

theorem kids_part {n : Nat} {c : UInt8} {l : Bs} {d : Nat} {r : Bs} (h : rd (n + 1) (c :: l) = some (d, r)) : ∀ x ∈ kidsOf n (c :: l), PartOf d (c :: l) x := by
  intro x hx
  rw [rd_cons] at h
  change x ∈ (if c = 84 then tupleK (rd n) l else if c = 80 ∨ c = 72 then kids1 (rd n) l else if c = 110 ∨ c = 116 then [] else kids2 (rd n) l) at hx
  have two : ∀ d' r1 r2, twoA (rd n) l = some (d', r1, r2) → d' = d → x ∈ kids2 (rd n) l → PartOf d (c :: l) x := by
    intro d' r1 r2 h2 e hx
    obtain ⟨p, q, a, b, e1, rfl, e3, ha, hb, hp, hq⟩ := two_good (rd_good n) h2
    unfold kids2 at hx
    rw [h2] at hx
    simp only [e1, used_app, List.mem_cons, List.not_mem_nil, or_false] at hx
    rcases hx with rfl | rfl
    · exact ⟨⟨a, hp, by omega⟩, [c], q ++ r2, by rw [e1]; rfl, by simp⟩
    · exact ⟨⟨b, hq, by omega⟩, c :: p, r2, by rw [e1]; rfl, by simp⟩
  by_cases c1 : c = 110
  · subst c1; simp at hx
  rw [if_neg c1] at h
  by_cases c2 : c = 116
  · subst c2; simp at hx
  rw [if_neg c2] at h
  by_cases c3 : c = 84
  · rw [if_pos c3] at h hx
    unfold tupleA at h
    unfold tupleK at hx
    match hg : num 58 l with
    | none => rw [hg] at h; simp at h
    | some (k, r0) =>
      rw [hg] at h hx
      simp only at h hx
      split at h
      · obtain ⟨p, hp, rfl, _⟩ := num_app hg
        obtain ⟨h1, a, b, h2⟩ := kidsN_part _ _ _ _ _ h x hx
        exact ⟨h1, c :: (p ++ a), b, by rw [h2]; simp, by simp⟩
      · simp at h
  rw [if_neg c3] at h hx
  have one : ∀ d1 r1, rd n l = some (d1, r1) → d1 + 1 = d → x ∈ kids1 (rd n) l → PartOf d (c :: l) x := by
    intro d1 r1 h1 e hx
    obtain ⟨p, rfl, hd, hi⟩ := rd_good n _ _ _ h1
    unfold kids1 at hx
    rw [h1] at hx
    simp only [used_app, List.mem_singleton] at hx
    subst hx
    exact ⟨⟨d1, hi, by omega⟩, [c], r1, rfl, by simp⟩
  by_cases c4 : c = 80
  · rw [if_pos c4] at h
    rw [if_pos (Or.inl c4)] at hx
    unfold pubA at h
    match hg : rd n l with
    | none => rw [hg] at h; simp at h
    | some (d1, r1) =>
      rw [hg] at h
      simp only at h
      split at h
      · simp at h
      · simp at h; exact one d1 r1 hg h.1 hx
  rw [if_neg c4] at h
  by_cases c5 : c = 72
  · rw [if_pos c5] at h
    rw [if_pos (Or.inr c5)] at hx
    unfold oneA at h
    match hg : rd n l with
    | none => rw [hg] at h; simp at h
    | some (d1, r1) =>
      rw [hg] at h
      simp at h
      exact one d1 r1 hg h.1 hx
  rw [if_neg c5] at h
  rw [if_neg (by simp [c4, c5]), if_neg (by simp [c1, c2])] at hx
  match hg : twoA (rd n) l with
  | none =>
    unfold kids2 at hx
    rw [hg] at hx
    simp at hx
  | some (d1, r1, r2) =>
    refine two d1 r1 r2 hg ?_ hx
    unfold two2 agreeA jointA boundA at h
    simp only [hg] at h
    repeat' split at h
    all_goals first | (simp at h; exact h.1) | simp at h

theorem kids_right {t k : Bs} (h : deep t ≠ 0) (hk : k ∈ kidsOf 63 t) : deep k ≠ 0 ∧ deep k < deep t ∧ k.length < t.length ∧ ∃ a b, t = a ++ (k ++ b) ∧ a ≠ [] := by
  obtain ⟨hi, hl⟩ := deep_is h
  have h64 := deep_le t
  match t, h, hi, hk with
  | [], _, hi, _ => exact absurd rfl hi.2.1
  | c :: l, h, hi, hk =>
    have hr := hi.2.2 64 [] h64
    rw [List.append_nil] at hr
    obtain ⟨⟨e, he, h1⟩, a, b, h2, h3⟩ := kids_part hr k hk
    have hlen : k.length < (c :: l).length := by
      rw [h2]
      have : 0 < a.length := List.length_pos_iff.2 h3
      simp; omega
    have hd : deep k = e := is_deep he (by omega) (by omega)
    have := he.1
    exact ⟨by omega, by omega, hlen, a, b, h2, h3⟩
theorem kidsN_count (f : Bs → Option (Nat × Bs)) : ∀ (k : Nat) (l : Bs), (kidsN f k l).length ≤ k
  | 0, _ => by simp [kidsN]
  | k + 1, l => by
    rw [kidsN]
    match f l with
    | none => simp
    | some (_, r) => have := kidsN_count f k r; simp; omega
theorem kids_count {t : Bs} (h : deep t ≠ 0) : (kidsOf 63 t).length ≤ 32 := by
  match t, h with
  | [], h => simp [kidsOf]
  | c :: l, h =>
    obtain ⟨hi, hl⟩ := deep_is h
    have hr := hi.2.2 64 [] (deep_le _)
    rw [List.append_nil, rd_cons] at hr
    show (if c = 84 then tupleK (rd 63) l else if c = 80 ∨ c = 72 then kids1 (rd 63) l else if c = 110 ∨ c = 116 then [] else kids2 (rd 63) l).length ≤ 32
    by_cases c3 : c = 84
    · subst c3
      rw [if_neg (by decide), if_neg (by decide), if_pos rfl] at hr
      rw [if_pos rfl]
      unfold tupleA at hr
      unfold tupleK
      match hg : num 58 l with
      | none => simp
      | some (k, r0) =>
        rw [hg] at hr
        simp only at hr ⊢
        split at hr
        · rename_i hk; have := kidsN_count (rd 63) k r0; omega
        · simp at hr
    · rw [if_neg c3]
      split
      · unfold kids1; split <;> simp
      · split
        · simp
        · unfold kids2; split <;> simp
theorem kids_pair {c : UInt8} {l : Bs} (h : deep (c :: l) ≠ 0) (c1 : c ≠ 110) (c2 : c ≠ 116) (c3 : c ≠ 84) (c4 : c ≠ 80) (c5 : c ≠ 72) : ∃ x y, kidsOf 63 (c :: l) = [x, y] := by
  obtain ⟨hi, hl⟩ := deep_is h
  have hr := hi.2.2 64 [] (deep_le _)
  rw [List.append_nil, rd_cons, if_neg c1, if_neg c2, if_neg c3, if_neg c4, if_neg c5] at hr
  show ∃ x y, (if c = 84 then tupleK (rd 63) l else if c = 80 ∨ c = 72 then kids1 (rd 63) l else if c = 110 ∨ c = 116 then [] else kids2 (rd 63) l) = [x, y]
  rw [if_neg c3, if_neg (by simp [c4, c5]), if_neg (by simp [c1, c2])]
  match hg : twoA (rd 63) l with
  | none =>
    unfold two2 agreeA jointA boundA at hr
    simp [hg] at hr
  | some (d1, r1, r2) => exact ⟨_, _, by unfold kids2; rw [hg]⟩
end Go.Proofs.YtkifchjpgdmcoaaGreatDoor.Tm

/- Whether a term can be made of the notes: what makes, agrees, hasKey answer. -/
namespace Go.Proofs.YtkifchjpgdmcoaaGreatDoor
open Go.RowKit Go.Maps Go.WideElems

/-- the notes of a mind, there or not -/
def Ro (w : World) (o : Option Nat) (N : NM) : Prop := match o with | none => ∀ t, N t = none | some b => Om w b N
/-- a mind at block p -/
structure Rm (w : World) (p : Nat) (o : Option Nat) (N : NM) : Prop where
  ptr : w.heap[p]? = some (.cells #[.map o] 61 (0, 0))
  om : Ro w o N
theorem Rm.lt {w : World} {p : Nat} {o : Option Nat} {N : NM} (h : Rm w p o N) : p < w.heap.size := lt_of_block h.ptr
theorem Rm.below {w w' : World} {p : Nat} {o : Option Nat} {N : NM} (h : Rm w p o N) (hb : Below w.heap.size w w') : Rm w' p o N := by
  refine ⟨(hb.block p h.lt).trans h.ptr, ?_⟩
  have := h.om
  cases o with
  | none => exact this
  | some b => exact Om.same this (hb.block b (Om.lt this))
theorem Rm.cell {w : World} {p : Nat} {o : Option Nat} {N : NM} (h : Rm w p o N) : w.cell? ⟨p, 0, none⟩ = some (.map o) := by
  rw [cell_of_heap h.ptr]; rfl
theorem Rm.ok {w : World} {p : Nat} {o : Option Nat} {N : NM} (h : Rm w p o N) (t : Bs) (ht : t.length ≤ 100000) : (Instr.lookup 59 (.map o) (St t) true).run Tryz.prog w = .ok (.tuple #[(nget N t).v, .bool (N t).isSome]) w := by
  have := h.om
  cases o with
  | none => rw [look_nil_ok w t ht, nget, this t]; rfl
  | some b => exact Om.look_ok this t ht
theorem Rm.one {w : World} {p : Nat} {o : Option Nat} {N : NM} (h : Rm w p o N) (t : Bs) (ht : t.length ≤ 100000) : (Instr.lookup 59 (.map o) (St t) false).run Tryz.prog w = .ok (nget N t).v w := by
  have := h.om
  cases o with
  | none => rw [look_nil w t ht, nget, this t]; rfl
  | some b => exact Om.look this t ht

/-- whether P x is a right term that can be made -/
def hasKeyF (N : NM) (x : Bs) (made : Bool) : Bool := (pubRes x).2 == 0 && (pubRes x).1.head? == some 80 && (made || (N (pubRes x).1).isSome)
/-- whether a term can be made -/
def makesF (N : NM) : Nat → Bs → Bool
  | 0, t => (N t).isSome
  | n + 1, t => (N t).isSome || (Tm.deep t != 0 && (
      if t.head? = some 110 then false
      else if t.head? = some 88 then (match Tm.kidsOf 63 t with
        | [a, b] => (makesF N n a && hasKeyF N b (makesF N n b)) || (makesF N n b && hasKeyF N a (makesF N n a))
        | _ => false)
      else (Tm.kidsOf 63 t).all (makesF N n)))

theorem pub_len (x : Bs) (_h : x.length ≤ 100000) : (pubRes x).1.length ≤ 100000 := by
  unfold pubRes
  split
  · simp
  · split
    · simp
    · rename_i h1 h2
      have := (Tm.deep_is h2).2
      show (Tm.pk x).length ≤ _
      omega

set_option maxHeartbeats 2000000 in
theorem hasKey_any (w : World) (p : Nat) (o : Option Nat) (N : NM) (h : Rm w p o N) (x : Bs) (hx : x.length ≤ 100000) (mk : Bool) :
    Calls Tryz.prog 86 #[.pointer (some ⟨p, 0, none⟩), St x, .bool mk] w fun e w' => e = .returned (.bool (hasKeyF N x mk)) ∧ Below w.heap.size w w' := by
  have HK : Hid (hasKeyF N x mk = ((pubRes x).2 == 0 && (pubRes x).1.head? == some 80 && (mk || (N (pubRes x).1).isSome))) := hid rfl
  have HC := hid (fun W => pubs_any x W)
  have HPL := hid (pub_len x hx)
  have HR := hid h
  have HPR : Hid ((pubRes x).2 = 0 → (pubRes x).1 ≠ []) := by
    apply hid
    unfold pubRes
    split
    · intro h; cases h
    · split
      · intro h; cases h
      · rename_i h1 h2; intro _ e; rw [show Tm.pk x = [] from e] at h2; exact h2 (by decide)
  clear h hx
  generalize pubRes x = r at HK HC HPL HPR
  obtain ⟨q, er⟩ := r
  unfold made at HC
  simp only at HK HC HPL HPR
  by_cases h0 : er = 0
  · subst h0
    obtain ⟨c, l, hq⟩ : ∃ c l, q = c :: l := by cases q with | nil => exact absurd rfl (HPR.out rfl) | cons c l => exact ⟨c, l, rfl⟩
    have hpos : 0 < (⟨q.toArray⟩ : ByteArray).size := by rw [st_size, hq]; simp
    have hidx : (⟨q.toArray⟩ : ByteArray)[0] = c := st_idx hq hpos
    have hql : 0 < q.length := by rw [hq]; simp
    have HHD : Hid (q.head? = some c) := by apply hid; rw [hq]; rfl
    clear hq
    by_cases hc : c = 80
    · subst hc
      have HK2 : Hid (hasKeyF N x mk = (mk || (N q).isSome)) := by apply hid; rw [HK.out, HHD.out]; simp
      cases mk
      all_goals
        go_enter Tryz.func86, Tryz.ntmps86
        go_wp2_with fail
        refine (HC.out _).mono ?_
        rintro e w1 ⟨rfl, hb1⟩
        have HB1 := hid hb1
        have hcell := (HR.out.below hb1).cell
        have hlk := (HR.out.below hb1).ok q HPL.out
        clear hb1
        generalize nget N q = nt at hlk
        go_wp2_with fail
        go_ret
        exact ⟨by rw [HK2.out]; simp, HB1.out.alloc HB1.out.size _⟩
    · have hc' : ¬ (c.toNat : Int) = 80 := by intro e; exact hc (UInt8.toNat_inj.1 (by show c.toNat = 80; omega))
      have HK2 : Hid (hasKeyF N x mk = false) := by apply hid; rw [HK.out, HHD.out]; simp [hc]
      go_enter Tryz.func86, Tryz.ntmps86
      go_wp2_with fail
      refine (HC.out _).mono ?_
      rintro e w1 ⟨rfl, hb1⟩
      have HB1 := hid hb1
      clear hb1
      go_wp2_with fail
      go_ret
      exact ⟨by rw [HK2.out]; rfl, HB1.out⟩
  · have he : ¬ (er : Int) = 0 := by omega
    have HK2 : Hid (hasKeyF N x mk = false) := by apply hid; rw [HK.out]; simp [h0]
    clear h0
    go_enter Tryz.func86, Tryz.ntmps86
    go_wp2_with fail
    refine (HC.out _).mono ?_
    rintro e w1 ⟨rfl, hb1⟩
    have HB1 := hid hb1
    clear hb1
    go_wp2_with fail
    go_ret
    exact ⟨by rw [HK2.out]; rfl, HB1.out⟩
end Go.Proofs.YtkifchjpgdmcoaaGreatDoor

/- What makes and agrees answer. -/
namespace Go.Proofs.YtkifchjpgdmcoaaGreatDoor
open Go.RowKit Go.Maps Go.WideElems

/-- what makes does to terms of at most so many levels -/
def MkC (n : Nat) : Prop := ∀ (w : World) (p : Nat) (o : Option Nat) (N : NM) (t : Bs), Rm w p o N → t.length ≤ 100000 → Tm.deep t ≤ n →
  Calls Tryz.prog 34 #[.pointer (some ⟨p, 0, none⟩), St t] w fun e w' => e = .returned (.bool (makesF N n t)) ∧ Below w.heap.size w w'
/-- whether an agreed secret can be made -/
def agreesF (N : NM) (n : Nat) (a b : Bs) : Bool := (makesF N n a && hasKeyF N b (makesF N n b)) || (makesF N n b && hasKeyF N a (makesF N n a))
theorem two_below {w0 w1 w2 : World} (h1 : Below w0.heap.size w0 w1) (h2 : Below w1.heap.size w1 w2) : Below w0.heap.size w0 w2 := h1.trans (h2.mono h1.size)

set_option maxHeartbeats 2000000 in
theorem agrees_any {n : Nat} (hM : MkC n) (w : World) (p : Nat) (o : Option Nat) (N : NM) (h : Rm w p o N) (a b : Bs) (ha : a.length ≤ 100000) (hb : b.length ≤ 100000) (da : Tm.deep a ≤ n) (db : Tm.deep b ≤ n) :
    Calls Tryz.prog 64 #[.pointer (some ⟨p, 0, none⟩), St a, St b] w fun e w' => e = .returned (.bool (agreesF N n a b)) ∧ Below w.heap.size w w' := by
  have HM1 := hid (fun W (hR : Rm W p o N) => hM W p o N a hR ha da)
  have HM2 := hid (fun W (hR : Rm W p o N) => hM W p o N b hR hb db)
  have HKB := hid (fun W (hR : Rm W p o N) m => hasKey_any W p o N hR b hb m)
  have HKA := hid (fun W (hR : Rm W p o N) m => hasKey_any W p o N hR a ha m)
  have HE : Hid (agreesF N n a b = ((makesF N n a && hasKeyF N b (makesF N n b)) || (makesF N n b && hasKeyF N a (makesF N n a)))) := hid rfl
  have HR := hid h
  clear h hM ha hb da db
  generalize makesF N n a = ma at HM1 HE
  generalize makesF N n b = mb at HM2 HE
  generalize agreesF N n a b = res at HE ⊢
  generalize hasKeyF N b = kb at HKB HE
  generalize hasKeyF N a = ka at HKA HE
  go_enter Tryz.func64, Tryz.ntmps64
  go_wp2_with fail
  refine (HM1.out _ HR.out).mono ?_
  rintro e w1 ⟨rfl, hb1⟩
  have HR1 := hid (HR.out.below hb1)
  have HB1 := hid hb1
  clear hb1
  go_wp2_with fail
  refine (HM2.out _ HR1.out).mono ?_
  rintro e w2 ⟨rfl, hb2⟩
  have HR2 := hid (HR1.out.below hb2)
  have HB2 := hid (two_below HB1.out hb2)
  clear hb2
  cases ma
  · cases mb
    · go_wp2_with fail
      go_ret
      exact ⟨by rw [HE.out]; rfl, HB2.out⟩
    · go_wp2_with fail
      refine (HKA.out _ HR2.out _).mono ?_
      rintro e w3 ⟨rfl, hb3⟩
      have HB3 := hid (two_below HB2.out hb3)
      clear hb3
      go_wp2_with fail
      go_ret
      exact ⟨by rw [HE.out]; simp, HB3.out⟩
  · go_wp2_with fail
    refine (HKB.out _ HR2.out _).mono ?_
    rintro e w3 ⟨rfl, hb3⟩
    have HB3 := hid (two_below HB2.out hb3)
    have HR3 := hid (HR2.out.below hb3)
    clear hb3
    cases hkb : kb mb
    · cases mb
      · go_wp2_with fail
        go_ret
        exact ⟨by rw [HE.out, hkb]; rfl, HB3.out⟩
      · go_wp2_with fail
        refine (HKA.out _ HR3.out _).mono ?_
        rintro e w4 ⟨rfl, hb4⟩
        have HB4 := hid (two_below HB3.out hb4)
        clear hb4
        go_wp2_with fail
        go_ret
        exact ⟨by rw [HE.out, hkb]; simp, HB4.out⟩
    · go_wp2_with fail
      go_ret
      exact ⟨by rw [HE.out, hkb]; simp, HB3.out⟩
end Go.Proofs.YtkifchjpgdmcoaaGreatDoor

/- What makes answers. -/
namespace Go.Proofs.YtkifchjpgdmcoaaGreatDoor
open Go.RowKit Go.Maps Go.WideElems

theorem open_yes' (t : Bs) (c : UInt8) (l : Bs) (w : World) (ht : t = c :: l) (hd : Tm.deep t ≠ 0) :
    Calls Tryz.prog 61 #[St t] w fun en w' => ∃ kids, en = .returned (.tuple #[.agg #[.int .u8 (c.toNat : Int), .int .i64 (setN t 0), .string (setX t ⟨#[]⟩), kids], .bool true]) ∧
      w'.ownsRow w.heap.size 22 1 kids (Tm.kidsOf 63 t).length ((Tm.kidsOf 63 t).map St) ∧ Below w.heap.size w w' := by
  subst ht
  exact open_yes c l w hd

theorem Rm.drew {w : World} {p : Nat} {o : Option Nat} {N : NM} (h : Rm w p o N) : Rm w.drew p o N := by
  refine ⟨h.ptr, ?_⟩
  have := h.om
  cases o with
  | none => exact this
  | some b => exact Om.same this rfl
theorem of_drew {B : Nat} {w0 w : World} (h : Below B w0 w) : Below B w0 w.drew := ⟨h.os, h.tape, h.output, h.size, h.block⟩
/-- the texts of a row -/
theorem row_cells {w : World} {base : Nat} {v : Value} {l : List Bs} (h : w.ownsRow base 22 1 v l.length (l.map St)) (h0 : 0 < l.length) :
    ∃ g kc, v = .slice (some ⟨g, 0, none⟩) l.length kc ∧ base ≤ g ∧ g < w.heap.size ∧ ∀ i (hi : i < l.length), w.cell? ⟨g, i, none⟩ = some (St l[i]) := by
  rcases h.2 with ⟨h1, h2⟩ | ⟨g, cap, cur, hv, hb, hg, hc1, hc2, hc3, hc4⟩
  · omega
  · refine ⟨g, cap, hv, hb, lt_of_block hg, fun i hi => ?_⟩
    have e : (cur.toList.take (l.length * 1))[i]? = some (St l[i]) := by rw [hc4]; simp [hi]
    rw [Nat.mul_one, List.getElem?_take_of_lt hi, Array.getElem?_toList] at e
    rw [cell_of_heap hg]
    exact e

set_option maxHeartbeats 4000000 in
theorem mk_there (n : Nat) (w : World) (p : Nat) (o : Option Nat) (N : NM) (t : Bs) (h : Rm w p o N) (ht : t.length ≤ 100000) (hN : (N t).isSome = true) :
    Calls Tryz.prog 34 #[.pointer (some ⟨p, 0, none⟩), St t] w fun e w' => e = .returned (.bool (makesF N n t)) ∧ Below w.heap.size w w' := by
  have HE : Hid (makesF N n t = true) := by apply hid; cases n <;> simp [makesF, hN]
  have hcell := h.cell
  have hlk := h.ok t ht
  rw [hN] at hlk
  clear h hN
  generalize nget N t = nt at hlk
  go_enter Tryz.func34, Tryz.ntmps34
  go_wp2_with fail
  go_ret
  exact ⟨by rw [HE.out]; rfl, (Below.refl _ _).alloc (Nat.le_refl _) _⟩

set_option maxHeartbeats 4000000 in
theorem mk_wrong (n : Nat) (w : World) (p : Nat) (o : Option Nat) (N : NM) (t : Bs) (h : Rm w p o N) (ht : t.length ≤ 100000) (hN : (N t).isSome = false) (hd : Tm.deep t = 0) :
    Calls Tryz.prog 34 #[.pointer (some ⟨p, 0, none⟩), St t] w fun e w' => e = .returned (.bool (makesF N n t)) ∧ Below w.heap.size w w' := by
  have HE : Hid (makesF N n t = false) := by apply hid; cases n <;> simp [makesF, hN, hd]
  have HC := hid (fun W => open_no t W hd)
  have hcell := h.cell
  have hlk := h.ok t ht
  rw [hN] at hlk
  clear h hN hd
  generalize nget N t = nt at hlk
  go_enter Tryz.func34, Tryz.ntmps34
  go_wp2_with fail
  refine (HC.out _).mono ?_
  rintro e w1 ⟨rfl, hb1⟩
  have HB1 := hid (two_below ((Below.refl _ w).alloc (Nat.le_refl _) _) hb1)
  clear hb1
  go_wp2_with fail
  go_ret
  exact ⟨by rw [HE.out]; rfl, HB1.out.alloc HB1.out.size _⟩

set_option maxHeartbeats 4000000 in
theorem mk_step {n : Nat} (hM : MkC n) (w : World) (p : Nat) (o : Option Nat) (N : NM) (t : Bs) (h : Rm w p o N) (ht : t.length ≤ 100000) (hN : (N t).isSome = false) (hd : Tm.deep t ≠ 0) (hdn : Tm.deep t ≤ n + 1) :
    Calls Tryz.prog 34 #[.pointer (some ⟨p, 0, none⟩), St t] w fun e w' => e = .returned (.bool (makesF N (n + 1) t)) ∧ Below w.heap.size w w' := by
  obtain ⟨c, l, htc⟩ : ∃ c l, t = c :: l := by cases t with | nil => exact absurd (by decide) hd | cons c l => exact ⟨c, l, rfl⟩
  have HE : Hid (makesF N (n + 1) t = (if c = 110 then false else if c = 88 then (match Tm.kidsOf 63 t with | [a, b] => agreesF N n a b | _ => false) else (Tm.kidsOf 63 t).all (makesF N n))) := by
    apply hid; rw [makesF, hN]; simp only [Bool.false_or, agreesF]; rw [show (Tm.deep t != 0) = true by simpa using hd, Bool.true_and, htc]; simp; rfl
  have HC := hid (fun W => open_yes' t c l W htc hd)
  have HKL := hid (Tm.kids_count hd)
  have HKR := hid (fun k (hk : k ∈ Tm.kidsOf 63 t) => Tm.kids_right hd hk)
  have HX : Hid (c = 88 → ∃ a b, Tm.kidsOf 63 t = [a, b]) := by
    apply hid
    intro e
    subst e
    rw [htc]
    rw [htc] at hd
    exact Tm.kids_pair hd (by decide) (by decide) (by decide) (by decide) (by decide)
  have hcell := h.cell
  have hlk := h.ok t ht
  have HR := hid h
  have HDN := hid hdn
  rw [hN] at hlk
  clear h hN hd hdn
  generalize nget N t = nt at hlk
  have HTC := hid htc
  clear htc
  generalize hks : Tm.kidsOf 63 t = ks at HE HC HKR HX HKL
  clear hks
  go_enter Tryz.func34, Tryz.ntmps34
  go_wp2_with fail
  refine (HC.out _).mono ?_
  rintro e w1 ⟨kids, rfl, hown, hb1⟩
  have HB1 := hid (two_below ((Below.refl _ w).alloc (Nat.le_refl _) _) hb1)
  have HOW := hid hown
  have HR1 := hid (HR.out.below HB1.out)
  obtain ⟨ao, kc, rfl⟩ := own_shape hown
  clear hb1 hown hcell hlk HC
  generalize setN t 0 = tn
  generalize setX t ⟨#[]⟩ = tx
  by_cases h110 : c = 110
  · subst h110
    go_wp2_with fail
    go_ret
    exact ⟨by rw [HE.out]; rfl, HB1.out.alloc HB1.out.size _⟩
  · have hc110 : ¬ (c.toNat : Int) = 110 := by intro e; exact h110 (UInt8.toNat_inj.1 (by show c.toNat = 110; omega))
    by_cases h88 : c = 88
    · subst h88
      obtain ⟨a, b, hab⟩ := HX.out rfl
      subst hab
      obtain ⟨g, kc', hv, hg1, hg2, hcs⟩ := row_cells HOW.out (by simp)
      cases hv
      have k0 : w1.cell? ⟨g, 0, none⟩ = some (St a) := hcs 0 (by simp)
      have k1 : w1.cell? ⟨g, 1, none⟩ = some (St b) := hcs 1 (by simp)
      have HA : Hid (∀ W, Rm W p o N → Calls Tryz.prog 64 #[.pointer (some ⟨p, 0, none⟩), St a, St b] W fun e w' => e = .returned (.bool (agreesF N n a b)) ∧ Below W.heap.size W w') := by
        apply hid
        intro W hW
        obtain ⟨_, a1, a2, _⟩ := HKR.out a (by simp)
        obtain ⟨_, b1, b2, _⟩ := HKR.out b (by simp)
        have := HDN.out
        exact agrees_any hM W p o N hW a b (by omega) (by omega) (by omega) (by omega)
      have HWX : Hid (Below w.heap.size w (w1.alloc (.cells #[.int .u8 88, .int .i64 tn, .string tx, .slice (some ⟨g, 0, none⟩) 2 kc] 82))) := hid (HB1.out.alloc HB1.out.size _)
      have HRX := hid (HR.out.below HWX.out)
      have HS : Hid ((w1.alloc (.cells #[.int .u8 88, .int .i64 tn, .string tx, .slice (some ⟨g, 0, none⟩) 2 kc] 82)).cell? ⟨w1.heap.size, 3, none⟩ = some (.slice (some ⟨g, 0, none⟩) 2 kc) ∧ (w1.alloc (.cells #[.int .u8 88, .int .i64 tn, .string tx, .slice (some ⟨g, 0, none⟩) 2 kc] 82)).cell? ⟨g, 0, none⟩ = some (St a) ∧ (w1.alloc (.cells #[.int .u8 88, .int .i64 tn, .string tx, .slice (some ⟨g, 0, none⟩) 2 kc] 82)).cell? ⟨g, 1, none⟩ = some (St b)) := by
        apply hid
        refine ⟨by rw [World.cell?_alloc_mark]; rfl, ?_, ?_⟩
        · exact ((Below.refl w1.heap.size w1).alloc (Nat.le_refl _) _ |>.cell (p := ⟨g, 0, none⟩) hg2).trans k0
        · exact ((Below.refl w1.heap.size w1).alloc (Nat.le_refl _) _ |>.cell (p := ⟨g, 1, none⟩) hg2).trans k1
      have HER : Hid (makesF N (n + 1) t = agreesF N n a b) := by apply hid; rw [HE.out]; rfl
      clear hcs k0 k1 HE HOW HX HKR
      go_wp2_with fail
      generalize w1.alloc (.cells #[.int .u8 88, .int .i64 tn, .string tx, .slice (some ⟨g, 0, none⟩) 2 kc] 82) = wX at HWX HRX HS ⊢
      obtain ⟨s1, s2, s3⟩ := HS.out
      have HGX : Hid (w1.heap.size < wX.heap.size ∧ g < wX.heap.size) := hid ⟨World.block_lt_of_cell? wX ⟨w1.heap.size, 3, none⟩ s1, World.block_lt_of_cell? wX ⟨g, 0, none⟩ s2⟩
      have HSB : Hid (∀ W, Below wX.heap.size wX W → W.cell? ⟨w1.heap.size, 3, none⟩ = some (.slice (some ⟨g, 0, none⟩) 2 kc) ∧ W.cell? ⟨g, 0, none⟩ = some (St a) ∧ W.cell? ⟨g, 1, none⟩ = some (St b)) :=
        hid (fun W hb => ⟨(hb.cell (p := ⟨w1.heap.size, 3, none⟩) HGX.out.1).trans s1, (hb.cell (p := ⟨g, 0, none⟩) HGX.out.2).trans s2, (hb.cell (p := ⟨g, 1, none⟩) HGX.out.2).trans s3⟩)
      go_region_held3 (fun wx => wx.cell? ⟨w1.heap.size, 3, none⟩ = some (.slice (some ⟨g, 0, none⟩) 2 kc) ∧ wx.cell? ⟨g, 0, none⟩ = some (St a) ∧ wx.cell? ⟨g, 1, none⟩ = some (St b)) (first | exact HS.out | exact S2.out) (first | (go_at_call 64; refine (HA.out _ HRX.out.drew).mono ?_; rintro e w2 ⟨rfl, hb2⟩; have HB2 := hid (two_below (of_drew (Below.refl wX.heap.size wX)) hb2); have S2 := hid (HSB.out _ HB2.out); clear hb2))
      go_wp2_with fail
      go_ret
      exact ⟨by rw [HER.out]; rfl, two_below HWX.out HB2.out⟩
    · have hc88 : ¬ (c.toNat : Int) = 88 := by intro e; exact h88 (UInt8.toNat_inj.1 (by show c.toNat = 88; omega))
      have hb110 : ((c.toNat : Int) == 110) = false := by simpa using hc110
      have hb88 : ((c.toNat : Int) == 88) = false := by simpa using hc88
      have HER : Hid (makesF N (n + 1) t = ks.all (makesF N n)) := by apply hid; rw [HE.out, if_neg h110, if_neg h88]
      clear HE HX
      have HA : Hid (∀ W i (hi : i < ks.length), Rm W p o N → Calls Tryz.prog 34 #[.pointer (some ⟨p, 0, none⟩), St ks[i]] W fun e w' => e = .returned (.bool (makesF N n ks[i])) ∧ Below W.heap.size W w') := by
        apply hid
        intro W i hi hW
        obtain ⟨_, a1, a2, _⟩ := HKR.out ks[i] (List.getElem_mem hi)
        have := HDN.out
        exact hM W p o N ks[i] hW (by omega) (by omega)
      go_wp2_with fail
      have HWX : Hid (Below w.heap.size w (w1.alloc (.cells #[.int .u8 (c.toNat : Int), .int .i64 tn, .string tx, .slice ao ks.length kc] 82))) := hid (HB1.out.alloc HB1.out.size _)
      have HRX := hid (HR.out.below HWX.out)
      have HOX := hid (HOW.out.alloc (.cells #[.int .u8 (c.toNat : Int), .int .i64 tn, .string tx, .slice ao ks.length kc] 82))
      generalize w1.alloc (.cells #[.int .u8 (c.toNat : Int), .int .i64 tn, .string tx, .slice ao ks.length kc] 82) = wX at HWX HRX HOX ⊢
      clear HOW HR HR1 HB1
      obtain ⟨m, hm⟩ : ∃ m, m = ks.length := ⟨_, rfl⟩
      rw [← hm]
      have HML := hid hm
      have HMB : Hid (m ≤ 100000) := by
        apply hid; have := HKL.out; omega
      have hmb := HMB.out
      clear hm
      go_loopg [47] m (fun gg v wr => ∃ i : Nat, i ≤ m ∧ gg = m - i ∧ v = .int .i64 (i : Int) ∧ Below wX.heap.size wX wr ∧ ∀ j (hj : j < ks.length), j < i → makesF N n ks[j] = true)
      case atStart => exact ⟨0, by omega, by omega, rfl, Below.refl _ _, fun j hj h => by omega⟩
      case round =>
        obtain ⟨i, hi, rfl, rfl, hbel, hall⟩ := hrel
        have HBE := hid hbel
        have HAL := hid hall
        clear hbel hall
        by_cases hil : i < m
        · have hik : i < ks.length := by rw [← HML.out]; exact hil
          obtain ⟨g, kc', hv, hg1, hg2, hcs⟩ := row_cells HOX.out (by omega)
          cases hv
          have hcell := (HBE.out.cell (p := ⟨g, i, none⟩) hg2).trans (hcs i hik)
          have HCI := hid (HA.out wr i hik (HRX.out.below HBE.out))
          generalize hki : ks[i] = ki at hcell HCI
          have HKI := hid hki
          clear hcs hki
          cases hmk : makesF N n ki
          · rw [hmk] at HCI
            go_wp2_with fail
            refine HCI.out.mono ?_
            rintro e w2 ⟨rfl, hb2⟩
            have HB2 := hid (two_below HBE.out hb2)
            clear hb2
            go_wp2_with fail
            go_ret
            refine ⟨?_, two_below HWX.out HB2.out⟩
            have e1 : ks.all (makesF N n) = false := by
              rw [List.all_eq_false]; exact ⟨ks[i], List.getElem_mem hik, by rw [HKI.out, hmk]; simp⟩
            rw [HER.out, e1]; rfl
          · rw [hmk] at HCI
            go_wp2_with fail
            refine HCI.out.mono ?_
            rintro e w2 ⟨rfl, hb2⟩
            have HB2 := hid (two_below HBE.out hb2)
            clear hb2
            go_wp2_with fail
            go_roundg (m - (i + 1))
            case measure => omega
            case rel =>
              refine ⟨i + 1, by omega, rfl, by go_num, HB2.out, fun j hj hji => ?_⟩
              by_cases e : j = i
              · subst e; rw [HKI.out, hmk]
              · exact HAL.out j hj (by omega)
        · go_wp2_with fail
          go_ret
          refine ⟨?_, two_below HWX.out HBE.out⟩
          have e1 : ks.all (makesF N n) = true := by
            rw [List.all_eq_true]; intro k hk; obtain ⟨j, hj, rfl⟩ := List.getElem_of_mem hk; exact HAL.out j hj (by have := HML.out; omega)
          rw [HER.out, e1]; rfl

theorem mk_all : ∀ n, MkC n
  | 0 => fun w p o N t h ht hd => by
    cases hN : (N t).isSome
    · exact mk_wrong 0 w p o N t h ht hN (by omega)
    · exact mk_there 0 w p o N t h ht hN
  | n + 1 => fun w p o N t h ht hd => by
    cases hN : (N t).isSome
    · by_cases h0 : Tm.deep t = 0
      · exact mk_wrong (n + 1) w p o N t h ht hN h0
      · exact mk_step (mk_all n) w p o N t h ht hN h0 hd
    · exact mk_there (n + 1) w p o N t h ht hN
/-- whether a term can be made of the notes -/
def mkF (N : NM) (t : Bs) : Bool := makesF N 64 t
theorem makes_any (w : World) (p : Nat) (o : Option Nat) (N : NM) (t : Bs) (h : Rm w p o N) (ht : t.length ≤ 100000) :
    Calls Tryz.prog 34 #[.pointer (some ⟨p, 0, none⟩), St t] w fun e w' => e = .returned (.bool (mkF N t)) ∧ Below w.heap.size w w' :=
  mk_all 64 w p o N t h ht (Tm.deep_le t)
end Go.Proofs.YtkifchjpgdmcoaaGreatDoor
