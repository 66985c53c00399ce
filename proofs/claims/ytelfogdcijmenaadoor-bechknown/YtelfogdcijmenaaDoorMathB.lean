/- There and back: the mathematics. -/
import Derived.Test.YtelfogdcijmenaaDoorFlt
namespace Go.Proofs.YtelfogdcijmenaaDoor

theorem let_all : ∀ w : Fin 32, letterOf (UInt8.ofNat w.val) ≠ 49 ∧ outB (letterOf (UInt8.ofNat w.val)) = false ∧ capB (letterOf (UInt8.ofNat w.val)) = false ∧ lowC (letterOf (UInt8.ofNat w.val)) = letterOf (UInt8.ofNat w.val) ∧ wordOf (letterOf (UInt8.ofNat w.val)) = UInt8.ofNat w.val := by decide +kernel
theorem let_of {w : UInt8} (h : w.toNat < 32) : letterOf w ≠ 49 ∧ outB (letterOf w) = false ∧ capB (letterOf w) = false ∧ lowC (letterOf w) = letterOf w ∧ wordOf (letterOf w) = w := by
  have := let_all ⟨w.toNat, h⟩
  simpa using this
theorem word_all : ∀ c : Fin 256, (wordOf (UInt8.ofNat c.val)).toNat < 32 → letterOf (wordOf (UInt8.ofNat c.val)) = UInt8.ofNat c.val := by decide +kernel
theorem word_of {c : UInt8} (h : (wordOf c).toNat < 32) : letterOf (wordOf c) = c := by
  have := word_all ⟨c.toNat, c.toNat_lt⟩
  simp only [UInt8.ofNat_toNat] at this
  exact this h
theorem low_all : ∀ c : Fin 256, capB (lowC (UInt8.ofNat c.val)) = false ∧ (outB (UInt8.ofNat c.val) = false → outB (lowC (UInt8.ofNat c.val)) = false) ∧ (capB (UInt8.ofNat c.val) = false → lowC (UInt8.ofNat c.val) = UInt8.ofNat c.val) := by decide +kernel
theorem low_of (c : UInt8) : capB (lowC c) = false ∧ (outB c = false → outB (lowC c) = false) ∧ (capB c = false → lowC c = c) := by
  have := low_all ⟨c.toNat, c.toNat_lt⟩
  simpa using this
theorem any_false {p : UInt8 → Bool} {l : Bs} : l.any p = false ↔ ∀ c ∈ l, p c = false := by
  rw [List.any_eq_false]
  exact ⟨fun h c hc => by simpa using h c hc, fun h c hc => by rw [h c hc]; decide⟩
theorem low_same {l : Bs} (h : l.any capB = false) : low l = l := by
  unfold low
  conv => rhs; rw [← List.map_id l]
  apply List.map_congr_left
  intro c hc
  exact (low_of c).2.2 (any_false.1 h c hc)
theorem words_lt {l : Bs} : l.any nwB = false ↔ ∀ c ∈ l, c.toNat < 32 := by
  rw [any_false]
  constructor
  · intro h c hc; have := h c hc; simpa [nwB] using this
  · intro h c hc; have := h c hc; simp [nwB]; omega
/-- a text of a head and words' letters is read so -/
theorem dec_text {h al : Bs} (hf : fitB h = true) (ho : h.any outB = false) (hc : h.any capB = false) (ha : ∀ x ∈ al, x.toNat < 32) (h6 : 6 ≤ al.length) (hl : h.length + 1 + al.length ≤ 32768) :
    decB (h ++ 49 :: al.map letterOf) = if chk 1 (headW h ++ al) ≠ 1 then ([], [], 61) else (h, al.take (al.length - 6), 0) := by
  obtain ⟨s, hs⟩ : ∃ s, s = h ++ 49 :: al.map letterOf := ⟨_, rfl⟩
  have hlet : ∀ c ∈ al.map letterOf, c ≠ 49 ∧ outB c = false ∧ capB c = false ∧ lowC c = c := by
    intro c hcm
    obtain ⟨x, hx, rfl⟩ := List.mem_map.1 hcm
    have := let_of (ha x hx)
    exact ⟨this.1, this.2.1, this.2.2.1, this.2.2.2.1⟩
  have hp := part_app (a := h) (b := al.map letterOf) (fun c hcm => (hlet c hcm).1)
  rw [← hs] at hp ⊢
  have hlw : low (al.map letterOf) = al.map letterOf := low_same (any_false.2 (fun c hcm => (hlet c hcm).2.2.1))
  have hwd : wordsB s = al := by
    unfold wordsB
    rw [hp.1, hlw, List.map_map]
    conv => rhs; rw [← List.map_id al]
    apply List.map_congr_left
    intro x hx
    exact (let_of (ha x hx)).2.2.2.2
  have hsl : s.length = h.length + 1 + al.length := by rw [hs]; simp; omega
  have hcap : s.any capB = false := by
    rw [hs, List.any_append, hc, List.any_cons, any_false.2 (fun c hcm => (hlet c hcm).2.2.1)]
    decide
  have t0 : test s 0 = false := by simp only [test]; rw [decide_eq_false]; omega
  have t1 : test s 1 = false := by
    show s.any outB = false
    rw [hs, List.any_append, ho, List.any_cons, any_false.2 (fun c hcm => (hlet c hcm).2.1)]
    decide
  have t2 : test s 2 = false := by show (s.any smlB && s.any capB) = false; rw [hcap, Bool.and_false]
  have t3 : test s 3 = false := by show (!fitB (headB s)) = false; rw [hp.2, hf]; rfl
  have t4 : test s 4 = false := by simp only [test]; rw [decide_eq_false]; rw [hp.1, List.length_map]; omega
  have t5 : test s 5 = false := by show (wordsB s).any nwB = false; rw [hwd]; exact words_lt.2 ha
  have t6 : test s 6 = decide (chk 1 (headW h ++ al) ≠ 1) := by show decide (chk 1 (headW (low (headB s)) ++ wordsB s) ≠ 1) = _; rw [hwd, hp.2, low_same hc]
  have hp6 : ∀ j, j < 6 → test s j = false := by
    intro j hj
    have : j = 0 ∨ j = 1 ∨ j = 2 ∨ j = 3 ∨ j = 4 ∨ j = 5 := by omega
    rcases this with rfl | rfl | rfl | rfl | rfl | rfl <;> assumption
  by_cases hk : chk 1 (headW h ++ al) ≠ 1
  · rw [if_pos hk]
    exact dec_fail (i := 6) (by omega) hp6 (by rw [t6]; simpa using hk)
  · rw [if_neg hk]
    have h7 : ∀ j, j < 7 → test s j = false := by
      intro j hj
      by_cases e : j = 6
      · rw [e, t6]; simpa using hk
      · exact hp6 j (by omega)
    rw [dec_ok h7, hp.2, low_same hc, hwd, hp.1, List.length_map]
theorem enc_lt (h ws : Bs) : ∀ x ∈ encW h ws, x.toNat < 32 := by
  intro x hx
  simp only [encW, closeW, List.mem_cons, List.not_mem_nil, or_false] at hx
  rcases hx with e | e | e | e | e | e <;> (rw [e, dig_toNat]; omega)
theorem enc_ok {h ws : Bs} {t : Bs} (he : encB h ws = (t, 0)) : fitB h = true ∧ h.any outB = false ∧ h.any capB = false ∧ (∀ x ∈ ws, x.toNat < 32) ∧ h.length + ws.length + 7 ≤ 32768 ∧ t = textB h ws := by
  unfold encB at he
  by_cases hb : (!fitB h || h.any outB || h.any capB || ws.any nwB) = true
  · rw [if_pos hb] at he
    cases he
  · rw [if_neg hb] at he
    by_cases hl : 32768 < h.length + ws.length + 7
    · rw [if_pos hl] at he
      cases he
    · rw [if_neg hl] at he
      have hb' : (!fitB h || h.any outB || h.any capB || ws.any nwB) = false := by simpa using hb
      rw [Bool.or_eq_false_iff, Bool.or_eq_false_iff, Bool.or_eq_false_iff] at hb'
      obtain ⟨⟨⟨h1, h2⟩, h3⟩, h4⟩ := hb'
      exact ⟨by simpa using h1, h2, h3, words_lt.1 h4, by omega, (Prod.mk.inj he).1.symm⟩
/-- heads and words, there and back -/
theorem dec_enc {h ws t : Bs} (he : encB h ws = (t, 0)) : decB t = (h, ws, 0) := by
  obtain ⟨h1, h2, h3, h4, h5, rfl⟩ := enc_ok he
  have ha : ∀ x ∈ ws ++ encW h ws, x.toNat < 32 := fun x hx => by
    rcases List.mem_append.1 hx with hx | hx
    · exact h4 x hx
    · exact enc_lt h ws x hx
  have e6 : (encW h ws).length = 6 := rfl
  unfold textB
  rw [dec_text h1 h2 h3 ha (by rw [List.length_append, e6]; omega) (by rw [List.length_append, e6]; omega), if_neg (by rw [close_text]; decide)]
  rw [List.length_append, e6, Nat.add_sub_cancel]
  simp
/-- one letter is another word's -/
theorem dec_one {h ws t : Bs} (he : encB h ws = (t, 0)) (p : Nat) (hp : p < ws.length + 6) (x : UInt8) (hx : x.toNat < 32) (hne : (t.getD (h.length + 1 + p) 0) ≠ letterOf x) :
    decB (t.set (h.length + 1 + p) (letterOf x)) = ([], [], 61) := by
  obtain ⟨h1, h2, h3, h4, h5, rfl⟩ := enc_ok he
  have e6 : (encW h ws).length = 6 := rfl
  obtain ⟨al, hal⟩ : ∃ al, al = ws ++ encW h ws := ⟨_, rfl⟩
  have hall : al.length = ws.length + 6 := by rw [hal, List.length_append, e6]
  have ha : ∀ x ∈ al, x.toNat < 32 := fun x hx => by
    rw [hal] at hx
    rcases List.mem_append.1 hx with hx | hx
    · exact h4 x hx
    · exact enc_lt h ws x hx
  have hpl : p < al.length := by omega
  unfold textB at hne ⊢
  rw [← hal] at hne ⊢
  have hget : (h ++ 49 :: al.map letterOf).getD (h.length + 1 + p) 0 = letterOf al[p] := by
    rw [List.getD_eq_getElem?_getD, List.getElem?_append_right (by omega)]
    have : h.length + 1 + p - h.length = p + 1 := by omega
    rw [this, List.getElem?_cons_succ, List.getElem?_map, List.getElem?_eq_getElem hpl]
    rfl
  have hset : (h ++ 49 :: al.map letterOf).set (h.length + 1 + p) (letterOf x) = h ++ 49 :: (al.set p x).map letterOf := by
    rw [List.set_append_right _ _ (by omega)]
    have : h.length + 1 + p - h.length = p + 1 := by omega
    rw [this, List.set_cons_succ, List.map_set]
  have hxp : al[p] ≠ x := fun e => hne (by rw [hget, e])
  have ha2 : ∀ y ∈ al.set p x, y.toNat < 32 := fun y hy => by
    rcases List.mem_or_eq_of_mem_set hy with h | h
    · exact ha y h
    · rw [h]; exact hx
  rw [hset, dec_text h1 h2 h3 ha2 (by rw [List.length_set]; omega) (by rw [List.length_set]; omega), if_pos]
  have hsplit : al = al.take p ++ al[p] :: al.drop (p + 1) := by simp
  have hsplit2 : al.set p x = al.take p ++ x :: al.drop (p + 1) := List.set_eq_take_append_cons_drop.trans (if_pos hpl)
  have hck : chk 1 (headW h ++ al) = 1 := by rw [hal]; exact close_text h ws
  have := chk_one (headW h ++ al.take p) (al.drop (p + 1)) al[p] x 1 hxp
  rw [List.append_assoc, List.append_assoc, ← hsplit, ← hsplit2, hck] at this
  exact fun e => this e.symm
/-- the closing words are those alone -/
theorem close_uniq {s : Nat} (hs : s < 1073741824) {d0 d1 d2 d3 d4 d5 : UInt8} (h0 : d0.toNat < 32) (h1 : d1.toNat < 32) (h2 : d2.toNat < 32) (h3 : d3.toNat < 32) (h4 : d4.toNat < 32) (h5 : d5.toNat < 32) (h : chk s [d0, d1, d2, d3, d4, d5] = 1) :
    [d0, d1, d2, d3, d4, d5] = closeW (chk s zeros ^^^ 1) := by
  have f0 := step_up (a := s) (x := 0) (w := d0.toNat) hs (by omega) h0
  rw [Nat.xor_zero] at f0
  have b1 := step_lt s 0 (by omega)
  have b2 := step_lt (step s 0) 0 (by omega)
  have b3 := step_lt (step (step s 0) 0) 0 (by omega)
  have b4 := step_lt (step (step (step s 0) 0) 0) 0 (by omega)
  have b5 := step_lt (step (step (step (step s 0) 0) 0) 0) 0 (by omega)
  have e : step (step (step (step (step (step s d0.toNat) d1.toNat) d2.toNat) d3.toNat) d4.toNat) d5.toNat = 1 := h
  rw [f0, step_up b1 (by omega) h1, step_up b2 (by omega) h2, step_up b3 (by omega) h3, step_up b4 (by omega) h4, step_up b5 (by omega) h5] at e
  have hz : chk s zeros = step (step (step (step (step (step s 0) 0) 0) 0) 0) 0 := rfl
  rw [← hz] at e
  have hc : chk s zeros ^^^ 1 = 32 * (32 * (32 * (32 * (32 * (32 * 0 + d0.toNat) + d1.toNat) + d2.toNat) + d3.toNat) + d4.toNat) + d5.toNat := by
    rw [← e, ← Nat.xor_assoc, Nat.xor_self, Nat.zero_xor]
  have dg : ∀ i (d : UInt8), (chk s zeros ^^^ 1) / 2 ^ (5 * (5 - i)) % 32 = d.toNat → d = dig (chk s zeros ^^^ 1) i := by
    intro i d hd
    apply UInt8.toNat_inj.1
    rw [dig_toNat, hd]
  unfold closeW
  rw [← dg 0 d0 (by rw [hc]; simp only [Nat.sub_zero, Nat.reduceMul, Nat.reducePow]; omega), ← dg 1 d1 (by rw [hc]; simp only [Nat.reduceSub, Nat.reduceMul, Nat.reducePow]; omega), ← dg 2 d2 (by rw [hc]; simp only [Nat.reduceSub, Nat.reduceMul, Nat.reducePow]; omega), ← dg 3 d3 (by rw [hc]; simp only [Nat.reduceSub, Nat.reduceMul, Nat.reducePow]; omega), ← dg 4 d4 (by rw [hc]; simp only [Nat.reduceSub, Nat.reduceMul, Nat.reducePow]; omega), ← dg 5 d5 (by rw [hc]; simp only [Nat.reduceSub, Nat.reduceMul, Nat.reducePow]; omega)]
theorem close_uniq' {s : Nat} (hs : s < 1073741824) {ds : Bs} (hl : ds.length = 6) (hd : ∀ x ∈ ds, x.toNat < 32) (h : chk s ds = 1) : ds = closeW (chk s zeros ^^^ 1) := by
  match ds, hl with
  | [d0, d1, d2, d3, d4, d5], _ =>
    exact close_uniq hs (hd d0 (by simp)) (hd d1 (by simp)) (hd d2 (by simp)) (hd d3 (by simp)) (hd d4 (by simp)) (hd d5 (by simp)) h
theorem part_join {s : Bs} (h : fitB (headB s) = true) : s = headB s ++ 49 :: tailB s := by
  by_cases hm : ∃ a b, s = a ++ 49 :: b ∧ ∀ c ∈ b, c ≠ 49
  · obtain ⟨a, b, e, hb⟩ := hm
    have := part_app (a := a) hb
    rw [← e] at this
    rw [this.1, this.2]
    exact e
  · rcases last_mark s with ⟨_, _, h3⟩ | ⟨i, hi, _, h2, h3⟩
    · rw [h3] at h
      cases h
    · exfalso
      have hne : tailB s ≠ s := fun e => by
        have : (tailB s).length = s.length := by rw [e]
        rw [h2, List.length_drop] at this
        omega
      have hall : ¬ ∀ c ∈ s, c ≠ 49 := fun hc => hne (part_none hc).1
      rw [Classical.not_forall] at hall
      obtain ⟨c, hc⟩ := hall
      rw [Classical.not_imp] at hc
      obtain ⟨hcm, hc49⟩ := hc
      have hc49 : c = 49 := by simpa using hc49
      have key : ∀ (l : Bs), (49 : UInt8) ∈ l → ∃ a b, l = a ++ 49 :: b ∧ ∀ c ∈ b, c ≠ 49 := by
        intro l
        induction l with
        | nil => intro h; cases h
        | cons x l ih =>
          intro hx
          by_cases h9 : (49 : UInt8) ∈ l
          · obtain ⟨a, b, e, hb⟩ := ih h9
            exact ⟨x :: a, b, by rw [e]; rfl, hb⟩
          · rcases List.mem_cons.1 hx with rfl | h
            · exact ⟨[], l, rfl, fun c hc e => h9 (e ▸ hc)⟩
            · exact absurd h h9
      exact hm (key s (hc49 ▸ hcm))
/-- texts, there and back -/
theorem enc_dec {s h ws : Bs} (hd : decB s = (h, ws, 0)) : encB h ws = (low s, 0) := by
  have hp : ∀ j, j < 7 → test s j = false := by
    intro j
    induction j using Nat.strongRecOn with
    | _ j ih =>
      intro hj
      cases ht : test s j with
      | false => rfl
      | true =>
        have := dec_fail hj (fun k hk => ih k hk (by omega)) ht
        rw [this] at hd
        have h9 := (Prod.mk.inj (Prod.mk.inj hd).2).2
        have : j = 0 ∨ j = 1 ∨ j = 2 ∨ j = 3 ∨ j = 4 ∨ j = 5 ∨ j = 6 := by omega
        rcases this with rfl | rfl | rfl | rfl | rfl | rfl | rfl <;> cases h9
  rw [dec_ok hp] at hd
  obtain ⟨e1, e2⟩ := Prod.mk.inj hd
  obtain ⟨e2, _⟩ := Prod.mk.inj e2
  have t0 : s.length ≤ 32768 := by have := hp 0 (by omega); simpa [test] using this
  have t1 : s.any outB = false := hp 1 (by omega)
  have t3 : fitB (headB s) = true := by have := hp 3 (by omega); simpa [test] using this
  have t4 : 6 ≤ (tailB s).length := by have := hp 4 (by omega); simpa [test] using this
  have t5 : (wordsB s).any nwB = false := hp 5 (by omega)
  have t6 : chk 1 (headW (low (headB s)) ++ wordsB s) = 1 := by have := hp 6 (by omega); simpa [test] using this
  have hj := part_join t3
  have hlen : s.length = (headB s).length + 1 + (tailB s).length := by
    conv => lhs; rw [hj]
    simp
    omega
  have hwl := words_lt.1 t5
  have hwn : (wordsB s).length = (tailB s).length := by unfold wordsB low; simp
  have hfl : fitB (low (headB s)) = true := by unfold fitB at t3 ⊢; rw [show (low (headB s)).length = (headB s).length by unfold low; simp]; exact t3
  have hol : (low (headB s)).any outB = false := any_false.2 (fun c hc => by
    unfold low at hc
    obtain ⟨x, hx, rfl⟩ := List.mem_map.1 hc
    exact (low_of x).2.1 (any_false.1 t1 x (by rw [hj]; exact List.mem_append_left _ hx)))
  have hcl : (low (headB s)).any capB = false := any_false.2 (fun c hc => by
    unfold low at hc
    obtain ⟨x, hx, rfl⟩ := List.mem_map.1 hc
    exact (low_of x).1)
  obtain ⟨al, hal⟩ : ∃ al, al = wordsB s := ⟨_, rfl⟩
  rw [← hal] at t6 hwl hwn e2
  rw [← hwn] at e2
  have hws : ws = al.take (al.length - 6) := e2.symm
  have hwsl : ws.length = al.length - 6 := by rw [hws]; simp
  have hclose : al.drop (al.length - 6) = encW h ws := by
    unfold encW
    rw [← List.append_assoc, chk_append 1 (headW h ++ ws) zeros]
    refine close_uniq' (chk_lt _ 1 (by omega)) (by simp; omega) (fun x hx => hwl x (List.mem_of_mem_drop hx)) ?_
    rw [← chk_append, List.append_assoc, hws, List.take_append_drop, ← e1]
    exact t6
  have hall : ws ++ encW h ws = al := by rw [← hclose, hws, List.take_append_drop]
  have htx : textB h ws = low s := by
    unfold textB
    rw [hall, ← e1]
    have h1 : low s = low (headB s) ++ 49 :: low (tailB s) := by
      conv => lhs; rw [hj]
      unfold low
      rw [List.map_append, List.map_cons]
      rfl
    rw [h1]
    congr 2
    rw [hal]
    unfold wordsB
    rw [List.map_map]
    conv => rhs; rw [← List.map_id (low (tailB s))]
    apply List.map_congr_left
    intro c hc
    exact word_of (hwl _ (by rw [hal]; unfold wordsB; exact List.mem_map_of_mem hc))
  unfold encB
  rw [← e1, if_neg, if_neg]
  · rw [e1, htx]
  · rw [hwsl, show (low (headB s)).length = (headB s).length by unfold low; simp]
    omega
  · rw [hfl, hol, hcl, words_lt.2 (fun x hx => hwl x (by rw [hws] at hx; exact List.mem_of_mem_take hx))]
    decide
end Go.Proofs.YtelfogdcijmenaaDoor
