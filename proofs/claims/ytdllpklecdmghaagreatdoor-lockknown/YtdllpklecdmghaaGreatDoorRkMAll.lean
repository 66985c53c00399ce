import Derived.Test.YtdllpklecdmghaaGreatDoorDkAll
import Derived.Test.YtdllpklecdmghaaGreatDoorScnAll
import Derived.Test.YtdllpklecdmghaaGreatDoorLkGAll
/- A lock, written by the document. -/
namespace Go.Proofs.YtdllpklecdmghaaGreatDoor
open Go.RowKit
open Lk (Lt)
theorem one_conv (W : World) (c : UInt8) : (convert 51 9 (.slice (some ⟨W.heap.size, 0, none⟩) 1 1)).run Tryz.prog (W.alloc (.cells #[.int .u8 (c.toNat : Int)] 5)) = .ok (St [c]) (W.alloc (.cells #[.int .u8 (c.toNat : Int)] 5)) :=
  run_convert_bytes_back (P := Tryz.prog) _ 51 9 5 ⟨W.heap.size, 0, none⟩ 1 [c] Tryz.underlying51 Tryz.underlying5 Tryz.underlying9 (fun j hj => by
    obtain rfl : j = 0 := by simpa using hj
    exact new_cell W _ rfl _ _ 0 _ rfl)
theorem dg_c {x : Nat} (h : x < 58) : UInt8.toNat (UInt8.ofNat x) = x := by
  rw [UInt8.toNat_ofNat_of_lt' (show x < 256 by omega)]
theorem dg_facts (n : Nat) (hn : n ≤ 4294967296) : ∃ (r q : Nat) (c : UInt8), r < 10 ∧ q = n / 10 ∧ c = UInt8.ofNat (48 + r) ∧ r = n % 10 ∧ Int.tmod (n : Int) 10 = (r : Int) ∧ Int.tdiv (n : Int) 10 = (q : Int) ∧ wrap64 (48 + (r : Int)) = (c.toNat : Int) ∧ IntKind.u8.wrap (c.toNat : Int) = (c.toNat : Int) ∧ wrap64 (r : Int) = (r : Int) ∧ wrap64 (q : Int) = (q : Int) := by
  have hc1 : UInt8.toNat (UInt8.ofNat (48 + n % 10)) = 48 + n % 10 := dg_c (by omega)
  refine ⟨n % 10, n / 10, UInt8.ofNat (48 + n % 10), by omega, rfl, rfl, rfl, ?_, ?_, ?_, ?_, ?_, ?_⟩
  · rw [Int.tmod_eq_emod_of_nonneg (by omega)]; rfl
  · rw [Int.tdiv_eq_ediv_of_nonneg (by omega)]; rfl
  · rw [hc1]; unfold wrap64; omega
  · rw [hc1, IntKind.wrap_u8]; omega
  · unfold wrap64; omega
  · unfold wrap64; omega
theorem cat_text (a b : Bs) (h : a.length + b.length ≤ 9223372036854775807) (W : World) : (Op.stringOp .add (⟨a.toArray⟩ : ByteArray) ⟨b.toArray⟩).run Tryz.prog W = .ok (St (a ++ b)) W := by
  have h1 := st_app a b
  have h2 : (⟨a.toArray⟩ : ByteArray).size = a.length := by simp [ByteArray.size]
  have h3 : (⟨b.toArray⟩ : ByteArray).size = b.length := by simp [ByteArray.size]
  have h4 : ¬ (9223372036854775807 : Int) < (a.length : Int) + (b.length : Int) := by omega
  simp [Op.stringOp, h1, h2, h3, h4, go_sem]
theorem dec_le (n : Nat) : (Lib.decDigits n).length ≤ n + 1 := by
  induction n using Nat.strongRecOn with
  | ind n ih =>
    by_cases h : n < 10
    · rw [Lib.decDigits_one h]; simp
    · have := ih (n / 10) (by omega)
      rw [Lib.decDigits, dif_neg h, List.length_append, List.length_singleton]
      omega
theorem dg_nine (n q : Nat) (hn : n ≤ 4294967296) (hq : q = n / 10) : (n < 10 → ¬ (9 : Int) < (n : Int)) ∧ (¬ n < 10 → (9 : Int) < (n : Int) ∧ q < n ∧ q ≤ 4294967296) := ⟨fun h => by omega, fun h => by omega⟩
set_option maxHeartbeats 4000000 in
theorem digits_any (n : Nat) : ∀ (w : World), n ≤ 4294967296 → Calls Tryz.prog 58 #[.int .i64 (n : Int)] w fun e w' => e = .returned (St (Lib.decDigits n)) ∧ Below w.heap.size w w' := by
  induction n using Nat.strongRecOn with
  | ind n ih =>
    intro w hn
    obtain ⟨r, q, c, hr, hq, hc, hrn, e1, e2, e3, e4, e5, e6⟩ := dg_facts n hn
    have hcv := one_conv w c
    by_cases h9 : n < 10
    · have h9i := (dg_nine n q hn hq).1 h9
      have HR : Hid (Lib.decDigits n = [c]) := hid (by rw [Lib.decDigits_one h9, hc, hrn, Nat.mod_eq_of_lt h9])
      clear ih hr hq hc hrn h9 hn
      go_enter Tryz.func58, Tryz.ntmps58
      go_wp2_with fail
      go_ret
      exact ⟨by rw [HR.out]; rfl, below_al _ _⟩
    · obtain ⟨h9i, hqn, hql⟩ := (dg_nine n q hn hq).2 h9
      have HR : Hid (Lib.decDigits n = Lib.decDigits q ++ [c]) := hid (by rw [Lib.decDigits, dif_neg h9, hc, hrn, hq])
      have HI : Hid (∀ W, Calls Tryz.prog 58 #[.int .i64 (q : Int)] W fun e w' => e = .returned (St (Lib.decDigits q)) ∧ Below W.heap.size W w') := hid (fun W => ih q hqn W hql)
      have hl := dec_le q
      have HCAT := hid (cat_text (Lib.decDigits q) [c] (Nat.le_trans (Nat.add_le_add_right hl 1) (by clear e1 e2 e3 e4 e5 e6 hcv hr hc hrn; omega)))
      generalize Lib.decDigits q = D at *
      clear hqn hql hl ih hr hq hc hrn h9 hn
      go_enter Tryz.func58, Tryz.ntmps58
      go_wp2_with fail
      refine (HI.out _).mono ?_
      rintro e w1 ⟨rfl, hb⟩
      have hcat := HCAT.out w1
      clear HCAT e1 e2 e3 e4 e5 e6 hcv
      have HB := hid ((below_al _ _).trans (hb.mono (below_al _ _).size))
      clear hb
      go_wp2_with fail
      go_ret
      exact ⟨by rw [HR.out]; rfl, HB.out⟩
end Go.Proofs.YtdllpklecdmghaaGreatDoor
/- The document's reading of a lock as mathematics: it is the program's. No program in it. -/
namespace Go.Proofs.YtdllpklecdmghaaGreatDoor.Lk
open Tm
def dnGo (e : UInt8) : Nat → Nat → Nat → Bs → Option (Nat × Bs)
  | 0, _, _, _ => none
  | _ + 1, _, _, [] => none
  | f + 1, n, i, c :: l =>
    if c = e ∧ 0 < i then some (n, l)
    else if c.toNat < 48 ∨ 57 < c.toNat ∨ (0 < i ∧ n = 0) then none
    else dnGo e f (10 * n + (c.toNat - 48)) (i + 1) l
def dn (e : UInt8) (s : Bs) : Option (Nat × Bs) := dnGo e 11 0 0 s
theorem dnGo_ge {e : UInt8} : ∀ (f n i : Nat) (s : Bs) (m : Nat) (r : Bs), dnGo e f n i s = some (m, r) → n ≤ m
  | 0, _, _, _, _, _, h => by simp [dnGo] at h
  | _ + 1, _, _, [], _, _, h => by simp [dnGo] at h
  | f + 1, n, i, c :: l, m, r, h => by
    rw [dnGo] at h
    split at h
    · simp at h
      omega
    · split at h
      · cases h
      · have := dnGo_ge f _ _ l m r h
        omega
theorem dnGo_nm {e : UInt8} {most : Nat} : ∀ (f n i : Nat) (s : Bs) (m : Nat) (r : Bs), m ≤ most → dnGo e f n i s = some (m, r) → Sc.nmGo e most n i s = some (m, r)
  | 0, _, _, _, _, _, _, h => by simp [dnGo] at h
  | _ + 1, _, _, [], _, _, _, h => by simp [dnGo] at h
  | f + 1, n, i, c :: l, m, r, hm, h => by
    rw [dnGo] at h
    rw [Sc.nmGo]
    split at h
    · rename_i h1
      rw [if_pos h1]
      exact h
    · rename_i h1
      rw [if_neg h1]
      split at h
      · cases h
      · rename_i h2
        rw [if_neg h2]
        have := dnGo_ge f _ _ l m r h
        rw [if_neg (by omega)]
        exact dnGo_nm f _ _ l m r hm h
theorem nmGo_dn {e : UInt8} {most : Nat} : ∀ (f n i : Nat) (s : Bs) (m : Nat) (r : Bs), s.length ≤ r.length + f → Sc.nmGo e most n i s = some (m, r) → dnGo e f n i s = some (m, r)
  | 0, _, _, s, _, _, hl, h => by have := Sc.nmGo_len h; omega
  | _ + 1, _, _, [], _, _, _, h => by simp [Sc.nmGo] at h
  | f + 1, n, i, c :: l, m, r, hl, h => by
    rw [Sc.nmGo] at h
    rw [dnGo]
    split at h
    · rename_i h1
      rw [if_pos h1]
      exact h
    · rename_i h1
      rw [if_neg h1]
      split at h
      · cases h
      · rename_i h2
        rw [if_neg h2]
        split at h
        · cases h
        · rw [List.length_cons] at hl
          exact nmGo_dn f _ _ l m r (by omega) h
theorem dec_ten (k : Nat) (h : k ≤ 1073741823) : (Lib.decDigits k).length ≤ 10 := by
  have h1 : ∀ n : Nat, n ≠ 0 → n < 10 → (Lib.decDigits n).length = 1 := fun n _ hn => by rw [Lib.decDigits_one hn]; rfl
  have hs : ∀ n : Nat, (Lib.decDigits n).length ≤ (Lib.decDigits (n / 10)).length + 1 := fun n => by
    by_cases h : n < 10
    · rw [Lib.decDigits_one h]; simp
    · rw [Lib.decDigits, dif_neg h]; simp
  have h0 : (Lib.decDigits (k / 10 / 10 / 10 / 10 / 10 / 10 / 10 / 10 / 10)).length = 1 := by rw [Lib.decDigits_one (by omega)]; rfl
  have a1 := hs k
  have a2 := hs (k / 10)
  have a3 := hs (k / 10 / 10)
  have a4 := hs (k / 10 / 10 / 10)
  have a5 := hs (k / 10 / 10 / 10 / 10)
  have a6 := hs (k / 10 / 10 / 10 / 10 / 10)
  have a7 := hs (k / 10 / 10 / 10 / 10 / 10 / 10)
  have a8 := hs (k / 10 / 10 / 10 / 10 / 10 / 10 / 10)
  have a9 := hs (k / 10 / 10 / 10 / 10 / 10 / 10 / 10 / 10)
  clear hs h1
  omega
theorem dn_dec {e : UInt8} (he : 57 < e.toNat) {n : Nat} (hn : n ≤ 1073741823) (x : Bs) : dn e (Lib.decDigits n ++ e :: x) = some (n, x) := by
  have h := Sc.nm_dec he hn x
  refine nmGo_dn 11 0 0 _ n x ?_ h
  have := dec_ten n hn
  rw [List.length_append, List.length_cons]
  omega
theorem dn_inv {e : UInt8} {n : Nat} {s r : Bs} (h : dn e s = some (n, r)) : s = Lib.decDigits n ++ e :: r := by
  have h1 : Sc.nm e n s = some (n, r) := dnGo_nm 11 0 0 s n r (Nat.le_refl _) h
  exact (Sc.nm_inv h1).1
def ends (c : UInt8) : Bool := c == 115 || c == 112 || c == 97 || c == 111 || c == 38 || c == 124
def Cut (s : Bs) (i : Nat) : Prop := 1 ≤ i ∧ i ≤ s.length ∧ i ≤ 16384 ∧ (i = s.length ∨ ends (s.getD i 0) = true) ∧ deep (s.take i) ≠ 0
theorem cut_uniq {s : Bs} {i j : Nat} (hi : Cut s i) (hj : Cut s j) : i = j := by
  obtain ⟨_, hil, _, _, hid⟩ := hi
  obtain ⟨_, hjl, _, _, hjd⟩ := hj
  have h := is_uniq (deep_is hid).1 (deep_is hjd).1 (x := s.drop i) (y := s.drop j) (by rw [List.take_append_drop, List.take_append_drop])
  have := congrArg List.length h.1
  rw [List.length_take, List.length_take] at this
  omega
open Classical in
noncomputable def dterm (s : Bs) : Option Nat := if h : ∃ i, Cut s i then some (Classical.choose h) else none
theorem dterm_some {s : Bs} {i : Nat} (h : Cut s i) : dterm s = some i := by
  have he : ∃ j, Cut s j := ⟨i, h⟩
  unfold dterm
  rw [dif_pos he]
  exact congrArg some (cut_uniq (Classical.choose_spec he) h)
theorem dterm_none {s : Bs} (h : ∀ i, ¬ Cut s i) : dterm s = none := by
  unfold dterm
  rw [dif_neg (fun ⟨i, hi⟩ => h i hi)]
theorem dterm_cut {s : Bs} {i : Nat} (h : dterm s = some i) : Cut s i := by
  unfold dterm at h
  split at h
  · rename_i he
    cases h
    exact Classical.choose_spec he
  · cases h
def dreadK (f : Nat → Bs → Option (Lt × Bs × Nat)) : Nat → Nat → Bs → Option (List Lt × Bs × Nat)
  | 0, p, s => some ([], s, p)
  | n + 1, p, s => match dreadK f n p s with
    | none => none
    | some (ks, y, q) => match f q y with
      | none => none
      | some (l, z, m) => some (ks ++ [l], z, m)
noncomputable def dread : Nat → Nat → Bs → Option (Lt × Bs × Nat)
  | 0, _, _ => none
  | _ + 1, _, [] => none
  | g + 1, p, c :: r =>
    if p = 0 then none
    else if Sc.kindOf c = 1 ∨ Sc.kindOf c = 2 then (match dterm r with
      | none => none
      | some i => some (.mk (Sc.kindOf c) (r.take i) 0 [], r.drop i, p - 1))
    else if Sc.kindOf c = 3 ∨ Sc.kindOf c = 4 then (match dn 59 r with
      | none => none
      | some (n, x) => some (.mk (Sc.kindOf c) [] (n : Int) [], x, p - 1))
    else if Sc.kindOf c = 5 ∨ Sc.kindOf c = 6 then (match dn 58 r with
      | none => none
      | some (n, x) => if 8 < n then none else match dreadK (dread g) n (p - 1) x with
        | none => none
        | some (ks, y, q) => some (.mk (Sc.kindOf c) [] 0 ks, y, q))
    else none
theorem dreadK_len {f : Nat → Bs → Option (Lt × Bs × Nat)} : ∀ {n p : Nat} {s : Bs} {ks : List Lt} {y : Bs} {q : Nat}, dreadK f n p s = some (ks, y, q) → ks.length = n
  | 0, p, s, ks, y, q, h => by rw [dreadK] at h; cases h; rfl
  | n + 1, p, s, ks, y, q, h => by
    rw [dreadK] at h
    split at h
    · cases h
    · rename_i h1
      split at h
      · cases h
      · cases h
        rw [List.length_append, dreadK_len h1]
        rfl
def Bh (y : Bs) : Prop := y = [] ∨ ends (y.headD 0) = true
theorem ends_letter {k : Nat} (h1 : 1 ≤ k) (h6 : k ≤ 6) : ends (letter k) = true := by
  have : k = 1 ∨ k = 2 ∨ k = 3 ∨ k = 4 ∨ k = 5 ∨ k = 6 := by omega
  rcases this with rfl | rfl | rfl | rfl | rfl | rfl <;> rfl
theorem bh_wr {l : Lt} (h : ok l = true) (y : Bs) : Bh (wr l ++ y) := by
  cases l with
  | mk k t n ks =>
    rw [ok, Bool.and_eq_true] at h
    have hk := fit_is_kind h.1
    right
    rw [wr, List.cons_append, List.headD_cons]
    exact ends_letter hk.1 hk.2
theorem cut_app {t y : Bs} (hd : deep t ≠ 0) (hy : Bh y) : Cut (t ++ y) t.length := by
  have hi := deep_is hd
  have hp := len_pos hi.1
  refine ⟨hp, by simp, hi.2, ?_, by rw [List.take_left' rfl]; exact hd⟩
  rcases hy with rfl | hy
  · left; simp
  · cases y with
    | nil => left; simp
    | cons c y =>
      right
      have : (t ++ c :: y).getD t.length 0 = c := by simp
      rw [this]
      exact hy
theorem dread_wr : ∀ (l : Lt), ok l = true → ∀ (g p : Nat) (x : Bs), Bh x → size l ≤ p → p < g → dread g p (wr l ++ x) = some (l, x, p - size l) := by
  intro l
  induction l using Lt.ind with
  | h k t n ks ih =>
    intro hok g p x hx hp hg
    rw [ok, Bool.and_eq_true] at hok
    obtain ⟨hf, hoks⟩ := hok
    obtain ⟨g, rfl⟩ : ∃ j, g = j + 1 := ⟨g - 1, by omega⟩
    have hk := fit_is_kind hf
    have hkl := kind_letter hk.1 hk.2
    rw [size] at hp ⊢
    rw [wr, List.cons_append, dread, if_neg (by omega)]
    simp only [hkl]
    by_cases h12 : k = 1 ∨ k = 2
    · obtain ⟨rfl, rfl, hd⟩ := fitT h12 hf
      rw [if_pos h12, if_pos h12, dterm_some (cut_app hd hx)]
      simp [sizes]
    · rw [if_neg h12, if_neg h12]
      by_cases h34 : k = 3 ∨ k = 4
      · obtain ⟨rfl, rfl, h0, h1⟩ := fitN h34 hf
        rw [if_pos h34, if_pos h34, List.append_assoc, List.singleton_append, dn_dec (by decide) (by omega)]
        simp only [sizes]
        rw [Int.toNat_of_nonneg h0]
      · rw [if_neg h34, if_neg h34]
        have h56 : k = 5 ∨ k = 6 := by omega
        obtain ⟨rfl, rfl, h0, h8⟩ := fitK h56 hf
        rw [if_pos h56, List.append_assoc, List.cons_append, dn_dec (by decide) (by omega)]
        simp only
        rw [if_neg (by omega)]
        have hK : ∀ (ms : List Lt), (∀ y ∈ ms, y ∈ ks) → oks ms = true → ∀ q z, Bh z → sizes ms ≤ q → q < g → dreadK (dread g) ms.length q (wrs ms ++ z) = some (ms, z, q - sizes ms) := by
          intro ms
          induction ms using snoc_ind with
          | h0 => intro _ _ q z _ _ _; simp [dreadK, wrs, sizes]
          | h1 ms y ihm =>
            intro hm ho q z hz hq hgq
            rw [oks_snoc, Bool.and_eq_true] at ho
            rw [sizes_snoc] at hq ⊢
            rw [List.length_append, List.length_singleton, dreadK, wrs_snoc, List.append_assoc, ihm (fun u hu => hm u (by simp [hu])) ho.1 q (wr y ++ z) (bh_wr ho.2 z) (by omega) hgq]
            simp only
            rw [ih y (hm y (by simp)) ho.2 g (q - sizes ms) z hz (by omega) (by omega)]
            simp only [Nat.sub_sub]
        rw [hK ks (fun _ h => h) hoks (p - 1) x hx (by omega) (by omega)]
        simp only [Nat.sub_sub]
theorem wr_dread : ∀ (g p : Nat) (s : Bs) (l : Lt) (y : Bs) (q : Nat), dread g p s = some (l, y, q) → ok l = true → s = wr l ++ y
  | 0, p, s, l, y, q, h, _ => by rw [dread] at h; cases h
  | g + 1, p, [], l, y, q, h, _ => by rw [dread] at h; cases h
  | g + 1, p, c :: r, l, y, q, h, ho => by
    have ihg := wr_dread g
    rw [dread] at h
    split at h
    · cases h
    · by_cases h12 : Sc.kindOf c = 1 ∨ Sc.kindOf c = 2
      · rw [if_pos h12] at h
        have ht := letter_kind (c := c) (by omega)
        cases hd : dterm r with
        | none => rw [hd] at h; cases h
        | some i =>
          rw [hd] at h
          cases h
          rw [wr, if_pos h12, List.cons_append, List.take_append_drop, ← ht]
      · rw [if_neg h12] at h
        by_cases h34 : Sc.kindOf c = 3 ∨ Sc.kindOf c = 4
        · rw [if_pos h34] at h
          have ht := letter_kind (c := c) (by omega)
          cases hd : dn 59 r with
          | none => rw [hd] at h; cases h
          | some a =>
            obtain ⟨n, x⟩ := a
            rw [hd] at h
            cases h
            rw [wr, if_neg h12, if_pos h34, List.cons_append, Int.toNat_natCast, List.append_assoc, List.singleton_append, ← dn_inv hd, ← ht]
        · rw [if_neg h34] at h
          by_cases h56 : Sc.kindOf c = 5 ∨ Sc.kindOf c = 6
          · rw [if_pos h56] at h
            have ht := letter_kind (c := c) (by omega)
            cases hd : dn 58 r with
            | none => rw [hd] at h; cases h
            | some a =>
              obtain ⟨n, x⟩ := a
              rw [hd] at h
              simp only at h
              split at h
              · cases h
              · have hK : ∀ (m q : Nat) (z : Bs) (ks : List Lt) (y : Bs) (j : Nat), dreadK (dread g) m q z = some (ks, y, j) → oks ks = true → z = wrs ks ++ y := by
                  intro m
                  induction m with
                  | zero => intro q z ks y j h1 _; rw [dreadK] at h1; cases h1; simp [wrs]
                  | succ m ihm =>
                    intro q z ks y j h1 h2
                    rw [dreadK] at h1
                    split at h1
                    · cases h1
                    · rename_i ks1 y1 q1 e1
                      split at h1
                      · cases h1
                      · rename_i l1 z1 m1 e2
                        cases h1
                        rw [oks_snoc, Bool.and_eq_true] at h2
                        have a1 := ihm q z _ _ _ e1 h2.1
                        have a2 := ihg _ _ _ _ _ e2 h2.2
                        rw [wrs_snoc, List.append_assoc, ← a2]
                        exact a1
                split at h
                · cases h
                · rename_i ks y1 q1 e1
                  cases h
                  rw [ok, Bool.and_eq_true] at ho
                  have hz := hK n (p - 1) x ks y q e1 ho.2
                  rw [wr, if_neg h12, if_neg h34, dreadK_len e1, List.cons_append, List.append_assoc, List.cons_append, ← hz, ← dn_inv hd, ← ht]
          · rw [if_neg h56] at h
            cases h
noncomputable def drdRes (s : Bs) : Option Lt := match dread 65 64 s with
  | none => none
  | some (l, y, _) => if y = [] ∧ right l = true then some l else none
theorem drd_is (s : Bs) : drdRes s = rdRes s := by
  have h1 : ∀ l, drdRes s = some l ↔ right l = true ∧ s = wr l := fun l => by
    unfold drdRes
    constructor
    · intro h
      split at h
      · cases h
      · rename_i l1 y1 q1 e1
        split at h
        · rename_i hc
          cases h
          have := wr_dread 65 64 s l y1 q1 e1 ((right_is _).1 hc.2).1
          rw [hc.1, List.append_nil] at this
          exact ⟨hc.2, this⟩
        · cases h
    · rintro ⟨hr, rfl⟩
      have ho := (right_is l).1 hr
      have h := dread_wr l ho.1 65 64 [] (.inl rfl) ho.2 (by omega)
      rw [List.append_nil] at h
      rw [h]
      simp [hr]
  cases h : rdRes s with
  | some l => exact (h1 l).2 ((rdRes_iff s l).1 h)
  | none =>
    cases h2 : drdRes s with
    | none => rfl
    | some l =>
      have h3 := (rdRes_iff s l).2 ((h1 l).1 h2)
      rw [h] at h3
      cases h3
end Go.Proofs.YtdllpklecdmghaaGreatDoor.Lk
/- A lock, written by the document. -/
namespace Go.Proofs.YtdllpklecdmghaaGreatDoor
open Go.RowKit
open Lk (Lt)
theorem cat_is {a b c : Bs} (h : c = a ++ b) (hl : c.length ≤ 9223372036854775807) : ∀ W, (Op.stringOp .add (⟨a.toArray⟩ : ByteArray) ⟨b.toArray⟩).run Tryz.prog W = .ok (St c) W := fun W => by
  rw [h, List.length_append] at hl
  rw [h]
  exact cat_text a b hl W
namespace Lk
theorem wrs_step : ∀ (ks : List Lt) (i : Nat) (hi : i < ks.length), wrs (ks.take (i + 1)) = wrs (ks.take i) ++ wr ks[i]
  | x :: ks, 0, _ => by simp [wrs]
  | x :: ks, i + 1, hi => by
    have := wrs_step ks i (by simpa using hi)
    rw [List.take_succ_cons, List.take_succ_cons, wrs, wrs, List.getElem_cons_succ, this, List.append_assoc]
theorem wrs_len : ∀ (ks : List Lt) (i : Nat) (hi : i < ks.length), (wrs (ks.take i)).length + (wr ks[i]).length ≤ (wrs ks).length
  | x :: ks, 0, _ => by simp [wrs]
  | x :: ks, i + 1, hi => by
    have := wrs_len ks i (by simpa using hi)
    rw [List.take_succ_cons, wrs, wrs, List.getElem_cons_succ, List.length_append, List.length_append]
    omega
end Lk
set_option maxHeartbeats 8000000 in
theorem text_any {b : Nat → Prop} (d : Nat) : ∀ (l : Lt) (kv : Value) (w : World), Kd b w d kv l.kids → Lk.ok l = true → (Lk.wr l).length ≤ 1000000000 → Calls Tryz.prog 34 #[.agg (lcs l kv)] w fun e w' => e = .returned (St (Lk.wr l)) ∧ Below w.heap.size w w' := by
  induction d using Nat.strongRecOn with
  | ind d ih =>
    intro l kv w hk hok hlen
    obtain ⟨kd, t, n, ks⟩ := l
    obtain ⟨hl, ao, cap, rfl, hks⟩ := hk.parts
    have hks : Kr b w d ao ks := hks
    rw [Lk.ok, Bool.and_eq_true] at hok
    obtain ⟨hfit, hoks⟩ := hok
    show Calls Tryz.prog 34 #[.agg #[.int .u8 (kd : Int), St t, .int .i64 n, .slice ao ks.length cap]] w fun e w' => e = .returned (St (Lk.wr (.mk kd t n ks))) ∧ Below w.heap.size w w'
    have hkk := Lk.fit_is_kind hfit
    have hkk : 1 ≤ kd ∧ kd ≤ 6 := hkk
    clear hk
    rcases (by omega : kd = 1 ∨ kd = 2 ∨ kd = 3 ∨ kd = 4 ∨ kd = 5 ∨ kd = 6) with k1 | k2 | k3 | k4 | k5 | k6
    · subst k1
      obtain ⟨rfl, rfl, hd⟩ := Lk.fitT (by decide) hfit
      obtain ⟨X, hX⟩ : ∃ X, X = Lk.wr (.mk 1 t 0 []) := ⟨_, rfl⟩
      have hX2 : X = [115] ++ t := by rw [hX, Lk.wr]; rfl
      have hcat := cat_is hX2 (by rw [← hX] at hlen; omega)
      rw [← hX]
      clear hlen hX hX2 hd hfit hoks hks hl ih
      go_enter Tryz.func34, Tryz.ntmps34
      go_wp2_with fail
      go_ret
      exact ⟨rfl, below_al _ _⟩
    · subst k2
      obtain ⟨rfl, rfl, hd⟩ := Lk.fitT (by decide) hfit
      obtain ⟨X, hX⟩ : ∃ X, X = Lk.wr (.mk 2 t 0 []) := ⟨_, rfl⟩
      have hX2 : X = [112] ++ t := by rw [hX, Lk.wr]; rfl
      have hcat := cat_is hX2 (by rw [← hX] at hlen; omega)
      rw [← hX]
      clear hlen hX hX2 hd hfit hoks hks hl ih
      go_enter Tryz.func34, Tryz.ntmps34
      go_wp2_with fail
      go_ret
      exact ⟨rfl, below_al _ _⟩
    · subst k3
      obtain ⟨rfl, rfl, h0, h1⟩ := Lk.fitN (by decide) hfit
      obtain ⟨z, rfl⟩ : ∃ z : Nat, n = (z : Int) := ⟨n.toNat, by omega⟩
      have HD : Hid (∀ W, Calls Tryz.prog 58 #[.int .i64 (z : Int)] W fun e w' => e = .returned (St (Lib.decDigits z)) ∧ Below W.heap.size W w') := hid (fun W => digits_any z W (by omega))
      have hdl := dec_le z
      obtain ⟨X, hX⟩ : ∃ X, X = Lk.wr (.mk 3 [] (z : Int) []) := ⟨_, rfl⟩
      have hX2 : X = ([97] ++ Lib.decDigits z) ++ [59] := by rw [hX, Lk.wr]; rfl
      rw [← hX]
      generalize Lib.decDigits z = D at *
      obtain ⟨Y, hY⟩ : ∃ Y, Y = [97] ++ D := ⟨_, rfl⟩
      rw [← hY] at hX2
      have HC1 := hid (cat_is hY (by rw [hY, List.length_append]; simp; omega))
      have HC2 := hid (cat_is hX2 (by rw [hX2, hY, List.length_append, List.length_append]; simp; omega))
      clear hlen hX hX2 hY hfit hoks hks hl ih h0 h1 hdl
      go_enter Tryz.func34, Tryz.ntmps34
      go_wp2_with fail
      refine (HD.out _).mono ?_
      rintro e w1 ⟨rfl, hb⟩
      have hc1 := HC1.out w1
      have hc2 := HC2.out w1
      have HB := hid ((below_al _ _).trans (hb.mono (below_al _ _).size))
      clear hb HD HC1 HC2
      go_wp2_with fail
      go_ret
      exact ⟨rfl, HB.out⟩
    · subst k4
      obtain ⟨rfl, rfl, h0, h1⟩ := Lk.fitN (by decide) hfit
      obtain ⟨z, rfl⟩ : ∃ z : Nat, n = (z : Int) := ⟨n.toNat, by omega⟩
      have HD : Hid (∀ W, Calls Tryz.prog 58 #[.int .i64 (z : Int)] W fun e w' => e = .returned (St (Lib.decDigits z)) ∧ Below W.heap.size W w') := hid (fun W => digits_any z W (by omega))
      have hdl := dec_le z
      obtain ⟨X, hX⟩ : ∃ X, X = Lk.wr (.mk 4 [] (z : Int) []) := ⟨_, rfl⟩
      have hX2 : X = ([111] ++ Lib.decDigits z) ++ [59] := by rw [hX, Lk.wr]; rfl
      rw [← hX]
      generalize Lib.decDigits z = D at *
      obtain ⟨Y, hY⟩ : ∃ Y, Y = [111] ++ D := ⟨_, rfl⟩
      rw [← hY] at hX2
      have HC1 := hid (cat_is hY (by rw [hY, List.length_append]; simp; omega))
      have HC2 := hid (cat_is hX2 (by rw [hX2, hY, List.length_append, List.length_append]; simp; omega))
      clear hlen hX hX2 hY hfit hoks hks hl ih h0 h1 hdl
      go_enter Tryz.func34, Tryz.ntmps34
      go_wp2_with fail
      refine (HD.out _).mono ?_
      rintro e w1 ⟨rfl, hb⟩
      have hc1 := HC1.out w1
      have hc2 := HC2.out w1
      have HB := hid ((below_al _ _).trans (hb.mono (below_al _ _).size))
      clear hb HD HC1 HC2
      go_wp2_with fail
      go_ret
      exact ⟨rfl, HB.out⟩
    · subst k5
      obtain ⟨rfl, rfl, h0, h8⟩ := Lk.fitK (by decide) hfit
      obtain ⟨m, hm⟩ : ∃ m, m = ks.length := ⟨_, rfl⟩
      rw [← hm] at h0 h8 ⊢
      have HD : Hid (∀ W, Calls Tryz.prog 58 #[.int .i64 (m : Int)] W fun e w' => e = .returned (St (Lib.decDigits m)) ∧ Below W.heap.size W w') := hid (fun W => digits_any m W (by omega))
      have hdl := dec_le m
      obtain ⟨X, hX⟩ : ∃ X, X = Lk.wr (.mk 5 [] 0 ks) := ⟨_, rfl⟩
      have hX2 : X = ([38] ++ Lib.decDigits m) ++ [58] ++ Lk.wrs ks := by rw [hX, Lk.wr, hm]; simp [Lk.letter]
      rw [← hX] at hlen ⊢
      generalize Lib.decDigits m = D at *
      obtain ⟨Y, hY⟩ : ∃ Y, Y = [38] ++ D := ⟨_, rfl⟩
      obtain ⟨Z, hZ⟩ : ∃ Z, Z = Y ++ [58] := ⟨_, rfl⟩
      rw [← hY, ← hZ] at hX2
      have HC1 := hid (cat_is hY (by rw [hY, List.length_append]; simp; omega))
      have HC2 := hid (cat_is hZ (by rw [hZ, hY, List.length_append, List.length_append]; simp; omega))
      have HX2 := hid hX2
      have HLEN := hid hlen
      have HM := hid hm
      have HKS : Hid (Kr b w d ao ks) := hid hks
      have HIH := hid ih
      have HOK := hid hoks
      have HM8 := hid h8
      have HZ0 : Hid (Z = Z ++ Lk.wrs (ks.take 0)) := hid (by rw [List.take_zero, Lk.wrs, List.append_nil])
      obtain ⟨w0, hw0⟩ : ∃ w0, w0 = w.alloc (.cells #[.int .u8 5, St [], .int .i64 0, .slice ao m cap] 25) := ⟨_, rfl⟩
      have HB0 : Hid (Below w.heap.size w w0) := hid (by rw [hw0]; exact below_al _ _)
      have HC0 : Hid (∀ W, Below w0.heap.size w0 W → W.cell? ⟨w.heap.size, 3, none⟩ = some (.slice ao m cap)) := hid (fun W hW => cell_later hW (by rw [hw0]; exact (cell_of_heap (heap_alloc_new w _) 3).trans rfl))
      clear hlen hX hX2 hY hZ hfit hoks hks hl ih h0 hdl hm h8
      go_enter Tryz.func34, Tryz.ntmps34
      go_wp2_with fail
      rw [← hw0]
      clear hw0
      refine (HD.out _).mono ?_
      rintro e w1 ⟨rfl, hb⟩
      have hc1 := HC1.out w1
      have hc2 := HC2.out w1
      have HB1 := hid hb
      have c3 := HC0.out w1 hb
      clear hb HD HC1 HC2
      go_wp2_with fail
      clear hc1 hc2
      go_loopg [3, 4] m (fun gg v3 v4 wr => ∃ i : Nat, ∃ S : Bs, gg = m - i ∧ i ≤ m ∧ v3 = St S ∧ v4 = .int .i64 (i : Int) ∧ S = Z ++ Lk.wrs (ks.take i) ∧ Below w0.heap.size w0 wr)
      case atStart => exact ⟨0, Z, rfl, Nat.zero_le _, rfl, rfl, HZ0.out, HB1.out⟩
      case round =>
        obtain ⟨i, S, rfl, hi, rfl, rfl, hS, hB⟩ := hrel
        have c3 := HC0.out wr hB
        have hBw : Below w.heap.size w wr := HB0.out.trans (hB.mono HB0.out.size)
        by_cases him : i < m
        · have hik : i < ks.length := by have := HM.out; omega
          obtain ⟨g, o, hg, _, hc⟩ := (HKS.out.low hBw) (show 0 < ks.length by omega)
          subst hg
          obtain ⟨kv, hcs, hlr, d', hd', hkd⟩ := hc i hik
          have hst := Lk.wrs_step ks i hik
          have hsl := Lk.wrs_len ks i hik
          have hokx := Lk.oks_get HOK.out _ (List.getElem_mem hik)
          obtain ⟨x, hx⟩ : ∃ x, x = ks[i] := ⟨_, rfl⟩
          rw [← hx] at hcs hlr hkd hst hsl hokx
          obtain ⟨_, a2, c2, rfl⟩ := hkd.shape
          have e0 : wr.cell? ⟨g, o + i * 4, none⟩ = some (.int .u8 (x.kind : Int)) := hcs 0 _ rfl
          have e1 : wr.cell? ⟨g, o + i * 4 + 1, none⟩ = some (St x.term) := hcs 1 _ rfl
          have e2 : wr.cell? ⟨g, o + i * 4 + 2, none⟩ = some (.int .i64 x.n) := hcs 2 _ rfl
          have e3 : wr.cell? ⟨g, o + i * 4 + 3, none⟩ = some (.slice a2 x.kids.length c2) := hcs 3 _ rfl
          have hXl : Z.length + (Lk.wrs ks).length ≤ 1000000000 := by have h1 := HLEN.out; rw [HX2.out, List.length_append] at h1; exact h1
          have HCA : Hid (Calls Tryz.prog 34 #[.agg #[.int .u8 (x.kind : Int), St x.term, .int .i64 x.n, .slice a2 x.kids.length c2]] wr fun e w' => e = .returned (St (Lk.wr x)) ∧ Below w0.heap.size w0 w') := hid ((HIH.out d' hd' x _ wr hkd hokx (by omega)).mono (fun e w' ⟨h1, h2⟩ => ⟨h1, hB.trans (h2.mono hB.size)⟩))
          obtain ⟨S', hS'⟩ : ∃ S', S' = S ++ Lk.wr x := ⟨_, rfl⟩
          have HCT := hid (cat_is hS' (by rw [hS', hS, List.length_append, List.length_append]; omega))
          have HNX : Hid (S' = Z ++ Lk.wrs (ks.take (i + 1))) := hid (by rw [hS', hS, hst, List.append_assoc])
          generalize Lk.wr x = wx at *
          have hiw : IntKind.i64.wrap ((i : Int) + 1) = ((i + 1 : Nat) : Int) := by rw [IntKind.wrap_i64]; have := HM8.out; omega
          have hi0 : (0 : Int) ≤ (i : Int) := Int.natCast_nonneg _
          have hi1 : (i : Int) < (m : Int) := by omega
          have HI := hid him
          clear hcs hlr hkd hc hik him hi hx hB hBw hst hsl hokx hS hS' hXl
          go_wp2_with fail
          refine HCA.out.mono ?_
          rintro e w2 ⟨rfl, hb2⟩
          have HB2 := hid hb2
          have hct := HCT.out w2
          clear hb2 HCA HCT
          go_wp2_with fail
          go_roundg (m - (i + 1))
          case measure => have := HI.out; omega
          case rel => exact ⟨i + 1, S', rfl, by have := HI.out; omega, rfl, rfl, HNX.out, HB2.out⟩
        · have hi1 : ¬ (i : Int) < (m : Int) := by omega
          have HBE := hid hBw
          have HZ : Hid (X = S) := hid (by rw [HX2.out, hS, List.take_of_length_le (by have := HM.out; omega)])
          clear hB hBw hi him hS
          go_wp2_with fail
          go_ret
          exact ⟨by rw [HZ.out]; rfl, HBE.out⟩
    · subst k6
      obtain ⟨rfl, rfl, h0, h8⟩ := Lk.fitK (by decide) hfit
      obtain ⟨m, hm⟩ : ∃ m, m = ks.length := ⟨_, rfl⟩
      rw [← hm] at h0 h8 ⊢
      have HD : Hid (∀ W, Calls Tryz.prog 58 #[.int .i64 (m : Int)] W fun e w' => e = .returned (St (Lib.decDigits m)) ∧ Below W.heap.size W w') := hid (fun W => digits_any m W (by omega))
      have hdl := dec_le m
      obtain ⟨X, hX⟩ : ∃ X, X = Lk.wr (.mk 6 [] 0 ks) := ⟨_, rfl⟩
      have hX2 : X = ([124] ++ Lib.decDigits m) ++ [58] ++ Lk.wrs ks := by rw [hX, Lk.wr, hm]; simp [Lk.letter]
      rw [← hX] at hlen ⊢
      generalize Lib.decDigits m = D at *
      obtain ⟨Y, hY⟩ : ∃ Y, Y = [124] ++ D := ⟨_, rfl⟩
      obtain ⟨Z, hZ⟩ : ∃ Z, Z = Y ++ [58] := ⟨_, rfl⟩
      rw [← hY, ← hZ] at hX2
      have HC1 := hid (cat_is hY (by rw [hY, List.length_append]; simp; omega))
      have HC2 := hid (cat_is hZ (by rw [hZ, hY, List.length_append, List.length_append]; simp; omega))
      have HX2 := hid hX2
      have HLEN := hid hlen
      have HM := hid hm
      have HKS : Hid (Kr b w d ao ks) := hid hks
      have HIH := hid ih
      have HOK := hid hoks
      have HM8 := hid h8
      have HZ0 : Hid (Z = Z ++ Lk.wrs (ks.take 0)) := hid (by rw [List.take_zero, Lk.wrs, List.append_nil])
      obtain ⟨w0, hw0⟩ : ∃ w0, w0 = w.alloc (.cells #[.int .u8 6, St [], .int .i64 0, .slice ao m cap] 25) := ⟨_, rfl⟩
      have HB0 : Hid (Below w.heap.size w w0) := hid (by rw [hw0]; exact below_al _ _)
      have HC0 : Hid (∀ W, Below w0.heap.size w0 W → W.cell? ⟨w.heap.size, 3, none⟩ = some (.slice ao m cap)) := hid (fun W hW => cell_later hW (by rw [hw0]; exact (cell_of_heap (heap_alloc_new w _) 3).trans rfl))
      clear hlen hX hX2 hY hZ hfit hoks hks hl ih h0 hdl hm h8
      go_enter Tryz.func34, Tryz.ntmps34
      go_wp2_with fail
      rw [← hw0]
      clear hw0
      refine (HD.out _).mono ?_
      rintro e w1 ⟨rfl, hb⟩
      have hc1 := HC1.out w1
      have hc2 := HC2.out w1
      have HB1 := hid hb
      have c3 := HC0.out w1 hb
      clear hb HD HC1 HC2
      go_wp2_with fail
      clear hc1 hc2
      go_loopg [3, 4] m (fun gg v3 v4 wr => ∃ i : Nat, ∃ S : Bs, gg = m - i ∧ i ≤ m ∧ v3 = St S ∧ v4 = .int .i64 (i : Int) ∧ S = Z ++ Lk.wrs (ks.take i) ∧ Below w0.heap.size w0 wr)
      case atStart => exact ⟨0, Z, rfl, Nat.zero_le _, rfl, rfl, HZ0.out, HB1.out⟩
      case round =>
        obtain ⟨i, S, rfl, hi, rfl, rfl, hS, hB⟩ := hrel
        have c3 := HC0.out wr hB
        have hBw : Below w.heap.size w wr := HB0.out.trans (hB.mono HB0.out.size)
        by_cases him : i < m
        · have hik : i < ks.length := by have := HM.out; omega
          obtain ⟨g, o, hg, _, hc⟩ := (HKS.out.low hBw) (show 0 < ks.length by omega)
          subst hg
          obtain ⟨kv, hcs, hlr, d', hd', hkd⟩ := hc i hik
          have hst := Lk.wrs_step ks i hik
          have hsl := Lk.wrs_len ks i hik
          have hokx := Lk.oks_get HOK.out _ (List.getElem_mem hik)
          obtain ⟨x, hx⟩ : ∃ x, x = ks[i] := ⟨_, rfl⟩
          rw [← hx] at hcs hlr hkd hst hsl hokx
          obtain ⟨_, a2, c2, rfl⟩ := hkd.shape
          have e0 : wr.cell? ⟨g, o + i * 4, none⟩ = some (.int .u8 (x.kind : Int)) := hcs 0 _ rfl
          have e1 : wr.cell? ⟨g, o + i * 4 + 1, none⟩ = some (St x.term) := hcs 1 _ rfl
          have e2 : wr.cell? ⟨g, o + i * 4 + 2, none⟩ = some (.int .i64 x.n) := hcs 2 _ rfl
          have e3 : wr.cell? ⟨g, o + i * 4 + 3, none⟩ = some (.slice a2 x.kids.length c2) := hcs 3 _ rfl
          have hXl : Z.length + (Lk.wrs ks).length ≤ 1000000000 := by have h1 := HLEN.out; rw [HX2.out, List.length_append] at h1; exact h1
          have HCA : Hid (Calls Tryz.prog 34 #[.agg #[.int .u8 (x.kind : Int), St x.term, .int .i64 x.n, .slice a2 x.kids.length c2]] wr fun e w' => e = .returned (St (Lk.wr x)) ∧ Below w0.heap.size w0 w') := hid ((HIH.out d' hd' x _ wr hkd hokx (by omega)).mono (fun e w' ⟨h1, h2⟩ => ⟨h1, hB.trans (h2.mono hB.size)⟩))
          obtain ⟨S', hS'⟩ : ∃ S', S' = S ++ Lk.wr x := ⟨_, rfl⟩
          have HCT := hid (cat_is hS' (by rw [hS', hS, List.length_append, List.length_append]; omega))
          have HNX : Hid (S' = Z ++ Lk.wrs (ks.take (i + 1))) := hid (by rw [hS', hS, hst, List.append_assoc])
          generalize Lk.wr x = wx at *
          have hiw : IntKind.i64.wrap ((i : Int) + 1) = ((i + 1 : Nat) : Int) := by rw [IntKind.wrap_i64]; have := HM8.out; omega
          have hi0 : (0 : Int) ≤ (i : Int) := Int.natCast_nonneg _
          have hi1 : (i : Int) < (m : Int) := by omega
          have HI := hid him
          clear hcs hlr hkd hc hik him hi hx hB hBw hst hsl hokx hS hS' hXl
          go_wp2_with fail
          refine HCA.out.mono ?_
          rintro e w2 ⟨rfl, hb2⟩
          have HB2 := hid hb2
          have hct := HCT.out w2
          clear hb2 HCA HCT
          go_wp2_with fail
          go_roundg (m - (i + 1))
          case measure => have := HI.out; omega
          case rel => exact ⟨i + 1, S', rfl, by have := HI.out; omega, rfl, rfl, HNX.out, HB2.out⟩
        · have hi1 : ¬ (i : Int) < (m : Int) := by omega
          have HBE := hid hBw
          have HZ : Hid (X = S) := hid (by rw [HX2.out, hS, List.take_of_length_le (by have := HM.out; omega)])
          clear hB hBw hi him hS
          go_wp2_with fail
          go_ret
          exact ⟨by rw [HZ.out]; rfl, HBE.out⟩
end Go.Proofs.YtdllpklecdmghaaGreatDoor
