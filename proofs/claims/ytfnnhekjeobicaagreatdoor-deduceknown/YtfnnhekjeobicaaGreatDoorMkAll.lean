import Derived.Test.YtfnnhekjeobicaaGreatDoorBuild
import Derived.Lib.ItoaNum
import Derived.Test.YtfnnhekjeobicaaGreatDoorSmAll
import Derived.Test.YtfnnhekjeobicaaGreatDoorFmt
/- Tuples of up to 32 terms: reading what was put together. No program in it. -/
namespace Go.Proofs.YtfnnhekjeobicaaGreatDoor
open Go.RowKit

theorem num_dec (n : Nat) (h : n ≤ 32) (x : Bs) : Tm.num 58 (Lib.decDigits n ++ 58 :: x) = some (n, x) := by
  by_cases h10 : n < 10
  · rw [Lib.decDigits_one h10]
    have e1 : (UInt8.ofNat (48 + n)).toNat = 48 + n := by simp; omega
    have e2 : ¬ UInt8.ofNat (48 + n) = 58 := by intro e; have := congrArg UInt8.toNat e; rw [e1] at this; simp at this; omega
    simp only [List.cons_append, List.nil_append, Tm.num, Tm.numGo, e1]
    rw [if_neg e2, if_pos ⟨by omega, by omega, by omega⟩, if_pos trivial]
    simp
    omega
  · rw [Lib.decDigits_two h10 (by omega)]
    have e1 : (UInt8.ofNat (48 + n / 10)).toNat = 48 + n / 10 := by simp; omega
    have e2 : ¬ UInt8.ofNat (48 + n / 10) = 58 := by intro e; have := congrArg UInt8.toNat e; rw [e1] at this; simp at this; omega
    have e3 : (UInt8.ofNat (48 + n % 10)).toNat = 48 + n % 10 := by simp; omega
    have e4 : ¬ UInt8.ofNat (48 + n % 10) = 58 := by intro e; have := congrArg UInt8.toNat e; rw [e3] at this; simp at this; omega
    simp only [List.cons_append, List.nil_append, Tm.num, Tm.numGo, e1, e3]
    rw [if_neg e2, if_pos ⟨by omega, by omega, by omega⟩, if_neg e4, if_pos ⟨by omega, by omega, by omega⟩, if_pos trivial]
    have e6 : ¬ UInt8.ofNat (n / 10) = 0 := by intro e; have := congrArg UInt8.toNat e; simp at this; omega
    simp [e6]
    omega

theorem many_flat (m : Nat) : ∀ (ks : List Bs) (d : Nat) (x : Bs), (∀ k ∈ ks, Tm.deep k ≠ 0) → (∀ k ∈ ks, Tm.deep k ≤ m) →
    Tm.manyA (Tm.rd m) ks.length d (ks.flatten ++ x) = some (ks.foldl (fun d k => max d (Tm.deep k + 1)) d, x)
  | [], d, x, _, _ => rfl
  | k :: ks, d, x, h0, h1 => by
    have hk := (Tm.deep_is (h0 k (by simp))).1
    rw [List.length_cons, Tm.manyA, List.flatten_cons, List.append_assoc, hk.2.2 m _ (h1 k (by simp))]
    exact many_flat m ks _ x (fun y hy => h0 y (by simp [hy])) (fun y hy => h1 y (by simp [hy]))

theorem fold_ge (ks : List Bs) : ∀ d, d ≤ ks.foldl (fun d k => max d (Tm.deep k + 1)) d ∧ ∀ k ∈ ks, Tm.deep k + 1 ≤ ks.foldl (fun d k => max d (Tm.deep k + 1)) d := by
  induction ks with
  | nil => intro d; simp
  | cons y ks ih =>
    intro d
    have h := ih (max d (Tm.deep y + 1))
    refine ⟨by simp only [List.foldl_cons]; omega, fun k hk => ?_⟩
    simp only [List.foldl_cons]
    rcases List.mem_cons.1 hk with rfl | hk
    · omega
    · exact h.2 k hk

/-- what is put together of right terms is a right term, but for its size -/
theorem is_tuple (ks : List Bs) (hn : ks.length ≤ 32) (h0 : ∀ k ∈ ks, Tm.deep k ≠ 0) : Tm.Is (bDeep ks) (84 :: (Lib.decDigits ks.length ++ [58] ++ ks.flatten)) := by
  have hf := fold_ge ks 1
  refine ⟨hf.1, by simp, fun n x hd => ?_⟩
  have hd' : ks.foldl (fun d k => max d (Tm.deep k + 1)) 1 ≤ n := hd
  obtain ⟨m, rfl⟩ : ∃ m, n = m + 1 := ⟨n - 1, by omega⟩
  have e : (84 :: (Lib.decDigits ks.length ++ [58] ++ ks.flatten)) ++ x = 84 :: (Lib.decDigits ks.length ++ 58 :: (ks.flatten ++ x)) := by simp
  rw [e, Tm.rd]
  rw [if_neg (by decide), if_neg (by decide), if_pos rfl, num_dec _ hn]
  simp only
  rw [if_pos hn]
  exact many_flat m ks 1 x h0 (fun k hk => by have := hf.2 k hk; omega)

/-- the document's tuple is build's -/
theorem tuple_res (ks : List Bs) (hn : ks.length ≤ 32) (h0 : ∀ k ∈ ks, Tm.deep k ≠ 0) :
    (if Tm.deep (84 :: (Lib.decDigits ks.length ++ [58] ++ ks.flatten)) = 0 then (([], 3) : Bs × Nat) else (84 :: (Lib.decDigits ks.length ++ [58] ++ ks.flatten), 0)) = bRes 84 (Lib.decDigits ks.length ++ [58]) ks := by
  have hi := is_tuple ks hn h0
  have ha : ¬ ks.any (fun k => Tm.deep k == 0) = true := by
    rw [List.any_eq_true]
    rintro ⟨k, hk, he⟩
    exact h0 k hk (by simpa using he)
  have hlen : (84 :: (Lib.decDigits ks.length ++ [58] ++ ks.flatten)).length = 1 + (Lib.decDigits ks.length ++ [58]).length + bSize ks := by
    rw [bSize_flat]; simp only [List.length_cons, List.length_append]; omega
  unfold bRes
  rw [if_neg ha]
  by_cases hl : 64 < bDeep ks ∨ 16384 < 1 + (Lib.decDigits ks.length ++ [58]).length + bSize ks
  · rw [if_pos hl, if_pos (Tm.is_deep0 hi (by rw [hlen]; exact hl))]
  · have h1 : bDeep ks ≤ 64 := by omega
    have h2 : 1 + (Lib.decDigits ks.length ++ [58]).length + bSize ks ≤ 16384 := by omega
    have hd := Tm.is_deep hi h1 (by rw [hlen]; exact h2)
    rw [if_neg hl, if_neg (by rw [hd]; have := hi.1; omega)]
theorem tuple_bad (op : UInt8) (head : Bs) (ks : List Bs) (i : Nat) (h : i < ks.length) (hz : Tm.deep ks[i] = 0) : bRes op head ks = ([], 10) := by
  unfold bRes; rw [if_pos (any_take h hz)]
end Go.Proofs.YtfnnhekjeobicaaGreatDoor

/- Names, texts and tuples of any length, as the program makes them. -/
namespace Go.Proofs.YtfnnhekjeobicaaGreatDoor
open Go.RowKit

theorem texts_below {w w' : World} {kv : Value} {ks : List Bs} (h : Texts w kv ks) (hb : Below w.heap.size w w') : Texts w' kv ks := by
  obtain ⟨ao, cap, e, h1⟩ := h
  refine ⟨ao, cap, e, fun hne => ?_⟩
  obtain ⟨g, o, e2, hlt, hc⟩ := h1 hne
  exact ⟨g, o, e2, Nat.lt_of_lt_of_le hlt hb.size, fun i hi => (hb.cell (p := ⟨g, o + i, none⟩) hlt).trans (hc i hi)⟩
/-- what a name's maker answers -/
def nameRes (n : Int) : Bs × Nat := if n < 0 then ([], 2) else bRes 110 (dec n.toNat ++ [59]) []
def textRes (s : Bs) : Bs × Nat := if 4096 < s.length then ([], 3) else bRes 116 (dec s.length ++ [58] ++ s) []
def tupRes (ks : List Bs) : Bs × Nat := if 32 < ks.length then ([], 3) else bRes 84 (dec ks.length ++ [58]) ks

set_option maxHeartbeats 1000000 in
theorem mkname_any (n : Int) (hn : n ≤ 9223372036854775807) (w : World) (hp : Pw w) : Calls Tryz.prog 14 #[.int .i64 n] w fun en w' => en = made (nameRes n) ∧ Below w.heap.size w w' := by
  by_cases h0 : n < 0
  · have HR : Hid (nameRes n = ([], 2)) := by apply hid; unfold nameRes; rw [if_pos h0]
    go_enter Tryz.func14, Tryz.ntmps14
    go_wp2_with fail
    go_ret2
    exact ⟨by rw [HR.out]; rfl, Below.refl _ _⟩
  · obtain ⟨m, rfl⟩ : ∃ m : Nat, n = (m : Int) := ⟨n.toNat, by omega⟩
    have HR : Hid (nameRes (m : Int) = bRes 110 (dec m ++ [59]) []) := by apply hid; unfold nameRes; rw [if_neg h0]; simp
    have HP := hid hp
    have HD := hid (dec_len m (by omega))
    have HF : Hid (∀ W, Pw W → Calls Tryz.prog 43 #[.int .i64 (m : Int), .int .i64 10] W fun e w' => e = .returned (St (dec m)) ∧ Below W.heap.size W w') := hid (fun W h => format_any m (by omega) W h)
    clear hp hn
    generalize dec m = D at HR HD HF
    have hDs : (⟨D.toArray⟩ : ByteArray).size ≤ 20 := by rw [st_size]; exact HD.out
    go_enter Tryz.func14, Tryz.ntmps14
    go_wp2_with fail
    refine (HF.out _ HP.out).mono ?_
    rintro e w1 ⟨rfl, hb1⟩
    have HB1 := hid hb1
    clear hb1
    have ha1 : ∀ W, (Op.stringOp .add (⟨D.toArray⟩ : ByteArray) ⟨#[59]⟩).run Tryz.prog W = .ok (.string ⟨(D ++ [59]).toArray⟩) W := fun W => by
      rw [run_string_add_sum W _ _ (by show (⟨D.toArray⟩ : ByteArray).size + 1 ≤ _; omega)]; exact congrArg (fun z => Result.ok (Value.string z) W) (st_app D [59])
    go_wp2_with fail
    refine (build_any 110 (D ++ [59]) [] _ _ (texts_nil _) (by have := HD.out; simp; omega) (by simp)).mono ?_
    rintro e w2 ⟨rfl, hb⟩
    have HB := hid (HB1.out.trans (hb.mono HB1.out.size))
    clear hb
    go_wp2_with fail
    go_ret2
    exact ⟨by rw [HR.out]; rfl, HB.out⟩

set_option maxHeartbeats 1000000 in
theorem mktuple_any (ks : List Bs) (kv : Value) (w : World) (hk : Texts w kv ks) (hn : ks.length ≤ 40) (hp : Pw w) : Calls Tryz.prog 40 #[kv] w fun en w' => en = made (tupRes ks) ∧ Below w.heap.size w w' := by
  have HK := hid hk
  obtain ⟨ao, cap, rfl, _⟩ := hk
  by_cases h0 : 32 < ks.length
  · have HR : Hid (tupRes ks = ([], 3)) := by apply hid; unfold tupRes; rw [if_pos h0]
    have h0' : (32 : Int) < (ks.length : Int) := by omega
    go_enter Tryz.func40, Tryz.ntmps40
    go_wp2_with fail
    go_ret2
    exact ⟨by rw [HR.out]; rfl, Below.refl _ _⟩
  · have HR : Hid (tupRes ks = bRes 84 (dec ks.length ++ [58]) ks) := by apply hid; unfold tupRes; rw [if_neg h0]
    have h0' : ¬ (32 : Int) < (ks.length : Int) := by omega
    have HP := hid hp
    have HD := hid (dec_len ks.length (by omega))
    have HF : Hid (∀ W, Pw W → Calls Tryz.prog 60 #[.int .i64 (ks.length : Int)] W fun e w' => e = .returned (St (dec ks.length)) ∧ Below W.heap.size W w') := hid (fun W h => itoa_any ks.length (by omega) W h)
    have HN := hid hn
    clear hp hn h0
    generalize dec ks.length = D at HR HD HF
    have hDs : (⟨D.toArray⟩ : ByteArray).size ≤ 20 := by rw [st_size]; exact HD.out
    go_enter Tryz.func40, Tryz.ntmps40
    go_wp2_with fail
    refine (HF.out _ HP.out).mono ?_
    rintro e w1 ⟨rfl, hb1⟩
    have HB1 := hid hb1
    have HK1 := hid (texts_below HK.out hb1)
    clear hb1
    have ha1 : ∀ W, (Op.stringOp .add (⟨D.toArray⟩ : ByteArray) ⟨#[58]⟩).run Tryz.prog W = .ok (.string ⟨(D ++ [58]).toArray⟩) W := fun W => by
      rw [run_string_add_sum W _ _ (by show (⟨D.toArray⟩ : ByteArray).size + 1 ≤ _; omega)]; exact congrArg (fun z => Result.ok (Value.string z) W) (st_app D [58])
    go_wp2_with fail
    refine (build_any 84 (D ++ [58]) ks _ _ HK1.out (by have := HD.out; simp; omega) HN.out).mono ?_
    rintro e w2 ⟨rfl, hb⟩
    have HB := hid (HB1.out.trans (hb.mono HB1.out.size))
    clear hb
    go_wp2_with fail
    go_ret2
    exact ⟨by rw [HR.out]; rfl, HB.out⟩
end Go.Proofs.YtfnnhekjeobicaaGreatDoor

/- A name's text is a right term. -/
namespace Go.Proofs.YtfnnhekjeobicaaGreatDoor

theorem head_app {l r : Bs} (h : l ≠ []) : (l ++ r).head? = l.head? := by
  cases l with
  | nil => exact absurd rfl h
  | cons a b => rfl
theorem digit_nat {d : Nat} (h : d < 10) : (UInt8.ofNat (48 + d)).toNat = 48 + d := by
  rw [UInt8.toNat_ofNat']
  exact Nat.mod_eq_of_lt (by omega)
theorem numGo_dec (e : UInt8) (he : e = 59 ∨ e = 58) : ∀ (k n : Nat), n < k → n ≤ 9223372036854775807 → ∀ (l : Bs), Tm.numGo e 0 (Lib.decDigits n ++ l) = Tm.numGo e n l := by
  have one : ∀ (a d : Nat) (l : Bs), d < 10 → 10 * a + d ≤ 9223372036854775807 → Tm.numGo e a (UInt8.ofNat (48 + d) :: l) = Tm.numGo e (10 * a + d) l := by
    intro a d l hd hb
    have hn := digit_nat hd
    have hne : UInt8.ofNat (48 + d) ≠ e := by
      intro h
      rw [h] at hn
      rcases he with h2 | h2 <;> rw [h2] at hn
      · have : (59 : UInt8).toNat = 59 := rfl
        omega
      · have : (58 : UInt8).toNat = 58 := rfl
        omega
    rw [Tm.numGo, if_neg hne, hn, if_pos ⟨by omega, by omega, by omega⟩]
    congr 1
    omega
  intro k
  induction k with
  | zero => intro n h; omega
  | succ k ih =>
    intro n hk hn l
    rw [Lib.decDigits]
    by_cases h : n < 10
    · rw [dif_pos h]
      have := one 0 n l h (by omega)
      rw [show 10 * 0 + n = n by omega] at this
      exact this
    · rw [dif_neg h, List.append_assoc, ih (n / 10) (by omega) (by omega), List.singleton_append, one _ _ _ (by omega) (by omega)]
      congr 1
      omega
theorem dec_head : ∀ (k n : Nat), n < k → (Lib.decDigits n).length = 1 ∨ (Lib.decDigits n).head? ≠ some 48 := by
  intro k
  induction k with
  | zero => intro n h; omega
  | succ k ih =>
    intro n hk
    rw [Lib.decDigits]
    by_cases h : n < 10
    · rw [dif_pos h]; left; rfl
    · rw [dif_neg h]
      right
      rcases ih (n / 10) (by omega) with h1 | h1
      · by_cases h2 : n / 10 < 10
        · rw [Lib.decDigits, dif_pos h2]
          simp only [List.cons_append, List.head?_cons, ne_eq, Option.some.injEq]
          intro e
          have := digit_nat h2
          rw [e] at this
          have : (48 : UInt8).toNat = 48 := rfl
          omega
        · rw [Lib.decDigits, dif_neg h2] at h1
          simp only [List.length_append, List.length_singleton] at h1
          have : 0 < (Lib.decDigits (n / 10 / 10)).length := by rw [Lib.decDigits]; split <;> simp
          omega
      · have hne : Lib.decDigits (n / 10) ≠ [] := by rw [Lib.decDigits]; split <;> simp
        rw [head_app hne]
        exact h1
theorem num_name (n : Nat) (h : n ≤ 9223372036854775807) (x : Bs) : Tm.num 59 (Lib.decDigits n ++ 59 :: x) = some (n, x) := by
  unfold Tm.num
  rw [numGo_dec 59 (Or.inl rfl) (n + 1) n (by omega) h, Tm.numGo, if_pos rfl]
  have hp : 0 < (Lib.decDigits n).length := by rw [Lib.decDigits]; split <;> simp
  have hne : Lib.decDigits n ≠ [] := List.length_pos_iff.1 hp
  simp only [List.length_append, List.length_cons]
  rw [if_neg]
  rintro (a | ⟨a, b⟩)
  · omega
  · rw [head_app hne] at b
    rcases dec_head (n + 1) n (by omega) with c | c
    · omega
    · exact c b
theorem is_name (n : Nat) (h : n ≤ 9223372036854775807) : Tm.Is 1 (110 :: (Lib.decDigits n ++ [59])) := by
  refine ⟨by omega, by simp, fun m x hm => ?_⟩
  obtain ⟨m, rfl⟩ : ∃ k, m = k + 1 := ⟨m - 1, by omega⟩
  rw [List.cons_append, List.append_assoc, List.singleton_append, Tm.rd_cons, if_pos rfl]
  unfold Tm.nameA
  rw [num_name n h]
/-- what Name answers -/
theorem name_res {n : Int} (h0 : 0 ≤ n) (h1 : n ≤ 9223372036854775807) : ∃ x, nameRes n = (x, 0) ∧ x.head? = some 110 ∧ Tm.Is 1 x ∧ x.length ≤ 22 ∧ x = 110 :: (Lib.decDigits n.toNat ++ [59]) := by
  have hl := dec_len n.toNat (by omega)
  refine ⟨110 :: (dec n.toNat ++ [59]), ?_, rfl, is_name _ (by omega), by simp; omega, rfl⟩
  unfold nameRes bRes
  rw [if_neg (by omega), if_neg (by simp), if_neg (by simp [bDeep, bSize]; omega)]
  simp
end Go.Proofs.YtfnnhekjeobicaaGreatDoor
