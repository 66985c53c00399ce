import Derived.Test.YtkifchjpgdmcoaaGreatDoorBuAll
import Derived.Lib.ItoaNum
import Derived.Test.YtkifchjpgdmcoaaGreatDoorFmt
/- Tuples of up to 32 terms: reading what was put together. No program in it. -/
namespace Go.Proofs.YtkifchjpgdmcoaaGreatDoor
open Go.RowKit
theorem num_dec (n : Nat) (h : n ≤ 32) (x : Bs) : Tm.num 58 (Lib.decDigits n ++ 58 :: x) = some (n, x) := by
 by_cases h10 : n < 10
 · rw [Lib.decDigits_one h10]
   have e1 : (UInt8.ofNat (48 + n)).toNat = 48 + n := by simp; omega
   have e2 : ¬ UInt8.ofNat (48 + n) = 58 := by intro e; have := congrArg UInt8.toNat e; rw [e1] at this; simp at this; omega
   simp only [List.cons_append, List.nil_append, Tm.num, Tm.numGo, e1]
   rw [if_neg e2, if_pos ⟨by omega, by omega, by omega⟩, if_pos trivial]
   simp
   omega
 · rw [Lib.decDigits_two h10 (by omega)]
   have e1 : (UInt8.ofNat (48 + n / 10)).toNat = 48 + n / 10 := by simp; omega
   have e2 : ¬ UInt8.ofNat (48 + n / 10) = 58 := by intro e; have := congrArg UInt8.toNat e; rw [e1] at this; simp at this; omega
   have e3 : (UInt8.ofNat (48 + n % 10)).toNat = 48 + n % 10 := by simp; omega
   have e4 : ¬ UInt8.ofNat (48 + n % 10) = 58 := by intro e; have := congrArg UInt8.toNat e; rw [e3] at this; simp at this; omega
   simp only [List.cons_append, List.nil_append, Tm.num, Tm.numGo, e1, e3]
   rw [if_neg e2, if_pos ⟨by omega, by omega, by omega⟩, if_neg e4, if_pos ⟨by omega, by omega, by omega⟩, if_pos trivial]
   have e6 : ¬ UInt8.ofNat (n / 10) = 0 := by intro e; have := congrArg UInt8.toNat e; simp at this; omega
   simp [e6]
   omega
theorem many_flat (m : Nat) : ∀ (ks : List Bs) (d : Nat) (x : Bs), (∀ k ∈ ks, Tm.deep k ≠ 0) → (∀ k ∈ ks, Tm.deep k ≤ m) →
   Tm.manyA (Tm.rd m) ks.length d (ks.flatten ++ x) = some (ks.foldl (fun d k => max d (Tm.deep k + 1)) d, x)
 | [], d, x, _, _ => rfl
 | k :: ks, d, x, h0, h1 => by
   have hk := (Tm.deep_is (h0 k (by simp))).1
   rw [List.length_cons, Tm.manyA, List.flatten_cons, List.append_assoc, hk.2.2 m _ (h1 k (by simp))]
   exact many_flat m ks _ x (fun y hy => h0 y (by simp [hy])) (fun y hy => h1 y (by simp [hy]))
theorem fold_ge (ks : List Bs) : ∀ d, d ≤ ks.foldl (fun d k => max d (Tm.deep k + 1)) d ∧ ∀ k ∈ ks, Tm.deep k + 1 ≤ ks.foldl (fun d k => max d (Tm.deep k + 1)) d := by
 induction ks with
 | nil => intro d; simp
 | cons y ks ih =>
   intro d
   have h := ih (max d (Tm.deep y + 1))
   refine ⟨by simp only [List.foldl_cons]; omega, fun k hk => ?_⟩
   simp only [List.foldl_cons]
   rcases List.mem_cons.1 hk with rfl | hk
   · omega
   · exact h.2 k hk
theorem is_tuple (ks : List Bs) (hn : ks.length ≤ 32) (h0 : ∀ k ∈ ks, Tm.deep k ≠ 0) : Tm.Is (bDeep ks) (84 :: (Lib.decDigits ks.length ++ [58] ++ ks.flatten)) := by
 have hf := fold_ge ks 1
 refine ⟨hf.1, by simp, fun n x hd => ?_⟩
 have hd' : ks.foldl (fun d k => max d (Tm.deep k + 1)) 1 ≤ n := hd
 obtain ⟨m, rfl⟩ : ∃ m, n = m + 1 := ⟨n - 1, by omega⟩
 have e : (84 :: (Lib.decDigits ks.length ++ [58] ++ ks.flatten)) ++ x = 84 :: (Lib.decDigits ks.length ++ 58 :: (ks.flatten ++ x)) := by simp
 rw [e, Tm.rd]
 rw [if_neg (by decide), if_neg (by decide), if_pos rfl, num_dec _ hn]
 simp only
 rw [if_pos hn]
 exact many_flat m ks 1 x h0 (fun k hk => by have := hf.2 k hk; omega)
theorem tuple_res (ks : List Bs) (hn : ks.length ≤ 32) (h0 : ∀ k ∈ ks, Tm.deep k ≠ 0) :
   (if Tm.deep (84 :: (Lib.decDigits ks.length ++ [58] ++ ks.flatten)) = 0 then (([], 3) : Bs × Nat) else (84 :: (Lib.decDigits ks.length ++ [58] ++ ks.flatten), 0)) = bRes 84 (Lib.decDigits ks.length ++ [58]) ks := by
 have hi := is_tuple ks hn h0
 have ha : ¬ ks.any (fun k => Tm.deep k == 0) = true := by
   rw [List.any_eq_true]
   rintro ⟨k, hk, he⟩
   exact h0 k hk (by simpa using he)
 have hlen : (84 :: (Lib.decDigits ks.length ++ [58] ++ ks.flatten)).length = 1 + (Lib.decDigits ks.length ++ [58]).length + bSize ks := by
   rw [bSize_flat]; simp only [List.length_cons, List.length_append]; omega
 unfold bRes
 rw [if_neg ha]
 by_cases hl : 64 < bDeep ks ∨ 16384 < 1 + (Lib.decDigits ks.length ++ [58]).length + bSize ks
 · rw [if_pos hl, if_pos (Tm.is_deep0 hi (by rw [hlen]; exact hl))]
 · have h1 : bDeep ks ≤ 64 := by omega
   have h2 : 1 + (Lib.decDigits ks.length ++ [58]).length + bSize ks ≤ 16384 := by omega
   have hd := Tm.is_deep hi h1 (by rw [hlen]; exact h2)
   rw [if_neg hl, if_neg (by rw [hd]; have := hi.1; omega)]
theorem tuple_bad (op : UInt8) (head : Bs) (ks : List Bs) (i : Nat) (h : i < ks.length) (hz : Tm.deep ks[i] = 0) : bRes op head ks = ([], 10) := by
 unfold bRes; rw [if_pos (any_take h hz)]
end Go.Proofs.YtkifchjpgdmcoaaGreatDoor

/- Names, texts and tuples of any length, as the program makes them. -/
namespace Go.Proofs.YtkifchjpgdmcoaaGreatDoor
open Go.RowKit
theorem texts_below {w w' : World} {kv : Value} {ks : List Bs} (h : Texts w kv ks) (hb : Below w.heap.size w w') : Texts w' kv ks := by
 obtain ⟨ao, cap, e, h1⟩ := h
 refine ⟨ao, cap, e, fun hne => ?_⟩
 obtain ⟨g, o, e2, hlt, hc⟩ := h1 hne
 exact ⟨g, o, e2, Nat.lt_of_lt_of_le hlt hb.size, fun i hi => (hb.cell (p := ⟨g, o + i, none⟩) hlt).trans (hc i hi)⟩
def nameRes (n : Int) : Bs × Nat := if n < 0 then ([], 2) else bRes 110 (dec n.toNat ++ [59]) []
def textRes (s : Bs) : Bs × Nat := if 4096 < s.length then ([], 3) else bRes 116 (dec s.length ++ [58] ++ s) []
def tupRes (ks : List Bs) : Bs × Nat := if 32 < ks.length then ([], 3) else bRes 84 (dec ks.length ++ [58]) ks
set_option maxHeartbeats 1000000 in
theorem mkname_any (n : Int) (hn : n ≤ 9223372036854775807) (w : World) (hp : Pw w) : Calls Tryz.prog 20 #[.int .i64 n] w fun en w' => en = made (nameRes n) ∧ Below w.heap.size w w' := by
 by_cases h0 : n < 0
 · have HR : Hid (nameRes n = ([], 2)) := by apply hid; unfold nameRes; rw [if_pos h0]
   go_enter Tryz.func20, Tryz.ntmps20
   go_wp2_with fail
   go_ret2
   exact ⟨by rw [HR.out]; rfl, Below.refl _ _⟩
 · obtain ⟨m, rfl⟩ : ∃ m : Nat, n = (m : Int) := ⟨n.toNat, by omega⟩
   have HR : Hid (nameRes (m : Int) = bRes 110 (dec m ++ [59]) []) := by apply hid; unfold nameRes; rw [if_neg h0]; simp
   have HP := hid hp
   have HD := hid (dec_len m (by omega))
   have HF : Hid (∀ W, Pw W → Calls Tryz.prog 47 #[.int .i64 (m : Int), .int .i64 10] W fun e w' => e = .returned (St (dec m)) ∧ Below W.heap.size W w') := hid (fun W h => format_any m (by omega) W h)
   clear hp hn
   generalize dec m = D at HR HD HF
   have hDs : (⟨D.toArray⟩ : ByteArray).size ≤ 20 := by rw [st_size]; exact HD.out
   go_enter Tryz.func20, Tryz.ntmps20
   go_wp2_with fail
   refine (HF.out _ HP.out).mono ?_
   rintro e w1 ⟨rfl, hb1⟩
   have HB1 := hid hb1
   clear hb1
   have ha1 : ∀ W, (Op.stringOp .add (⟨D.toArray⟩ : ByteArray) ⟨#[59]⟩).run Tryz.prog W = .ok (.string ⟨(D ++ [59]).toArray⟩) W := fun W => by
     rw [run_string_add_sum W _ _ (by show (⟨D.toArray⟩ : ByteArray).size + 1 ≤ _; omega)]; exact congrArg (fun z => Result.ok (Value.string z) W) (st_app D [59])
   go_wp2_with fail
   refine (build_any 110 (D ++ [59]) [] _ _ (texts_nil _) (by have := HD.out; simp; omega) (by simp)).mono ?_
   rintro e w2 ⟨rfl, hb⟩
   have HB := hid (HB1.out.trans (hb.mono HB1.out.size))
   clear hb
   go_wp2_with fail
   go_ret2
   exact ⟨by rw [HR.out]; rfl, HB.out⟩
set_option maxHeartbeats 1000000 in
theorem mktext_any (s : Bs) (w : World) (hs : s.length ≤ 20000) (hp : Pw w) : Calls Tryz.prog 73 #[St s] w fun en w' => en = made (textRes s) ∧ Below w.heap.size w w' := by
 have hsz : (⟨s.toArray⟩ : ByteArray).size = s.length := st_size s
 by_cases h0 : 4096 < s.length
 · have HR : Hid (textRes s = ([], 3)) := by apply hid; unfold textRes; rw [if_pos h0]
   have h0' : (4096 : Int) < (s.length : Int) := by omega
   go_enter Tryz.func73, Tryz.ntmps73
   go_wp2_with fail
   go_ret2
   exact ⟨by rw [HR.out]; rfl, Below.refl _ _⟩
 · have HR : Hid (textRes s = bRes 116 (dec s.length ++ 58 :: s) []) := by apply hid; unfold textRes; rw [if_neg h0, List.append_assoc]; rfl
   have h0' : ¬ (4096 : Int) < (s.length : Int) := by omega
   have HP := hid hp
   have HD := hid (dec_len s.length (by omega))
   have HF : Hid (∀ W, Pw W → Calls Tryz.prog 99 #[.int .i64 (s.length : Int)] W fun e w' => e = .returned (St (dec s.length)) ∧ Below W.heap.size W w') := hid (fun W h => itoa_any s.length (by omega) W h)
   have HS := hid h0
   clear hp hs h0
   generalize dec s.length = D at HR HD HF
   have hDs : (⟨D.toArray⟩ : ByteArray).size ≤ 20 := by rw [st_size]; exact HD.out
   go_enter Tryz.func73, Tryz.ntmps73
   go_wp2_with fail
   refine (HF.out _ HP.out).mono ?_
   rintro e w1 ⟨rfl, hb1⟩
   have HB1 := hid hb1
   clear hb1
   have hsum : (⟨D.toArray⟩ : ByteArray).size + 1 + s.length ≤ 9000 := by have := HS.out; omega
   have ha1 : ∀ W, (Op.stringOp .add (⟨D.toArray⟩ : ByteArray) ⟨#[58]⟩).run Tryz.prog W = .ok (.string ⟨(D ++ [58]).toArray⟩) W := fun W => by
     rw [run_string_add_sum W _ _ (by show (⟨D.toArray⟩ : ByteArray).size + 1 ≤ _; omega)]; exact congrArg (fun z => Result.ok (Value.string z) W) (st_app D [58])
   have ha2 : ∀ W, (Op.stringOp .add (⟨(D ++ [58]).toArray⟩ : ByteArray) ⟨s.toArray⟩).run Tryz.prog W = .ok (.string ⟨(D ++ [58] ++ s).toArray⟩) W := fun W => by
     rw [run_string_add_sum W _ _ (by rw [st_size, st_size, List.length_append]; rw [st_size] at hsum; simp; omega)]; exact congrArg (fun z => Result.ok (Value.string z) W) (st_app (D ++ [58]) s)
   clear hsum
   go_wp2_with fail
   refine (build_any 116 (D ++ 58 :: s) [] _ _ (texts_nil _) (by have := HD.out; have := HS.out; simp; omega) (by simp)).mono ?_
   rintro e w2 ⟨rfl, hb⟩
   have HB := hid (HB1.out.trans (hb.mono HB1.out.size))
   clear hb
   go_wp2_with fail
   go_ret2
   exact ⟨by rw [HR.out]; rfl, HB.out⟩
set_option maxHeartbeats 1000000 in
theorem mktuple_any (ks : List Bs) (kv : Value) (w : World) (hk : Texts w kv ks) (hn : ks.length ≤ 40) (hp : Pw w) : Calls Tryz.prog 74 #[kv] w fun en w' => en = made (tupRes ks) ∧ Below w.heap.size w w' := by
 have HK := hid hk
 obtain ⟨ao, cap, rfl, _⟩ := hk
 by_cases h0 : 32 < ks.length
 · have HR : Hid (tupRes ks = ([], 3)) := by apply hid; unfold tupRes; rw [if_pos h0]
   have h0' : (32 : Int) < (ks.length : Int) := by omega
   go_enter Tryz.func74, Tryz.ntmps74
   go_wp2_with fail
   go_ret2
   exact ⟨by rw [HR.out]; rfl, Below.refl _ _⟩
 · have HR : Hid (tupRes ks = bRes 84 (dec ks.length ++ [58]) ks) := by apply hid; unfold tupRes; rw [if_neg h0]
   have h0' : ¬ (32 : Int) < (ks.length : Int) := by omega
   have HP := hid hp
   have HD := hid (dec_len ks.length (by omega))
   have HF : Hid (∀ W, Pw W → Calls Tryz.prog 99 #[.int .i64 (ks.length : Int)] W fun e w' => e = .returned (St (dec ks.length)) ∧ Below W.heap.size W w') := hid (fun W h => itoa_any ks.length (by omega) W h)
   have HN := hid hn
   clear hp hn h0
   generalize dec ks.length = D at HR HD HF
   have hDs : (⟨D.toArray⟩ : ByteArray).size ≤ 20 := by rw [st_size]; exact HD.out
   go_enter Tryz.func74, Tryz.ntmps74
   go_wp2_with fail
   refine (HF.out _ HP.out).mono ?_
   rintro e w1 ⟨rfl, hb1⟩
   have HB1 := hid hb1
   have HK1 := hid (texts_below HK.out hb1)
   clear hb1
   have ha1 : ∀ W, (Op.stringOp .add (⟨D.toArray⟩ : ByteArray) ⟨#[58]⟩).run Tryz.prog W = .ok (.string ⟨(D ++ [58]).toArray⟩) W := fun W => by
     rw [run_string_add_sum W _ _ (by show (⟨D.toArray⟩ : ByteArray).size + 1 ≤ _; omega)]; exact congrArg (fun z => Result.ok (Value.string z) W) (st_app D [58])
   go_wp2_with fail
   refine (build_any 84 (D ++ [58]) ks _ _ HK1.out (by have := HD.out; simp; omega) HN.out).mono ?_
   rintro e w2 ⟨rfl, hb⟩
   have HB := hid (HB1.out.trans (hb.mono HB1.out.size))
   clear hb
   go_wp2_with fail
   go_ret2
   exact ⟨by rw [HR.out]; rfl, HB.out⟩
end Go.Proofs.YtkifchjpgdmcoaaGreatDoor
