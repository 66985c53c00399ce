/- Messages and their bytes: the document's words. -/
import Derived.Test.YtdhmmllpioppfaaGreatVLBack
import Derived.Test.YtdhmmllpioppfaaGreatWCnt
namespace Go.Proofs.YtdhmmllpioppfaaGreat.V

structure Msg where
  k : Nat
  ch : Bs
  ns : List Int
  ts : List Bs
  tx : Bs
  mo : List Rec
/-- a number of 64 bits, as one from 0 on, and back -/
def u64 (n : Int) : Nat := (n % 18446744073709551616).toNat
def s64 (u : Nat) : Int := if u < 9223372036854775808 then (u : Int) else (u : Int) - 18446744073709551616
theorem u64_lt (n : Int) : u64 n < 18446744073709551616 := by unfold u64; omega
theorem s64_u64 {n : Int} (h1 : -9223372036854775808 ≤ n) (h2 : n ≤ 9223372036854775807) : s64 (u64 n) = n := by
  unfold s64 u64
  split <;> omega
theorem u64_s64 {u : Nat} (h : u < 18446744073709551616) : u64 (s64 u) = u := by
  unfold s64 u64
  split <;> omega
theorem s64_in {u : Nat} (h : u < 18446744073709551616) : -9223372036854775808 ≤ s64 u ∧ s64 u ≤ 9223372036854775807 := by
  unfold s64
  split <;> omega
/-- a text's bytes -/
def txt (s : Bs) : Bs := putB s.length ++ s
def numsB (l : List Int) : Bs := (l.map (fun n => be 8 (u64 n))).flatten
def termsB (l : List Bs) : Bs := (l.map txt).flatten
def headB (m : Msg) : Bs := be 2 m.k ++ (txt m.ch ++ (putB m.ns.length ++ (numsB m.ns ++ (putB m.ts.length ++ (termsB m.ts ++ txt m.tx)))))
def msgB (m : Msg) : Bs := headB m ++ streamB m.mo
/-- do the counts fit the kind? -/
def fitB (k n t : Nat) : Bool := if (cntK (k : Int)).2.2 = true then decide ((n : Int) = (cntK (k : Int)).1) && decide ((t : Int) = (cntK (k : Int)).2.1) else decide (k % 2 = 1) && (decide (n ≤ 32) && decide (t ≤ 32))
def moreB (L : List Rec) : Bool := decide ((streamR L).2 = 0) && !(L.any fun r => r.1 % 2 == 0)
/-- may a message be? -/
def mayB (m : Msg) : Bool := fitB m.k m.ns.length m.ts.length && (decide (m.ch.length ≤ 100) && (decide (m.tx.length ≤ 4096) && (moreB m.mo && m.ts.all (fun t => Tm.deep t != 0))))
/-- what Encode answers -/
def encR (m : Msg) : Bs × Nat := if mayB m = false then ([], 80) else if 32768 < (msgB m).length then ([], 3) else (msgB m, 0)
/-- reading, part by part -/
def rTake (n : Nat) (b : Bs) : Option (Bs × Bs) := if n ≤ b.length then some (b.take n, b.drop n) else none
def rCount (b : Bs) : Option (Nat × Bs) := if (getB b).2.2 = 0 then some ((getB b).1, b.drop (getB b).2.1) else none
def rText (b : Bs) : Option (Bs × Bs) := (rCount b).bind fun x => rTake x.1 x.2
def rWide (n : Nat) (b : Bs) : Option (Nat × Bs) := (rTake n b).map fun x => (numOf 0 x.1, x.2)
def rNum (b : Bs) : Option (Int × Bs) := (rWide 8 b).map fun x => (s64 x.1, x.2)
def rMany {α : Type} (f : Bs → Option (α × Bs)) : Nat → Bs → Option (List α × Bs)
  | 0, b => some ([], b)
  | n + 1, b => (f b).bind fun x => (rMany f n x.2).map fun y => (x.1 :: y.1, y.2)
def rList {α : Type} (f : Bs → Option (α × Bs)) (b : Bs) : Option (List α × Bs) := (rCount b).bind fun x => if 32 < x.1 then none else rMany f x.1 x.2
/-- the message that bytes tell, whether it may be or not -/
def readM (b : Bs) : Option Msg :=
  (rWide 2 b).bind fun k => (rText k.2).bind fun ch => (rList rNum ch.2).bind fun ns => (rList rText ns.2).bind fun ts => (rText ts.2).bind fun tx =>
    if (recsB tx.2).2 = 0 then some ⟨k.1, ch.1, ns.1, ts.1, tx.1, (recsB tx.2).1⟩ else none
def noM : Msg := ⟨0, [], [], [], [], []⟩
/-- what Decode answers -/
def decR (b : Bs) : Msg × Nat := if 32768 < b.length then (noM, 3) else match readM b with
  | some m => if mayB m = true then (m, 0) else (noM, 80)
  | none => (noM, 80)

/-! there and back -/
theorem rTake_app (x y : Bs) : rTake x.length (x ++ y) = some (x, y) := by
  unfold rTake
  rw [if_pos (by simp), List.take_left, List.drop_left]
theorem rTake_ok {n : Nat} {b x y : Bs} (h : rTake n b = some (x, y)) : b = x ++ y ∧ x.length = n := by
  unfold rTake at h
  split at h
  · rename_i hn
    cases h
    exact ⟨(List.take_append_drop n b).symm, by rw [List.length_take]; omega⟩
  · cases h
theorem rCount_put {n : Nat} (h : n < 18446744073709551616) (x : Bs) : rCount (putB n ++ x) = some (n, x) := by
  unfold rCount
  rw [get_put h]
  simp
theorem rCount_ok {b x : Bs} {n : Nat} (h : rCount b = some (n, x)) : b = putB n ++ x ∧ n < 18446744073709551616 := by
  unfold rCount at h
  split at h
  · rename_i he
    obtain ⟨p, q, e⟩ : ∃ p q, getB b = (p, q, 0) := ⟨(getB b).1, (getB b).2.1, by rw [← he]⟩
    rw [e] at h
    cases h
    exact ⟨(get_ok e).1, get_lt e⟩
  · cases h
theorem rText_txt {s : Bs} (h : s.length < 18446744073709551616) (x : Bs) : rText (txt s ++ x) = some (s, x) := by
  unfold rText txt
  rw [List.append_assoc, rCount_put h]
  exact rTake_app s x
theorem rText_ok {b s x : Bs} (h : rText b = some (s, x)) : b = txt s ++ x := by
  unfold rText at h
  obtain ⟨⟨n, y⟩, h1, h2⟩ := Option.bind_eq_some_iff.1 h
  obtain ⟨e1, _⟩ := rCount_ok h1
  obtain ⟨e2, e3⟩ := rTake_ok h2
  simp only at e2 e3
  rw [e1, e2, ← e3, txt, List.append_assoc]
theorem rWide_be (k n : Nat) (x : Bs) : rWide k (be k n ++ x) = some (n % 256 ^ k, x) := by
  unfold rWide
  have := rTake_app (be k n) x
  rw [be_len] at this
  rw [this]
  simp [numOf_be]
theorem rWide_ok {k n : Nat} {b x : Bs} (h : rWide k b = some (n, x)) : b = be k n ++ x ∧ n < 256 ^ k := by
  unfold rWide at h
  obtain ⟨⟨y, z⟩, h1, h2⟩ := Option.map_eq_some_iff.1 h
  obtain ⟨e1, e2⟩ := rTake_ok h1
  cases h2
  simp only
  have := numOf_lt y
  rw [e2] at this
  have h3 := be_numOf y
  rw [e2] at h3
  exact ⟨by rw [h3]; exact e1, this⟩
theorem rNum_be {n : Int} (h1 : -9223372036854775808 ≤ n) (h2 : n ≤ 9223372036854775807) (x : Bs) : rNum (be 8 (u64 n) ++ x) = some (n, x) := by
  unfold rNum
  rw [rWide_be, Option.map_some]
  have : u64 n % 256 ^ 8 = u64 n := Nat.mod_eq_of_lt (u64_lt n)
  rw [this, s64_u64 h1 h2]
theorem rNum_ok {b x : Bs} {n : Int} (h : rNum b = some (n, x)) : b = be 8 (u64 n) ++ x ∧ -9223372036854775808 ≤ n ∧ n ≤ 9223372036854775807 := by
  unfold rNum at h
  obtain ⟨⟨u, y⟩, h1, h2⟩ := Option.map_eq_some_iff.1 h
  obtain ⟨e1, e2⟩ := rWide_ok h1
  cases h2
  have e3 : u < 18446744073709551616 := e2
  simp only
  rw [u64_s64 e3]
  exact ⟨e1, s64_in e3⟩
theorem rMany_put {α : Type} {f : Bs → Option (α × Bs)} {g : α → Bs} : ∀ (l : List α) (_ : ∀ a ∈ l, ∀ x, f (g a ++ x) = some (a, x)) (x : Bs), rMany f l.length ((l.map g).flatten ++ x) = some (l, x)
  | [], _, _ => rfl
  | a :: l, h, x => by
    rw [List.length_cons, rMany, List.map_cons, List.flatten_cons, List.append_assoc, h a (by simp)]
    simp only [Option.bind_some]
    rw [rMany_put l (fun b hb => h b (by simp [hb]))]
    rfl
theorem rMany_ok {α : Type} {f : Bs → Option (α × Bs)} {g : α → Bs} {p : α → Prop} (h : ∀ b a x, f b = some (a, x) → b = g a ++ x ∧ p a) : ∀ (n : Nat) (b x : Bs) (l : List α), rMany f n b = some (l, x) → b = (l.map g).flatten ++ x ∧ l.length = n ∧ ∀ a ∈ l, p a
  | 0, b, x, l, e => by
    rw [rMany] at e
    cases e
    exact ⟨rfl, rfl, fun _ h => by cases h⟩
  | n + 1, b, x, l, e => by
    rw [rMany] at e
    obtain ⟨⟨a, y⟩, h1, h2⟩ := Option.bind_eq_some_iff.1 e
    obtain ⟨⟨m, z⟩, h3, h4⟩ := Option.map_eq_some_iff.1 h2
    cases h4
    obtain ⟨e1, e2⟩ := h b a y h1
    obtain ⟨e3, e4, e5⟩ := rMany_ok h n y z m h3
    refine ⟨by rw [e1, e3, List.map_cons, List.flatten_cons, List.append_assoc], by simp [e4], fun c hc => ?_⟩
    rcases List.mem_cons.1 hc with rfl | hc
    · exact e2
    · exact e5 c hc
theorem rList_put {α : Type} {f : Bs → Option (α × Bs)} {g : α → Bs} (l : List α) (hl : l.length ≤ 32) (h : ∀ a ∈ l, ∀ x, f (g a ++ x) = some (a, x)) (x : Bs) : rList f (putB l.length ++ ((l.map g).flatten ++ x)) = some (l, x) := by
  unfold rList
  rw [rCount_put (by omega)]
  simp only [Option.bind_some]
  rw [if_neg (by omega)]
  exact rMany_put l h x
theorem rList_ok {α : Type} {f : Bs → Option (α × Bs)} {g : α → Bs} {p : α → Prop} (h : ∀ b a x, f b = some (a, x) → b = g a ++ x ∧ p a) {b x : Bs} {l : List α} (e : rList f b = some (l, x)) : b = putB l.length ++ ((l.map g).flatten ++ x) ∧ l.length ≤ 32 ∧ ∀ a ∈ l, p a := by
  unfold rList at e
  obtain ⟨⟨n, y⟩, h1, h2⟩ := Option.bind_eq_some_iff.1 e
  obtain ⟨e1, _⟩ := rCount_ok h1
  simp only at h2
  split at h2
  · cases h2
  · rename_i hn
    obtain ⟨e3, e4, e5⟩ := rMany_ok h n y x l h2
    exact ⟨by rw [e1, e3, e4], by omega, e5⟩
/-- the parts are such that they can stand in memory -/
structure MFit (m : Msg) : Prop where
  k : m.k < 65536
  ns : ∀ n ∈ m.ns, -9223372036854775808 ≤ n ∧ n ≤ 9223372036854775807
  mo : ∀ r ∈ m.mo, Fit r
theorem fit_few {k n t : Nat} (h : fitB k n t = true) : n ≤ 32 ∧ t ≤ 32 := by
  unfold fitB at h
  split at h
  · rename_i hf
    have hall : ∀ c ∈ ktab, c.2.1 ≤ 32 ∧ c.2.2 ≤ 32 := by decide
    have hc : (cntK (k : Int)).1 ≤ 32 ∧ (cntK (k : Int)).2.1 ≤ 32 := by
      unfold cntK
      cases hq : ktab.find? (fun t => t.1 == (k : Int)) with
      | none => simp
      | some c => exact hall c (List.mem_of_find?_eq_some hq)
    simp only [Bool.and_eq_true, decide_eq_true_eq] at h
    omega
  · simp only [Bool.and_eq_true, decide_eq_true_eq] at h
    omega
theorem may_parts {m : Msg} (h : mayB m = true) : m.ns.length ≤ 32 ∧ m.ts.length ≤ 32 ∧ m.ch.length ≤ 100 ∧ m.tx.length ≤ 4096 ∧ (streamR m.mo).2 = 0 ∧ ∀ t ∈ m.ts, Tm.deep t ≠ 0 := by
  unfold mayB at h
  simp only [Bool.and_eq_true, decide_eq_true_eq] at h
  obtain ⟨h1, h2, h3, h4, h5⟩ := h
  obtain ⟨a, b⟩ := fit_few h1
  unfold moreB at h4
  simp only [Bool.and_eq_true, decide_eq_true_eq] at h4
  refine ⟨a, b, h2, h3, h4.1, fun t ht => ?_⟩
  have := List.all_eq_true.1 h5 t ht
  simpa using this
/-- bytes of a message that may be tell that message -/
theorem read_msg {m : Msg} (h : mayB m = true) (hf : MFit m) : readM (msgB m) = some m := by
  obtain ⟨h1, h2, h3, h4, h5, h6⟩ := may_parts h
  have hs : streamR m.mo = (streamB m.mo, 0) := by
    have h7 := h5
    unfold streamR at h7 ⊢
    split
    · rename_i e; rw [if_pos e] at h7; cases h7
    · rename_i e
      rw [if_neg e] at h7
      split
      · rename_i e; rw [if_pos e] at h7; cases h7
      · rename_i e
        rw [if_neg e] at h7
        split
        · rename_i e; rw [if_pos e] at h7; cases h7
        · rfl
  have hr := back_there hf.mo hs
  unfold readM msgB headB numsB termsB
  simp only [List.append_assoc]
  rw [rWide_be]
  simp only [Option.bind_some]
  rw [rText_txt (by omega)]
  simp only [Option.bind_some]
  rw [rList_put (f := rNum) m.ns h1 (fun a ha x => rNum_be (hf.ns a ha).1 (hf.ns a ha).2 x)]
  simp only [Option.bind_some]
  rw [rList_put (f := rText) m.ts h2 (fun a ha x => rText_txt (by have := (Tm.deep_is (h6 a ha)).2; omega) x)]
  simp only [Option.bind_some]
  rw [rText_txt (by omega)]
  simp only [Option.bind_some]
  rw [hr]
  simp only [if_true]
  rw [Nat.mod_eq_of_lt hf.k]
/-- bytes that tell a message are that message's -/
theorem msg_read {b : Bs} {m : Msg} (h : readM b = some m) : msgB m = b ∧ MFit m ∧ m.ns.length ≤ 32 ∧ m.ts.length ≤ 32 := by
  unfold readM at h
  obtain ⟨⟨k, b1⟩, h1, h⟩ := Option.bind_eq_some_iff.1 h
  obtain ⟨⟨ch, b2⟩, h2, h⟩ := Option.bind_eq_some_iff.1 h
  obtain ⟨⟨ns, b3⟩, h3, h⟩ := Option.bind_eq_some_iff.1 h
  obtain ⟨⟨ts, b4⟩, h4, h⟩ := Option.bind_eq_some_iff.1 h
  obtain ⟨⟨tx, b5⟩, h5, h⟩ := Option.bind_eq_some_iff.1 h
  simp only at h1 h2 h3 h4 h5 h
  split at h
  · rename_i he
    cases h
    obtain ⟨e1, k1⟩ := rWide_ok h1
    have e2 := rText_ok h2
    obtain ⟨e3, n3, p3⟩ := rList_ok (g := fun n => be 8 (u64 n)) (p := fun n => -9223372036854775808 ≤ n ∧ n ≤ 9223372036854775807) (fun b a x h => rNum_ok h) h3
    obtain ⟨e4, n4, _⟩ := rList_ok (g := txt) (p := fun _ => True) (fun b a x h => ⟨rText_ok h, trivial⟩) h4
    have e5 := rText_ok h5
    obtain ⟨L, hL⟩ : ∃ L, recsB b5 = (L, 0) := ⟨(recsB b5).1, by rw [← he]⟩
    have e6 := there_back hL
    have e7 : streamB L = b5 := by
      have h7 := e6
      unfold streamR at h7
      split at h7
      · cases h7
      · split at h7
        · cases h7
        · split at h7
          · cases h7
          · exact congrArg Prod.fst h7
    have hfit : ∀ r ∈ L, Fit r := by
      have h8 := hL
      unfold recsB at h8
      split at h8
      · cases h8
      · obtain ⟨l, e8, _, _, _, e9⟩ := recs_got _ _ _ _ (Nat.le_refl _) h8
        rw [List.nil_append] at e8
        rw [e8]
        exact e9
    rw [hL]
    refine ⟨?_, ⟨by simpa using k1, p3, hfit⟩, n3, n4⟩
    unfold msgB headB numsB termsB
    simp only [List.append_assoc]
    rw [e7, ← e5, ← e4, ← e3, ← e2, ← e1]
  · cases h
theorem dec_enc {m : Msg} {c : Bs} (hf : MFit m) (h : encR m = (c, 0)) : decR c = (m, 0) := by
  unfold encR at h
  split at h
  · cases h
  · rename_i hm
    split at h
    · cases h
    · rename_i hl
      cases h
      have hm' : mayB m = true := by simpa using hm
      unfold decR
      rw [if_neg hl, read_msg hm' hf]
      simp only
      rw [if_pos hm']
theorem enc_dec {b : Bs} {m : Msg} (h : decR b = (m, 0)) : encR m = (b, 0) ∧ MFit m := by
  unfold decR at h
  split at h
  · cases h
  · rename_i hl
    split at h
    · rename_i m' hr
      split at h
      · rename_i hm
        cases h
        obtain ⟨e, hf, _⟩ := msg_read hr
        unfold encR
        rw [if_neg (by simp [hm]), e, if_neg hl]
        exact ⟨rfl, hf⟩
      · cases h
    · cases h
theorem enc_err {m : Msg} {c : Bs} {e : Nat} (h : encR m = (c, e)) (he : e ≠ 0) : c = [] := by
  unfold encR at h
  split at h
  · cases h; rfl
  · split at h
    · cases h; rfl
    · cases h; exact absurd rfl he
theorem dec_err {b : Bs} {m : Msg} {e : Nat} (h : decR b = (m, e)) (he : e ≠ 0) : m = noM := by
  unfold decR at h
  split at h
  · cases h; rfl
  · split at h
    · split at h
      · cases h; exact absurd rfl he
      · cases h; rfl
    · cases h; rfl
end Go.Proofs.YtdhmmllpioppfaaGreat.V
