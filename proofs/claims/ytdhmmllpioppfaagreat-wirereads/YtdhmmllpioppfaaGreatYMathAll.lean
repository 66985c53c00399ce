import Derived.Test.YtdhmmllpioppfaaGreatWRdAll
/- Reading as the document has it: on and on, with a mark whether all went well. No program in it. -/
namespace Go.Proofs.YtdhmmllpioppfaaGreat.V

/-- the reader: did all go well, and what is left -/
abbrev Rs := Bool × Bs
def dTake (n : Nat) (s : Rs) : Bs × Rs := if s.1 = true ∧ n ≤ s.2.length then (s.2.take n, true, s.2.drop n) else ([], false, s.2)
def dCount (s : Rs) : Nat × Rs := if s.1 = true ∧ (getB s.2).2.2 = 0 then ((getB s.2).1, true, s.2.drop (getB s.2).2.1) else (0, false, s.2)
def dText (s : Rs) : Bs × Rs := dTake (dCount s).1 (dCount s).2
def dNum (k : Nat) (s : Rs) : Nat × Rs := (numOf 0 (dTake k s).1, (dTake k s).2)
theorem dTake_le (n : Nat) (s : Rs) : (dTake n s).2.2.length ≤ s.2.length := by
  unfold dTake
  split
  · simp
  · exact Nat.le_refl _
theorem dCount_le (s : Rs) : (dCount s).2.2.length ≤ s.2.length := by
  unfold dCount
  split
  · simp
  · exact Nat.le_refl _
theorem dText_le (s : Rs) : (dText s).2.2.length ≤ s.2.length := Nat.le_trans (dTake_le _ _) (dCount_le s)
theorem dTake_bad (n : Nat) (b : Bs) : dTake n (false, b) = ([], false, b) := if_neg (by simp)
theorem dCount_bad (b : Bs) : dCount (false, b) = (0, false, b) := if_neg (by simp)
theorem dText_bad (b : Bs) : dText (false, b) = ([], false, b) := by unfold dText; rw [dCount_bad]; exact dTake_bad _ _
theorem dTake_ok {n : Nat} {b x y : Bs} (h : rTake n b = some (x, y)) : dTake n (true, b) = (x, true, y) := by
  unfold rTake at h
  split at h
  · rename_i hn
    cases h
    exact if_pos ⟨rfl, hn⟩
  · cases h
theorem dTake_no {n : Nat} {b : Bs} (h : rTake n b = none) : dTake n (true, b) = ([], false, b) := by
  unfold rTake at h
  split at h
  · cases h
  · rename_i hn
    exact if_neg (fun e => hn e.2)
theorem dCount_ok {n : Nat} {b y : Bs} (h : rCount b = some (n, y)) : dCount (true, b) = (n, true, y) := by
  unfold rCount at h
  split at h
  · rename_i hn
    cases h
    exact if_pos ⟨rfl, hn⟩
  · cases h
theorem dCount_no {b : Bs} (h : rCount b = none) : dCount (true, b) = (0, false, b) := by
  unfold rCount at h
  split at h
  · cases h
  · rename_i hn
    exact if_neg (fun e => hn e.2)
theorem dText_ok {b x y : Bs} (h : rText b = some (x, y)) : dText (true, b) = (x, true, y) := by
  unfold rText at h
  obtain ⟨⟨n, z⟩, h1, h2⟩ := Option.bind_eq_some_iff.1 h
  unfold dText
  rw [dCount_ok h1]
  exact dTake_ok h2
theorem dText_no {b : Bs} (h : rText b = none) : ∃ y, dText (true, b) = ([], false, y) := by
  unfold rText at h
  unfold dText
  cases h1 : rCount b with
  | none => rw [dCount_no h1]; exact ⟨_, dTake_bad _ _⟩
  | some p =>
    obtain ⟨n, z⟩ := p
    rw [h1] at h
    rw [dCount_ok h1]
    exact ⟨_, dTake_no h⟩
theorem dNum_ok {k n : Nat} {b y : Bs} (h : rWide k b = some (n, y)) : dNum k (true, b) = (n, true, y) := by
  unfold rWide at h
  obtain ⟨⟨x, z⟩, h1, h2⟩ := Option.map_eq_some_iff.1 h
  cases h2
  unfold dNum
  rw [dTake_ok h1]
theorem dNum_no {k : Nat} {b : Bs} (h : rWide k b = none) : dNum k (true, b) = (0, false, b) := by
  unfold rWide at h
  have h1 : rTake k b = none := by simpa using h
  unfold dNum
  rw [dTake_no h1]
  rfl
theorem dNum_bad (k : Nat) (b : Bs) : dNum k (false, b) = (0, false, b) := by unfold dNum; rw [dTake_bad]; rfl
/-! many -/
theorem rMany_more {α : Type} {f : Bs → Option (α × Bs)} {n : Nat} {b y z : Bs} {l : List α} {a : α} (h : rMany f n b = some (l, y)) (hf : f y = some (a, z)) : rMany f (n + 1) b = some (l ++ [a], z) := by
  rw [rMany_add, h]
  simp only [Option.bind_some]
  rw [hf]
  rfl
theorem rMany_stop {α : Type} {f : Bs → Option (α × Bs)} {i n : Nat} {b y : Bs} {l : List α} (h : rMany f i b = some (l, y)) (hf : f y = none) (hi : i < n) : rMany f n b = none := by
  refine rMany_none (i := i + 1) ?_ n hi
  rw [rMany_add, h]
  simp only [Option.bind_some]
  rw [hf]
  rfl
def rListD {α : Type} (f : Bs → Option (α × Bs)) (b : Bs) : Option (List α × Bs) := (rCount b).bind fun x => rMany f x.1 x.2
/-- the message that bytes tell, however many parts it has -/
def readD (b : Bs) : Option Msg :=
  (rWide 2 b).bind fun k => (rText k.2).bind fun ch => (rListD rNum ch.2).bind fun ns => (rListD rText ns.2).bind fun ts => (rText ts.2).bind fun tx =>
    if (recsB tx.2).2 = 0 then some ⟨k.1, ch.1, ns.1, ts.1, tx.1, (recsB tx.2).1⟩ else none
theorem may_many {m : Msg} (h : 32 < m.ns.length ∨ 32 < m.ts.length) : mayB m = false := by
  cases hm : mayB m with
  | false => rfl
  | true =>
    have := may_parts hm
    omega
theorem list_D {α : Type} (f : Bs → Option (α × Bs)) (b : Bs) : rList f b = rListD f b ∨ (rList f b = none ∧ ∀ x, rListD f b = some x → 32 < x.1.length) := by
  unfold rList rListD
  cases h : rCount b with
  | none => exact .inl rfl
  | some p =>
    simp only [Option.bind_some]
    by_cases h32 : 32 < p.1
    · rw [if_pos h32]
      refine .inr ⟨rfl, fun x hx => ?_⟩
      have := rMany_len (l := x.1) (x := x.2) hx
      omega
    · rw [if_neg h32]
      exact .inl rfl
theorem read_D (b : Bs) : readM b = readD b ∨ (readM b = none ∧ ∀ m, readD b = some m → mayB m = false) := by
  unfold readM readD
  cases h1 : rWide 2 b with
  | none => exact .inl rfl
  | some k =>
    simp only [Option.bind_some]
    cases h2 : rText k.2 with
    | none => exact .inl rfl
    | some ch =>
      simp only [Option.bind_some]
      rcases list_D rNum ch.2 with e | ⟨e, e2⟩
      · rw [e]
        cases h3 : rListD rNum ch.2 with
        | none => exact .inl rfl
        | some ns =>
          simp only [Option.bind_some]
          rcases list_D rText ns.2 with e | ⟨e, e2⟩
          · rw [e]
            exact .inl rfl
          · rw [e]
            refine .inr ⟨rfl, fun m hm => ?_⟩
            obtain ⟨ts, h4, h5⟩ := Option.bind_eq_some_iff.1 hm
            obtain ⟨tx, h6, h7⟩ := Option.bind_eq_some_iff.1 h5
            split at h7
            · cases h7
              exact may_many (.inr (e2 ts h4))
            · cases h7
      · rw [e]
        refine .inr ⟨rfl, fun m hm => ?_⟩
        obtain ⟨ns, h3, h4⟩ := Option.bind_eq_some_iff.1 hm
        obtain ⟨ts, h5, h6⟩ := Option.bind_eq_some_iff.1 h4
        obtain ⟨tx, h7, h8⟩ := Option.bind_eq_some_iff.1 h6
        split at h8
        · cases h8
          exact may_many (.inl (e2 ns h3))
        · cases h8
theorem dec_D {b : Bs} (hb : ¬ 32768 < b.length) : decR b = match readD b with
  | some m => if mayB m = true then (m, 0) else (noM, 80)
  | none => (noM, 80) := by
  unfold decR
  rw [if_neg hb]
  rcases read_D b with e | ⟨e, e2⟩
  · rw [e]
    cases readD b <;> rfl
  · rw [e]
    cases h : readD b with
    | none => rfl
    | some m =>
      simp only
      rw [if_neg (by rw [e2 m h]; decide)]
end Go.Proofs.YtdhmmllpioppfaaGreat.V

/- The stages of the document's Decode. No program in it. -/
namespace Go.Proofs.YtdhmmllpioppfaaGreat.V

/-- either all went well so far, or nothing is read at all -/
def Gd (b : Bs) (P : Bs → Prop) (s : Rs) : Prop := (s.1 = true → P s.2) ∧ (s.1 = false → readD b = none)
def A1 (b : Bs) (k : Nat) (y : Bs) : Prop := rWide 2 b = some (k, y)
def A2 (b : Bs) (k : Nat) (ch : Bs) (y : Bs) : Prop := ∃ y1, A1 b k y1 ∧ rText y1 = some (ch, y)
def A3 (b : Bs) (k : Nat) (ch : Bs) (N : Nat) (y : Bs) : Prop := ∃ y2, A2 b k ch y2 ∧ rCount y2 = some (N, y)
def A4 (b : Bs) (k : Nat) (ch : Bs) (N i : Nat) (l : List Int) (y : Bs) : Prop := ∃ y3, A3 b k ch N y3 ∧ rMany rNum i y3 = some (l, y)
def A5 (b : Bs) (k : Nat) (ch : Bs) (ns : List Int) (y : Bs) : Prop := ∃ y2, A2 b k ch y2 ∧ rListD rNum y2 = some (ns, y)
def A6 (b : Bs) (k : Nat) (ch : Bs) (ns : List Int) (N : Nat) (y : Bs) : Prop := ∃ y5, A5 b k ch ns y5 ∧ rCount y5 = some (N, y)
def A7 (b : Bs) (k : Nat) (ch : Bs) (ns : List Int) (N i : Nat) (l : List Bs) (y : Bs) : Prop := ∃ y6, A6 b k ch ns N y6 ∧ rMany rText i y6 = some (l, y)
def A8 (b : Bs) (k : Nat) (ch : Bs) (ns : List Int) (ts : List Bs) (y : Bs) : Prop := ∃ y5, A5 b k ch ns y5 ∧ rListD rText y5 = some (ts, y)
def A9 (b : Bs) (k : Nat) (ch : Bs) (ns : List Int) (ts : List Bs) (tx : Bs) (y : Bs) : Prop := ∃ y8, A8 b k ch ns ts y8 ∧ rText y8 = some (tx, y)
theorem no1 {b : Bs} (h : rWide 2 b = none) : readD b = none := by unfold readD; rw [h]; rfl
theorem no2 {b : Bs} {k : Nat} {y : Bs} (h : A1 b k y) (h2 : rText y = none) : readD b = none := by
  unfold readD
  rw [show rWide 2 b = some (k, y) from h]
  simp only [Option.bind_some]
  rw [h2]
  rfl
theorem no3 {b : Bs} {k : Nat} {ch y : Bs} (h : A2 b k ch y) (h2 : rListD rNum y = none) : readD b = none := by
  obtain ⟨y1, h1, h3⟩ := h
  unfold readD
  rw [show rWide 2 b = some (k, y1) from h1]
  simp only [Option.bind_some]
  rw [h3]
  simp only [Option.bind_some]
  rw [h2]
  rfl
theorem no5 {b : Bs} {k : Nat} {ch : Bs} {ns : List Int} {y : Bs} (h : A5 b k ch ns y) (h2 : rListD rText y = none) : readD b = none := by
  obtain ⟨y2, ⟨y1, h1, h3⟩, h4⟩ := h
  unfold readD
  rw [show rWide 2 b = some (k, y1) from h1]
  simp only [Option.bind_some]
  rw [h3]
  simp only [Option.bind_some]
  rw [h4]
  simp only [Option.bind_some]
  rw [h2]
  rfl
theorem end8 {b : Bs} {k : Nat} {ch : Bs} {ns : List Int} {ts : List Bs} {y : Bs} (h : A8 b k ch ns ts y) : readD b = (rText y).bind fun tx => if (recsB tx.2).2 = 0 then some ⟨k, ch, ns, ts, tx.1, (recsB tx.2).1⟩ else none := by
  obtain ⟨y5, ⟨y2, ⟨y1, h1, h3⟩, h4⟩, h5⟩ := h
  unfold readD
  rw [show rWide 2 b = some (k, y1) from h1]
  simp only [Option.bind_some]
  rw [h3]
  simp only [Option.bind_some]
  rw [h4]
  simp only [Option.bind_some]
  rw [h5]
  simp only [Option.bind_some]
theorem g1 (b : Bs) : Gd b (A1 b (dNum 2 (true, b)).1) (dNum 2 (true, b)).2 := by
  cases h : rWide 2 b with
  | none => rw [dNum_no h]; exact ⟨fun e => (by cases e), fun _ => no1 h⟩
  | some p =>
    obtain ⟨k, y⟩ := p
    rw [dNum_ok h]
    exact ⟨fun _ => h, fun e => by cases e⟩
theorem g2 {b : Bs} {k : Nat} {s : Rs} (h : Gd b (A1 b k) s) : Gd b (A2 b k (dText s).1) (dText s).2 := by
  obtain ⟨ok, y⟩ := s
  cases ok with
  | false => rw [dText_bad]; exact ⟨fun e => (by cases e), fun _ => h.2 rfl⟩
  | true =>
    have h1 := h.1 rfl
    cases h2 : rText y with
    | none =>
      obtain ⟨z, e⟩ := dText_no h2
      rw [e]
      exact ⟨fun e => (by cases e), fun _ => no2 h1 h2⟩
    | some p =>
      obtain ⟨x, z⟩ := p
      rw [dText_ok h2]
      exact ⟨fun _ => ⟨y, h1, h2⟩, fun e => by cases e⟩
theorem g3 {b : Bs} {k : Nat} {ch : Bs} {s : Rs} (h : Gd b (A2 b k ch) s) : Gd b (A4 b k ch (dCount s).1 0 []) (dCount s).2 := by
  obtain ⟨ok, y⟩ := s
  cases ok with
  | false => rw [dCount_bad]; exact ⟨fun e => (by cases e), fun _ => h.2 rfl⟩
  | true =>
    have h1 := h.1 rfl
    cases h2 : rCount y with
    | none =>
      rw [dCount_no h2]
      exact ⟨fun e => (by cases e), fun _ => no3 h1 (by unfold rListD; rw [h2]; rfl)⟩
    | some p =>
      obtain ⟨N, z⟩ := p
      rw [dCount_ok h2]
      exact ⟨fun _ => ⟨z, ⟨y, h1, h2⟩, rfl⟩, fun e => by cases e⟩
theorem g4 {b : Bs} {k : Nat} {ch : Bs} {N i : Nat} {l : List Int} {y : Bs} (h : Gd b (A4 b k ch N i l) (true, y)) (hi : i < N) : Gd b (A4 b k ch N (i + 1) (l ++ [s64 (dNum 8 (true, y)).1])) (dNum 8 (true, y)).2 := by
  obtain ⟨y3, ⟨y2, h1, h2⟩, h3⟩ := h.1 rfl
  cases h4 : rWide 8 y with
  | none =>
    rw [dNum_no h4]
    refine ⟨fun e => (by cases e), fun _ => no3 h1 ?_⟩
    unfold rListD
    rw [h2]
    exact rMany_stop h3 (by unfold rNum; rw [h4]; rfl) hi
  | some p =>
    obtain ⟨u, z⟩ := p
    rw [dNum_ok h4]
    exact ⟨fun _ => ⟨y3, ⟨y2, h1, h2⟩, rMany_more h3 (by unfold rNum; rw [h4]; rfl)⟩, fun e => by cases e⟩
theorem g5 {b : Bs} {k : Nat} {ch : Bs} {N i : Nat} {l : List Int} {s : Rs} (h : Gd b (A4 b k ch N i l) s) (hi : s.1 = true → i = N) : Gd b (A5 b k ch l) s := by
  refine ⟨fun e => ?_, h.2⟩
  obtain ⟨y3, ⟨y2, h1, h2⟩, h3⟩ := h.1 e
  refine ⟨y2, h1, ?_⟩
  unfold rListD
  rw [h2]
  rw [hi e] at h3
  exact h3
theorem g6 {b : Bs} {k : Nat} {ch : Bs} {ns : List Int} {s : Rs} (h : Gd b (A5 b k ch ns) s) : Gd b (A7 b k ch ns (dCount s).1 0 []) (dCount s).2 := by
  obtain ⟨ok, y⟩ := s
  cases ok with
  | false => rw [dCount_bad]; exact ⟨fun e => (by cases e), fun _ => h.2 rfl⟩
  | true =>
    have h1 := h.1 rfl
    cases h2 : rCount y with
    | none =>
      rw [dCount_no h2]
      exact ⟨fun e => (by cases e), fun _ => no5 h1 (by unfold rListD; rw [h2]; rfl)⟩
    | some p =>
      obtain ⟨N, z⟩ := p
      rw [dCount_ok h2]
      exact ⟨fun _ => ⟨z, ⟨y, h1, h2⟩, rfl⟩, fun e => by cases e⟩
theorem g7 {b : Bs} {k : Nat} {ch : Bs} {ns : List Int} {N i : Nat} {l : List Bs} {y : Bs} (h : Gd b (A7 b k ch ns N i l) (true, y)) (hi : i < N) : Gd b (A7 b k ch ns N (i + 1) (l ++ [(dText (true, y)).1])) (dText (true, y)).2 := by
  obtain ⟨y3, ⟨y2, h1, h2⟩, h3⟩ := h.1 rfl
  cases h4 : rText y with
  | none =>
    obtain ⟨z, e⟩ := dText_no h4
    rw [e]
    refine ⟨fun e => (by cases e), fun _ => no5 h1 ?_⟩
    unfold rListD
    rw [h2]
    exact rMany_stop h3 h4 hi
  | some p =>
    obtain ⟨u, z⟩ := p
    rw [dText_ok h4]
    exact ⟨fun _ => ⟨y3, ⟨y2, h1, h2⟩, rMany_more h3 h4⟩, fun e => by cases e⟩
theorem g8 {b : Bs} {k : Nat} {ch : Bs} {ns : List Int} {N i : Nat} {l : List Bs} {s : Rs} (h : Gd b (A7 b k ch ns N i l) s) (hi : s.1 = true → i = N) : Gd b (A8 b k ch ns l) s := by
  refine ⟨fun e => ?_, h.2⟩
  obtain ⟨y3, ⟨y2, h1, h2⟩, h3⟩ := h.1 e
  refine ⟨y2, h1, ?_⟩
  unfold rListD
  rw [h2]
  rw [hi e] at h3
  exact h3
theorem g9 {b : Bs} {k : Nat} {ch : Bs} {ns : List Int} {ts : List Bs} {s : Rs} (h : Gd b (A8 b k ch ns ts) s) : Gd b (A9 b k ch ns ts (dText s).1) (dText s).2 := by
  obtain ⟨ok, y⟩ := s
  cases ok with
  | false => rw [dText_bad]; exact ⟨fun e => (by cases e), fun _ => h.2 rfl⟩
  | true =>
    have h1 := h.1 rfl
    cases h2 : rText y with
    | none =>
      obtain ⟨z, e⟩ := dText_no h2
      rw [e]
      exact ⟨fun e => (by cases e), fun _ => by rw [end8 h1, h2]; rfl⟩
    | some p =>
      obtain ⟨x, z⟩ := p
      rw [dText_ok h2]
      exact ⟨fun _ => ⟨y, h1, h2⟩, fun e => by cases e⟩
theorem end9 {b : Bs} {k : Nat} {ch : Bs} {ns : List Int} {ts : List Bs} {tx y : Bs} (h : A9 b k ch ns ts tx y) : readD b = if (recsB y).2 = 0 then some ⟨k, ch, ns, ts, tx, (recsB y).1⟩ else none := by
  obtain ⟨y8, h1, h2⟩ := h
  rw [end8 h1, h2]
  rfl
theorem dNum_lt (k : Nat) (s : Rs) : (dNum k s).1 < 256 ^ k := by
  have h1 := numOf_lt (dTake k s).1
  have h2 : (dTake k s).1.length ≤ k := by
    unfold dTake
    split
    · simp; omega
    · exact Nat.zero_le _
  have h3 : 256 ^ (dTake k s).1.length ≤ 256 ^ k := Nat.pow_le_pow_right (by decide) h2
  show numOf 0 (dTake k s).1 < _
  omega
/-- how many rounds there may be -/
def ms (s : Rs) : Nat := if s.1 = true then s.2.length + 1 else 0
theorem ms_num (y : Bs) : ms (dNum 8 (true, y)).2 < ms (true, y) := by
  unfold dNum dTake ms
  split
  · rename_i h
    simp
    have := h.2
    simp only at this
    omega
  · simp
theorem ms_text (y : Bs) : ms (dText (true, y)).2 < ms (true, y) := by
  cases h : rText y with
  | none =>
    obtain ⟨z, e⟩ := dText_no h
    rw [e]
    unfold ms
    simp
  | some p =>
    obtain ⟨x, z⟩ := p
    rw [dText_ok h]
    have h1 := rText_ok h
    have h2 : 1 ≤ (putB x.length).length := by rw [put_len]; exact sizeN_pos _
    unfold ms txt at *
    rw [h1]
    simp
    omega
theorem s64_wrap (u : Nat) (h : u < 18446744073709551616) : IntKind.i64.wrap (u : Int) = s64 u := by
  rw [IntKind.wrap_i64]
  unfold s64
  split <;> omega
end Go.Proofs.YtdhmmllpioppfaaGreat.V
