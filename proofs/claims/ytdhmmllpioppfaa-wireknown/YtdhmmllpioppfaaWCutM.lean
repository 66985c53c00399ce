/- Bytes of a message, cut short, or with one more: the mathematics. -/
import Derived.Test.YtdhmmllpioppfaaWMath
namespace Go.Proofs.Ytdhmmllpioppfaa.V

theorem rTake_ext {n : Nat} {b x y : Bs} (h : rTake n b = some (x, y)) (z : Bs) : rTake n (b ++ z) = some (x, y ++ z) := by
  obtain ⟨e1, e2⟩ := rTake_ok h
  rw [e1, List.append_assoc, ← e2]
  exact rTake_app x (y ++ z)
theorem rCount_ext {n : Nat} {b y : Bs} (h : rCount b = some (n, y)) (z : Bs) : rCount (b ++ z) = some (n, y ++ z) := by
  obtain ⟨e1, e2⟩ := rCount_ok h
  rw [e1, List.append_assoc]
  exact rCount_put e2 (y ++ z)
theorem rText_ext {b x y : Bs} (h : rText b = some (x, y)) (z : Bs) : rText (b ++ z) = some (x, y ++ z) := by
  unfold rText at h ⊢
  obtain ⟨⟨n, u⟩, h1, h2⟩ := Option.bind_eq_some_iff.1 h
  rw [rCount_ext h1 z]
  exact rTake_ext h2 z
theorem rWide_ext {k n : Nat} {b y : Bs} (h : rWide k b = some (n, y)) (z : Bs) : rWide k (b ++ z) = some (n, y ++ z) := by
  unfold rWide at h ⊢
  obtain ⟨⟨u, v⟩, h1, h2⟩ := Option.map_eq_some_iff.1 h
  rw [rTake_ext h1 z]
  cases h2
  rfl
theorem rNum_ext {n : Int} {b y : Bs} (h : rNum b = some (n, y)) (z : Bs) : rNum (b ++ z) = some (n, y ++ z) := by
  unfold rNum at h ⊢
  obtain ⟨⟨u, v⟩, h1, h2⟩ := Option.map_eq_some_iff.1 h
  rw [rWide_ext h1 z]
  cases h2
  rfl
theorem rMany_ext {α : Type} {f : Bs → Option (α × Bs)} (hf : ∀ b a y, f b = some (a, y) → ∀ z, f (b ++ z) = some (a, y ++ z)) : ∀ (n : Nat) (b y : Bs) (l : List α), rMany f n b = some (l, y) → ∀ z, rMany f n (b ++ z) = some (l, y ++ z)
  | 0, b, y, l, h, z => by
    rw [rMany] at h ⊢
    cases h
    rfl
  | n + 1, b, y, l, h, z => by
    rw [rMany] at h ⊢
    obtain ⟨⟨a, u⟩, h1, h2⟩ := Option.bind_eq_some_iff.1 h
    obtain ⟨⟨l', v⟩, h3, h4⟩ := Option.map_eq_some_iff.1 h2
    rw [hf b a u h1 z]
    simp only [Option.bind_some]
    rw [rMany_ext hf n u v l' h3 z]
    cases h4
    rfl
theorem rList_ext {α : Type} {f : Bs → Option (α × Bs)} (hf : ∀ b a y, f b = some (a, y) → ∀ z, f (b ++ z) = some (a, y ++ z)) {b y : Bs} {l : List α} (h : rList f b = some (l, y)) (z : Bs) : rList f (b ++ z) = some (l, y ++ z) := by
  unfold rList at h ⊢
  obtain ⟨⟨n, u⟩, h1, h2⟩ := Option.bind_eq_some_iff.1 h
  rw [rCount_ext h1 z]
  simp only [Option.bind_some] at h2 ⊢
  split at h2
  · cases h2
  · rename_i hn
    rw [if_neg hn]
    exact rMany_ext hf n u y l h2 z
/-- what stands ahead of the records -/
def readH (b : Bs) : Option (Msg × Bs) :=
  (rWide 2 b).bind fun k => (rText k.2).bind fun ch => (rList rNum ch.2).bind fun ns => (rList rText ns.2).bind fun ts => (rText ts.2).bind fun tx =>
    some (⟨k.1, ch.1, ns.1, ts.1, tx.1, []⟩, tx.2)
theorem readM_H (b : Bs) : readM b = (readH b).bind fun x => if (recsB x.2).2 = 0 then some { x.1 with mo := (recsB x.2).1 } else none := by
  unfold readM readH
  cases rWide 2 b with
  | none => rfl
  | some k =>
    simp only [Option.bind_some]
    cases rText k.2 with
    | none => rfl
    | some ch =>
      simp only [Option.bind_some]
      cases rList rNum ch.2 with
      | none => rfl
      | some ns =>
        simp only [Option.bind_some]
        cases rList rText ns.2 with
        | none => rfl
        | some ts =>
          simp only [Option.bind_some]
          cases rText ts.2 with
          | none => rfl
          | some tx => rfl
theorem readH_ext {b y : Bs} {m : Msg} (h : readH b = some (m, y)) (z : Bs) : readH (b ++ z) = some (m, y ++ z) := by
  unfold readH at h ⊢
  obtain ⟨⟨k, b1⟩, h1, h⟩ := Option.bind_eq_some_iff.1 h
  obtain ⟨⟨ch, b2⟩, h2, h⟩ := Option.bind_eq_some_iff.1 h
  obtain ⟨⟨ns, b3⟩, h3, h⟩ := Option.bind_eq_some_iff.1 h
  obtain ⟨⟨ts, b4⟩, h4, h⟩ := Option.bind_eq_some_iff.1 h
  obtain ⟨⟨tx, b5⟩, h5, h⟩ := Option.bind_eq_some_iff.1 h
  simp only at h1 h2 h3 h4 h5 h
  rw [rWide_ext h1 z]
  simp only [Option.bind_some]
  rw [rText_ext h2 z]
  simp only [Option.bind_some]
  rw [rList_ext (fun _ _ _ h z => rNum_ext h z) h3 z]
  simp only [Option.bind_some]
  rw [rList_ext (fun _ _ _ h z => rText_ext h z) h4 z]
  simp only [Option.bind_some]
  rw [rText_ext h5 z]
  simp only [Option.bind_some]
  cases h
  rfl
/-- the head of a message without records is read to the end -/
theorem readH_msg {m : Msg} (h : mayB m = true) (hf : MFit m) (hm : m.mo = []) : readH (msgB m) = some (m, []) := by
  have h1 := read_msg h hf
  rw [readM_H] at h1
  obtain ⟨⟨m1, y⟩, h2, h3⟩ := Option.bind_eq_some_iff.1 h1
  simp only at h3
  split at h3
  · rename_i he
    injection h3 with h4
    have hmo : (recsB y).1 = [] := by
      have := congrArg Msg.mo h4
      simpa [hm] using this
    obtain ⟨L, hL⟩ : ∃ L, recsB y = (L, 0) := ⟨(recsB y).1, by rw [← he]⟩
    rw [hL] at hmo
    simp only at hmo
    subst hmo
    have h5 := there_back hL
    have hy : y = [] := by
      have e : streamR ([] : List Rec) = ([], 0) := rfl
      rw [e] at h5
      exact (congrArg Prod.fst h5).symm
    have hm1 : m1.mo = [] := by
      unfold readH at h2
      obtain ⟨_, _, h2⟩ := Option.bind_eq_some_iff.1 h2
      obtain ⟨_, _, h2⟩ := Option.bind_eq_some_iff.1 h2
      obtain ⟨_, _, h2⟩ := Option.bind_eq_some_iff.1 h2
      obtain ⟨_, _, h2⟩ := Option.bind_eq_some_iff.1 h2
      obtain ⟨_, _, h2⟩ := Option.bind_eq_some_iff.1 h2
      cases h2
      rfl
    rw [h2, hy]
    congr 2
    rw [← h4, hL]
    cases m1
    simp only at hm1
    subst hm1
    rfl
  · cases h3
/-- bytes that are cut short are no message's -/
theorem cut_no {m : Msg} (h : mayB m = true) (hf : MFit m) (hm : m.mo = []) {k : Nat} (hk : k < (msgB m).length) : readM ((msgB m).take k) = none := by
  have h0 := readH_msg h hf hm
  cases hr : readM ((msgB m).take k) with
  | none => rfl
  | some m1 =>
    rw [readM_H] at hr
    obtain ⟨⟨m2, y⟩, h2, _⟩ := Option.bind_eq_some_iff.1 hr
    have h3 := readH_ext h2 ((msgB m).drop k)
    rw [List.take_append_drop, h0] at h3
    injection h3 with h4
    have h5 := congrArg Prod.snd h4
    simp only at h5
    have h6 : ((msgB m).drop k).length = 0 := by
      have := congrArg List.length h5
      simp at this
      simp
      omega
    rw [List.length_drop] at h6
    omega
/-- nor are they with one byte behind that begins no record -/
theorem more_no {m : Msg} (h : mayB m = true) (hf : MFit m) (hm : m.mo = []) : readM (msgB m ++ [1]) = none := by
  have h3 := readH_ext (readH_msg h hf hm) [1]
  rw [readM_H, h3]
  simp only [Option.bind_some, List.nil_append]
  rw [if_neg (by decide)]
theorem dec_none {b : Bs} (h : readM b = none) (hl : b.length ≤ 32768) : decR b = (noM, 80) := by
  unfold decR
  rw [if_neg (by omega), h]
theorem be_two (k : Nat) : 2 ≤ (be 2 k).length := by rw [be_len]; omega
theorem msg_pos (m : Msg) : 0 < (msgB m).length := by
  unfold msgB headB
  have := be_two m.k
  simp only [List.length_append]
  omega
/-- what a small message has at most -/
theorem msg_small {m : Msg} (h : mayB m = true) (hm : m.mo = []) (hs : (m.ts.map List.length).sum ≤ 4000) : (msgB m).length ≤ 32000 := by
  obtain ⟨h1, h2, h3, h4, _, _⟩ := may_parts h
  have p9 : ∀ n, (putB n).length ≤ 9 := fun n => by rw [put_len]; exact sizeN_le (formN_lt n)
  have hn : (numsB m.ns).length = 8 * m.ns.length := by
    unfold numsB
    generalize m.ns = l
    induction l with
    | nil => rfl
    | cons a l ih =>
      simp only [List.map_cons, List.flatten_cons, List.length_append, be_len, List.length_cons, ih]
      omega
  have ht : (termsB m.ts).length ≤ 9 * m.ts.length + (m.ts.map List.length).sum := by
    unfold termsB
    generalize m.ts = l
    induction l with
    | nil => simp
    | cons a l ih =>
      have := p9 a.length
      simp only [List.map_cons, List.flatten_cons, List.length_append, List.length_cons, List.sum_cons, txt]
      omega
  have a1 := p9 m.ch.length
  have a2 := p9 m.ns.length
  have a3 := p9 m.ts.length
  have a4 := p9 m.tx.length
  unfold msgB headB txt
  rw [hm]
  simp only [List.length_append, be_len, streamB, List.map_nil, List.flatten_nil, List.length_nil]
  omega
end Go.Proofs.Ytdhmmllpioppfaa.V
