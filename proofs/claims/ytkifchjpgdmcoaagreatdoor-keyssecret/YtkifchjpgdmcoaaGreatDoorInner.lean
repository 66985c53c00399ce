/- What the reader's inner readings do, where a part's reading is known. -/
import Derived.Test.YtkifchjpgdmcoaaGreatDoorFrameAll
import Derived.Lib.Strings
namespace Go.Proofs.YtkifchjpgdmcoaaGreatDoor
open Go.RowKit

/-- a reading that failed leaves a reader behind -/
def Bad (w0 : World) (B b : Nat) (s : ByteArray) (lv : Nat) (kp : Bool) (w : World) : Prop := ∃ a n tx ks, RS w0 B b s lv kp a n tx ks w
theorem RS.bad {w0 : World} {B b : Nat} {s : ByteArray} {lv : Nat} {kp : Bool} {a : Nat} {n : Int} {tx : ByteArray} {ks : List Bs} {w : World} (h : RS w0 B b s lv kp a n tx ks w) : Bad w0 B b s lv kp w := ⟨a, n, tx, ks, h⟩
theorem Bad.drewN {w0 : World} {B b : Nat} {s : ByteArray} {lv : Nat} {kp : Bool} {w : World} (h : Bad w0 B b s lv kp w) (m : Nat) : Bad w0 B b s lv kp (w.drewN m) := by
  obtain ⟨a, n, tx, ks, h⟩ := h; exact (h.drewN m).bad

/-- is it wanted? -/
def wt (kp : Bool) (lv : Nat) : Bool := kp && lv == 1
def upd {α : Type} (c : Bool) (x y : α) : α := if c then y else x

/-- the pointer to a reader -/
abbrev rp (b : Nat) : Value := .pointer (some ⟨b, 0, none⟩)

/-- a reading: what it answers, what it finds -/
def OpC (fn : FuncId) (n : Nat) (res : Bs → Option (Nat × Bs)) (N : Bs → Int → Int) (X : Bs → ByteArray → ByteArray) (kd : Bs → List Bs) : Prop :=
  ∀ {w0 : World} {B b : Nat} {s : ByteArray} {lv : Nat} {kp : Bool} {a : Nat} {nn : Int} {tx : ByteArray} {ks : List Bs} {w : World},
    RS w0 B b s lv kp a nn tx ks w → lv + n = 64 → (wt kp lv = true → B ≤ b + 1) →
    Calls Tryz.prog fn #[rp b] w fun en w' =>
      Ends (res (rest s a)) (fun x => en = .returned (.int .i64 x.1) ∧ RS w0 B b s lv kp (s.size - x.2.length) (upd (wt kp lv) nn (N (rest s a) nn)) (upd (wt kp lv) tx (X (rest s a) tx)) (ks ++ upd (wt kp lv) [] (kd (rest s a))) w')
        (en = .returned (.int .i64 0) ∧ Bad w0 B b s lv kp w')

def keepN (_ : Bs) (n : Int) : Int := n
def keepX (_ : Bs) (x : ByteArray) : ByteArray := x
theorem upd_same {α : Type} (c : Bool) (x : α) : upd c x x = x := by cases c <;> rfl

/-- a part's reading -/
def KidC (n : Nat) : Prop := OpC 132 n (Tm.rd n) keepN keepX (Tm.kids1 (Tm.rd n))

theorem kids1_some {f : Bs → Option (Nat × Bs)} {l : Bs} {d : Nat} {r : Bs} (h : f l = some (d, r)) : Tm.kids1 f l = [Tm.used l r] := by unfold Tm.kids1; rw [h]

set_option maxHeartbeats 400000 in
theorem one_any {n : Nat} (hK : KidC n) : OpC 122 n (Tm.oneA (Tm.rd n)) keepN keepX (Tm.kids1 (Tm.rd n)) := by
  intro w0 B b s lv kp a nn tx ks w h hl hB
  have HR := hid h
  clear h
  cases hr : Tm.rd n (rest s a) with
  | none =>
    have H1 := hid hr
    clear hr
    go_enter Tryz.func122, Tryz.ntmps122
    go_wp2_with fail
    refine (hK HR.out hl hB).mono ?_
    rintro e w' hE
    obtain ⟨rfl, hb⟩ := hE.none H1.out
    have HB := hid hb
    clear hE hb
    go_wp2_with fail
    go_ret
    exact ends_none (by unfold Tm.oneA; rw [H1.out]) ⟨rfl, HB.out⟩
  | some x =>
    obtain ⟨d, r⟩ := x
    have hd := Tm.rd_len hr
    have hd1 := hd.2.1
    have hd2 := hd.2.2.1
    have H1 := hid hr
    clear hr hd
    go_enter Tryz.func122, Tryz.ntmps122
    go_wp2_with fail
    refine (hK HR.out hl hB).mono ?_
    rintro e w' hE
    obtain ⟨rfl, hb⟩ := hE.some H1.out
    have HB := hid hb
    clear hE hb
    have hz : ((d : Int) == 0) = false := by simp; omega
    go_wp2_with fail
    go_ret
    exact ends_some (x := (d + 1, r)) (by unfold Tm.oneA; rw [H1.out]) ⟨by simp, HB.out⟩

set_option maxHeartbeats 400000 in
theorem opens_any (c : UInt8) (w : World) : Calls Tryz.prog 101 #[.int .u8 (c.toNat : Int)] w fun e w' => e = .returned (.bool (Tm.isPk (some c))) ∧ w' = w := by
  have hh : ∀ k : UInt8, c ≠ k → ((c.toNat : Int) == (k.toNat : Int)) = false := fun k hk => by simp; intro h; exact hk (UInt8.toNat_inj.1 (by omega))
  by_cases h1 : c = 80
  · subst h1
    go_enter Tryz.func101, Tryz.ntmps101
    go_wp2
    go_ret
    exact ⟨rfl, rfl⟩
  · by_cases h2 : c = 87
    · subst h2
      go_enter Tryz.func101, Tryz.ntmps101
      go_wp2
      go_ret
      exact ⟨rfl, rfl⟩
    · by_cases h3 : c = 76
      · subst h3
        go_enter Tryz.func101, Tryz.ntmps101
        go_wp2
        go_ret
        exact ⟨rfl, rfl⟩
      · have e1 : ((c.toNat : Int) == 80) = false := hh 80 h1
        have e2 : ((c.toNat : Int) == 87) = false := hh 87 h2
        have e3 : ((c.toNat : Int) == 76) = false := hh 76 h3
        have HE : Hid (Tm.isPk (some c) = false) := by show _ = _; simp [Tm.isPk, h1, h2, h3]
        clear h1 h2 h3 hh
        go_enter Tryz.func101, Tryz.ntmps101
        go_wp2
        go_ret
        exact ⟨by rw [HE.out]; rfl, rfl⟩

theorem rest_of {s : ByteArray} {a : Nat} {p r : Bs} (ha : a ≤ s.size) (h : rest s a = p ++ r) : rest s (s.size - r.length) = r ∧ s.size - r.length = a + p.length ∧ a + p.length + r.length = s.size := by
  have h1 : (rest s a).length = s.size - a := rest_len s a
  rw [h, List.length_append] at h1
  have e : s.size - r.length = a + p.length := by omega
  refine ⟨?_, e, by omega⟩
  rw [e, rest, ← List.drop_drop]
  show (rest s a).drop p.length = r
  rw [h, List.drop_left]

theorem rd_rest {n : Nat} {s : ByteArray} {a : Nat} {d : Nat} {r : Bs} (ha : a ≤ s.size) (h : Tm.rd n (rest s a) = some (d, r)) :
    rest s (s.size - r.length) = r ∧ a < s.size - r.length ∧ s.size - r.length ≤ s.size ∧ r.length ≤ s.size ∧ a < s.size ∧ Tm.used (rest s a) r = (rest s a).take (s.size - r.length - a) := by
  obtain ⟨h1, h2, h3, h4⟩ := Tm.rd_len h
  obtain ⟨e1, e2, e3⟩ := rest_of ha h4
  have h5 : (rest s a).length = s.size - a := rest_len s a
  refine ⟨e1, by omega, by omega, by omega, by omega, ?_⟩
  unfold Tm.used
  rw [h5, show s.size - a - r.length = s.size - r.length - a by omega]

theorem kids2_some {f : Bs → Option (Nat × Bs)} {l : Bs} {d : Nat} {r r' : Bs} (h : Tm.twoA f l = some (d, r, r')) : Tm.kids2 f l = [Tm.used l r, Tm.used r r'] := by unfold Tm.kids2; rw [h]

/-- two parts' reading -/
def PairC (n : Nat) : Prop :=
  ∀ {w0 : World} {B b : Nat} {s : ByteArray} {lv : Nat} {kp : Bool} {a : Nat} {nn : Int} {tx : ByteArray} {ks : List Bs} {w : World},
    RS w0 B b s lv kp a nn tx ks w → lv + n = 64 → (wt kp lv = true → B ≤ b + 1) →
    Calls Tryz.prog 133 #[rp b] w fun en w' =>
      Ends (Tm.twoA (Tm.rd n) (rest s a)) (fun x => en = .returned (.tuple #[.int .i64 x.1, .int .i64 ((s.size - x.2.1.length : Nat) : Int)]) ∧ RS w0 B b s lv kp (s.size - x.2.2.length) nn tx (ks ++ upd (wt kp lv) [] (Tm.kids2 (Tm.rd n) (rest s a))) w')
        (en = .returned (.tuple #[.int .i64 0, .int .i64 0]) ∧ Bad w0 B b s lv kp w')

theorem upd_app (c : Bool) (ks x y : List Bs) : ks ++ upd c [] x ++ upd c [] y = ks ++ upd c [] (x ++ y) := by cases c <;> simp [upd]

set_option maxHeartbeats 400000 in
theorem pair_any {n : Nat} (hK : KidC n) : PairC n := by
  intro w0 B b s lv kp a nn tx ks w h hl hB
  have hle := h.le
  have hsz := h.sz
  have HR := hid h
  clear h
  cases hr : Tm.rd n (rest s a) with
  | none =>
    have H1 := hid hr
    clear hr
    go_enter Tryz.func133, Tryz.ntmps133
    go_wp2_with fail
    refine (hK HR.out hl hB).mono ?_
    rintro e w' hE
    obtain ⟨rfl, hb⟩ := hE.none H1.out
    have HB := hid hb
    clear hE hb
    go_wp2_with fail
    go_ret2
    exact ends_none (by unfold Tm.twoA; rw [H1.out]) ⟨rfl, HB.out⟩
  | some x =>
    obtain ⟨d, r⟩ := x
    have hd := Tm.rd_len hr
    have hd1 := hd.2.1
    have hd2 := hd.2.2.1
    obtain ⟨q1, q2, q3, q4, q5, q6⟩ := rd_rest hle hr
    have H1 := hid hr
    have Q1 := hid q1
    clear hr hd q1 q6
    go_enter Tryz.func133, Tryz.ntmps133
    go_wp2_with fail
    refine (hK HR.out hl hB).mono ?_
    rintro e w1 hE
    obtain ⟨rfl, hb⟩ := hE.some H1.out
    have HB := hid hb
    have hcs := hb.cells
    obtain ⟨c0, c1, c2, c3, hf⟩ := hcs
    clear hE hb
    have hz : ((d : Int) == 0) = false := by simp; omega
    go_wp2_with fail
    refine (hK HB.out hl hB).mono ?_
    rintro e w2 hE
    have HE := hid hE
    clear hE
    cases hr2 : Tm.rd n r with
    | none =>
      have H2 := hid hr2
      clear hr2
      obtain ⟨rfl, hb⟩ := HE.out.none (by show Tm.rd n (rest s (s.size - r.length)) = none; rw [Q1.out]; exact H2.out)
      have HB2 := hid hb
      clear hb
      go_wp2_with fail
      go_ret2
      exact ends_none (by unfold Tm.twoA; rw [H1.out]; simp only; rw [H2.out]) ⟨rfl, HB2.out⟩
    | some x =>
      obtain ⟨d', r'⟩ := x
      have hd := Tm.rd_len hr2
      have hd3 := hd.2.1
      have hd4 := hd.2.2.1
      have H2 := hid hr2
      clear hr2 hd
      obtain ⟨rfl, hb⟩ := HE.out.some (x := (d', r')) (by show Tm.rd n (rest s (s.size - r.length)) = _; rw [Q1.out]; exact H2.out)
      have HB2 := hid hb
      clear hb
      have hz2 : ((d' : Int) == 0) = false := by simp; omega
      have HT : Hid (Tm.twoA (Tm.rd n) (rest s a) = some (max d d' + 1, r, r')) := by show _ = _; unfold Tm.twoA; rw [H1.out]; simp only; rw [H2.out]
      have HKK : Hid (ks ++ upd (wt kp lv) [] (Tm.kids1 (Tm.rd n) (rest s a)) ++ upd (wt kp lv) [] (Tm.kids1 (Tm.rd n) (rest s (s.size - r.length))) = ks ++ upd (wt kp lv) [] (Tm.kids2 (Tm.rd n) (rest s a))) := by
        show _ = _
        rw [upd_app, kids2_some HT.out, kids1_some H1.out, Q1.out, kids1_some H2.out]; rfl
      by_cases hlt : d < d'
      · go_wp2_with fail
        go_ret2
        refine ends_some HT.out ⟨?_, ?_⟩
        · show _ = Ending.returned (.tuple #[.int .i64 ((max d d' + 1 : Nat) : Int), _])
          rw [show max d d' + 1 = d' + 1 by omega]; rfl
        · have := HB2.out
          rw [HKK.out] at this
          simpa only [keepN, keepX, upd_same] using this
      · go_wp2_with fail
        go_ret2
        refine ends_some HT.out ⟨?_, ?_⟩
        · show _ = Ending.returned (.tuple #[.int .i64 ((max d d' + 1 : Nat) : Int), _])
          rw [show max d d' + 1 = d + 1 by omega]; rfl
        · have := HB2.out
          rw [HKK.out] at this
          simpa only [keepN, keepX, upd_same] using this

set_option maxHeartbeats 400000 in
theorem two_any {n : Nat} (hP : PairC n) : OpC 123 n (Tm.two2 (Tm.rd n)) keepN keepX (Tm.kids2 (Tm.rd n)) := by
  intro w0 B b s lv kp a nn tx ks w h hl hB
  have HR := hid h
  clear h
  cases hr : Tm.twoA (Tm.rd n) (rest s a) with
  | none =>
    have H1 := hid hr
    clear hr
    go_enter Tryz.func123, Tryz.ntmps123
    go_wp2_with fail
    refine (hP HR.out hl hB).mono ?_
    rintro e w' hE
    obtain ⟨rfl, hb⟩ := hE.none H1.out
    have HB := hid hb
    clear hE hb
    go_wp2_with fail
    go_ret
    exact ends_none (by unfold Tm.two2; rw [H1.out]) ⟨rfl, HB.out⟩
  | some x =>
    obtain ⟨d, r, r'⟩ := x
    have H1 := hid hr
    clear hr
    go_enter Tryz.func123, Tryz.ntmps123
    go_wp2_with fail
    refine (hP HR.out hl hB).mono ?_
    rintro e w' hE
    obtain ⟨rfl, hb⟩ := hE.some H1.out
    have HB := hid hb
    clear hE hb
    go_wp2_with fail
    go_ret
    refine ends_some (x := (d, r')) (by unfold Tm.two2; rw [H1.out]) ⟨rfl, ?_⟩
    simpa only [keepN, keepX, upd_same] using HB.out

theorem two_rest {n : Nat} {s : ByteArray} {a : Nat} {d : Nat} {r r' : Bs} (ha : a ≤ s.size) (h : Tm.twoA (Tm.rd n) (rest s a) = some (d, r, r')) :
    a < s.size ∧ a < s.size - r.length ∧ s.size - r.length < s.size ∧ s.size - r.length < s.size - r'.length ∧ s.size - r'.length ≤ s.size ∧ rest s (s.size - r.length) = r ∧ 1 ≤ d ∧ d ≤ n + 1 ∧
      Tm.used (rest s a) r = (rest s a).take (s.size - r.length - a) ∧ Tm.used r r' = r.take (s.size - r'.length - (s.size - r.length)) := by
  unfold Tm.twoA at h
  cases h1 : Tm.rd n (rest s a) with
  | none => rw [h1] at h; simp at h
  | some x =>
    obtain ⟨d1, r1⟩ := x
    rw [h1] at h
    simp only at h
    obtain ⟨q1, q2, q3, q4, q5, q6⟩ := rd_rest ha h1
    obtain ⟨_, p1, p2, _⟩ := Tm.rd_len h1
    cases h2 : Tm.rd n r1 with
    | none => rw [h2] at h; simp at h
    | some x =>
      obtain ⟨d2, r2⟩ := x
      rw [h2] at h
      simp at h
      obtain ⟨rfl, rfl, rfl⟩ := h
      rw [← q1] at h2
      obtain ⟨t1, t2, t3, t4, t5, t6⟩ := rd_rest q3 h2
      obtain ⟨_, u1, u2, _⟩ := Tm.rd_len h2
      rw [q1] at t6
      exact ⟨q5, q2, t5, t2, t3, q1, by omega, by omega, q6, t6⟩

set_option maxHeartbeats 400000 in
theorem pub_any {n : Nat} (hO : OpC 122 n (Tm.oneA (Tm.rd n)) keepN keepX (Tm.kids1 (Tm.rd n))) : OpC 121 n (Tm.pubA (Tm.rd n)) keepN keepX (Tm.kids1 (Tm.rd n)) := by
  intro w0 B b s lv kp a nn tx ks w h hl hB
  have hle := h.le
  have hsz := h.sz
  obtain ⟨c0, c1, c2, c3, hf⟩ := h.cells
  have HR := hid h
  clear h
  cases hr : Tm.rd n (rest s a) with
  | none =>
    have H1 := hid hr
    clear hr
    go_enter Tryz.func121, Tryz.ntmps121
    go_wp2_with fail
    refine (hO HR.out hl hB).mono ?_
    rintro e w' hE
    obtain ⟨rfl, hb⟩ := hE.none (by unfold Tm.oneA; rw [H1.out])
    have HB := hid hb
    clear hE hb
    go_wp2_with fail
    go_ret
    exact ends_none (by unfold Tm.pubA; rw [H1.out]) ⟨rfl, HB.out⟩
  | some x =>
    obtain ⟨d, r⟩ := x
    have hd := Tm.rd_len hr
    have hd1 := hd.2.1
    have hd2 := hd.2.2.1
    obtain ⟨q1, q2, q3, q4, q5, q6⟩ := rd_rest hle hr
    have H1 := hid hr
    clear hr hd q1 q6
    have hh : (rest s a).head? = some s[a] := by rw [rest_cons q5]; rfl
    have HH := hid hh
    clear hh
    go_enter Tryz.func121, Tryz.ntmps121
    go_wp2_with fail
    refine (hO HR.out hl hB).mono ?_
    rintro e w1 hE
    obtain ⟨rfl, hb⟩ := hE.some (x := (d + 1, r)) (by unfold Tm.oneA; rw [H1.out])
    have HB := hid hb
    obtain ⟨c0, c1, c2, c3, hf⟩ := hb.cells
    clear hE hb
    have hz : ((d + 1 : Int) == 0) = false := by simp; omega
    by_cases h86 : s[a] = 86
    · have e1 : ((s[a].toNat : Int) == 86) = true := by simp [h86]
      have HE : Hid (Tm.pubA (Tm.rd n) (rest s a) = none) := by show _ = _; unfold Tm.pubA; rw [H1.out]; simp only; rw [if_pos (Or.inl (by rw [HH.out, h86]))]
      clear h86
      go_wp2_with fail
      go_ret
      exact ends_none HE.out ⟨rfl, HB.out.bad⟩
    · have e1 : ((s[a].toNat : Int) == 86) = false := by simp; intro h; exact h86 (UInt8.toNat_inj.1 (by simp; omega))
      by_cases h75 : s[a] = 75
      · have e2 : ((s[a].toNat : Int) == 75) = true := by simp [h75]
        have HE : Hid (Tm.pubA (Tm.rd n) (rest s a) = none) := by show _ = _; unfold Tm.pubA; rw [H1.out]; simp only; rw [if_pos (Or.inr (by rw [HH.out, h75]))]
        clear h86 h75
        go_wp2_with fail
        go_ret
        exact ends_none HE.out ⟨rfl, HB.out.bad⟩
      · have e2 : ((s[a].toNat : Int) == 75) = false := by simp; intro h; exact h75 (UInt8.toNat_inj.1 (by simp; omega))
        have HE : Hid (Tm.pubA (Tm.rd n) (rest s a) = some (d + 1, r)) := by show _ = _; unfold Tm.pubA; rw [H1.out]; simp only; rw [if_neg (by rw [HH.out]; simp [h86, h75])]
        clear h86 h75
        go_wp2_with fail
        go_ret
        exact ends_some HE.out ⟨by simp, HB.out⟩

set_option maxHeartbeats 400000 in
theorem bound_any {n : Nat} (hO : OpC 123 n (Tm.two2 (Tm.rd n)) keepN keepX (Tm.kids2 (Tm.rd n))) : OpC 126 n (Tm.boundA (Tm.rd n)) keepN keepX (Tm.kids2 (Tm.rd n)) := by
  intro w0 B b s lv kp a nn tx ks w h hl hB
  have hle := h.le
  have hsz := h.sz
  obtain ⟨c0, c1, c2, c3, hf⟩ := h.cells
  have HR := hid h
  clear h
  cases hr : Tm.twoA (Tm.rd n) (rest s a) with
  | none =>
    have H1 := hid hr
    clear hr
    go_enter Tryz.func126, Tryz.ntmps126
    go_wp2_with fail
    refine (hO HR.out hl hB).mono ?_
    rintro e w' hE
    obtain ⟨rfl, hb⟩ := hE.none (by unfold Tm.two2; rw [H1.out])
    have HB := hid hb
    clear hE hb
    go_wp2_with fail
    go_ret
    exact ends_none (by unfold Tm.boundA; rw [H1.out]) ⟨rfl, HB.out⟩
  | some x =>
    obtain ⟨d, r, r'⟩ := x
    obtain ⟨q1, q2, q3, q4, q5, q6, q7, q8, q9, q10⟩ := two_rest hle hr
    have H1 := hid hr
    clear hr q6 q9 q10
    have hh : (rest s a).head? = some s[a] := by rw [rest_cons q1]; rfl
    have HH := hid hh
    clear hh
    go_enter Tryz.func126, Tryz.ntmps126
    go_wp2_with fail
    refine (hO HR.out hl hB).mono ?_
    rintro e w1 hE
    obtain ⟨rfl, hb⟩ := hE.some (x := (d, r')) (by unfold Tm.two2; rw [H1.out])
    have HB := hid hb
    obtain ⟨c0, c1, c2, c3, hf⟩ := hb.cells
    clear hE hb
    have hz : ((d : Int) == 0) = false := by simp; omega
    go_wp2_with fail
    refine (opens_any _ _).mono ?_
    rintro e w2 ⟨rfl, rfl⟩
    cases hp : Tm.isPk (some s[a])
    · have HE : Hid (Tm.boundA (Tm.rd n) (rest s a) = none) := by show _ = _; unfold Tm.boundA; rw [H1.out]; simp only; rw [HH.out, hp]; rfl
      clear hp
      go_wp2_with fail
      go_ret
      exact ends_none HE.out ⟨rfl, HB.out.bad⟩
    · have HE : Hid (Tm.boundA (Tm.rd n) (rest s a) = some (d, r')) := by show _ = _; unfold Tm.boundA; rw [H1.out]; simp only; rw [HH.out, hp]; rfl
      clear hp
      go_wp2_with fail
      go_ret
      exact ends_some HE.out ⟨rfl, HB.out⟩

set_option maxHeartbeats 400000 in
theorem joint_any {n : Nat} (hP : PairC n) : OpC 125 n (Tm.jointA (Tm.rd n)) keepN keepX (Tm.kids2 (Tm.rd n)) := by
  intro w0 B b s lv kp a nn tx ks w h hl hB
  have hle := h.le
  have hsz := h.sz
  obtain ⟨c0, c1, c2, c3, hf⟩ := h.cells
  have HR := hid h
  clear h
  cases hr : Tm.twoA (Tm.rd n) (rest s a) with
  | none =>
    have H1 := hid hr
    clear hr
    go_enter Tryz.func125, Tryz.ntmps125
    go_wp2_with fail
    refine (hP HR.out hl hB).mono ?_
    rintro e w' hE
    obtain ⟨rfl, hb⟩ := hE.none H1.out
    have HB := hid hb
    clear hE hb
    go_wp2_with fail
    go_ret
    exact ends_none (by unfold Tm.jointA; rw [H1.out]) ⟨rfl, HB.out⟩
  | some x =>
    obtain ⟨d, r, r'⟩ := x
    obtain ⟨q1, q2, q3, q4, q5, q6, q7, q8, q9, q10⟩ := two_rest hle hr
    have H1 := hid hr
    have hh : (rest s a).head? = some s[a] := by rw [rest_cons q1]; rfl
    have hh2 : r.head? = some s[s.size - r.length] := by have e := congrArg List.head? q6; rw [rest_cons q3] at e; exact e.symm
    have HH := hid hh
    have HH2 := hid hh2
    clear hr q6 q9 q10 hh hh2
    go_enter Tryz.func125, Tryz.ntmps125
    go_wp2_with fail
    refine (hP HR.out hl hB).mono ?_
    rintro e w1 hE
    obtain ⟨rfl, hb⟩ := hE.some H1.out
    have HB := hid hb
    obtain ⟨c0, c1, c2, c3, hf⟩ := hb.cells
    clear hE hb
    have hz : ((d : Int) == 0) = false := by simp; omega
    go_wp2_with fail
    refine (opens_any _ _).mono ?_
    rintro e w2 ⟨rfl, rfl⟩
    cases hp : Tm.isPk (some s[a])
    · have HE : Hid (Tm.jointA (Tm.rd n) (rest s a) = none) := by show _ = _; unfold Tm.jointA; rw [H1.out]; simp only; rw [HH.out, hp]; rfl
      clear hp
      go_wp2_with fail
      go_ret
      exact ends_none HE.out ⟨rfl, HB.out.bad⟩
    · have HP := hid hp
      clear hp
      go_wp2_with fail
      refine (opens_any _ _).mono ?_
      rintro e w2 ⟨rfl, rfl⟩
      cases hp : Tm.isPk (some s[s.size - r.length])
      · have HE : Hid (Tm.jointA (Tm.rd n) (rest s a) = none) := by show _ = _; unfold Tm.jointA; rw [H1.out]; simp only; rw [HH.out, HP.out, HH2.out, hp]; rfl
        clear hp
        go_wp2_with fail
        go_ret
        exact ends_none HE.out ⟨rfl, HB.out.bad⟩
      · have HE : Hid (Tm.jointA (Tm.rd n) (rest s a) = some (d, r')) := by show _ = _; unfold Tm.jointA; rw [H1.out]; simp only; rw [HH.out, HP.out, HH2.out, hp]; rfl
        clear hp
        go_wp2_with fail
        go_ret
        refine ends_some HE.out ⟨rfl, ?_⟩
        simpa only [keepN, keepX, upd_same] using HB.out
end Go.Proofs.YtkifchjpgdmcoaaGreatDoor
