import Derived.Test.YtkifchjpgdmcoaaGreatDoorFrAll
import Derived.Lib.Strings
import Derived.Deep.RegionLaw
/- What the reader's inner readings do, where a part's reading is known. -/
namespace Go.Proofs.YtkifchjpgdmcoaaGreatDoor
open Go.RowKit
def Bad (w0 : World) (B b : Nat) (s : ByteArray) (lv : Nat) (kp : Bool) (w : World) : Prop := ∃ a n tx ks, RS w0 B b s lv kp a n tx ks w
theorem RS.bad {w0 : World} {B b : Nat} {s : ByteArray} {lv : Nat} {kp : Bool} {a : Nat} {n : Int} {tx : ByteArray} {ks : List Bs} {w : World} (h : RS w0 B b s lv kp a n tx ks w) : Bad w0 B b s lv kp w := ⟨a, n, tx, ks, h⟩
theorem Bad.drewN {w0 : World} {B b : Nat} {s : ByteArray} {lv : Nat} {kp : Bool} {w : World} (h : Bad w0 B b s lv kp w) (m : Nat) : Bad w0 B b s lv kp (w.drewN m) := by
 obtain ⟨a, n, tx, ks, h⟩ := h; exact (h.drewN m).bad
def wt (kp : Bool) (lv : Nat) : Bool := kp && lv == 1
def upd {α : Type} (c : Bool) (x y : α) : α := if c then y else x
abbrev rp (b : Nat) : Value := .pointer (some ⟨b, 0, none⟩)
def OpC (fn : FuncId) (n : Nat) (res : Bs → Option (Nat × Bs)) (N : Bs → Int → Int) (X : Bs → ByteArray → ByteArray) (kd : Bs → List Bs) : Prop :=
 ∀ {w0 : World} {B b : Nat} {s : ByteArray} {lv : Nat} {kp : Bool} {a : Nat} {nn : Int} {tx : ByteArray} {ks : List Bs} {w : World},
   RS w0 B b s lv kp a nn tx ks w → lv + n = 64 → (wt kp lv = true → B ≤ b + 1) →
   Calls Tryz.prog fn #[rp b] w fun en w' =>
     Ends (res (rest s a)) (fun x => en = .returned (.int .i64 x.1) ∧ RS w0 B b s lv kp (s.size - x.2.length) (upd (wt kp lv) nn (N (rest s a) nn)) (upd (wt kp lv) tx (X (rest s a) tx)) (ks ++ upd (wt kp lv) [] (kd (rest s a))) w')
       (en = .returned (.int .i64 0) ∧ Bad w0 B b s lv kp w')
def keepN (_ : Bs) (n : Int) : Int := n
def keepX (_ : Bs) (x : ByteArray) : ByteArray := x
theorem upd_same {α : Type} (c : Bool) (x : α) : upd c x x = x := by cases c <;> rfl
def KidC (n : Nat) : Prop := OpC 132 n (Tm.rd n) keepN keepX (Tm.kids1 (Tm.rd n))
theorem kids1_some {f : Bs → Option (Nat × Bs)} {l : Bs} {d : Nat} {r : Bs} (h : f l = some (d, r)) : Tm.kids1 f l = [Tm.used l r] := by unfold Tm.kids1; rw [h]
set_option maxHeartbeats 400000 in
theorem one_any {n : Nat} (hK : KidC n) : OpC 122 n (Tm.oneA (Tm.rd n)) keepN keepX (Tm.kids1 (Tm.rd n)) := by
 intro w0 B b s lv kp a nn tx ks w h hl hB
 have HR := hid h
 clear h
 cases hr : Tm.rd n (rest s a) with
 | none =>
   have H1 := hid hr
   clear hr
   go_enter Tryz.func122, Tryz.ntmps122
   go_wp2_with fail
   refine (hK HR.out hl hB).mono ?_
   rintro e w' hE
   obtain ⟨rfl, hb⟩ := hE.none H1.out
   have HB := hid hb
   clear hE hb
   go_wp2_with fail
   go_ret
   exact ends_none (by unfold Tm.oneA; rw [H1.out]) ⟨rfl, HB.out⟩
 | some x =>
   obtain ⟨d, r⟩ := x
   have hd := Tm.rd_len hr
   have hd1 := hd.2.1
   have hd2 := hd.2.2.1
   have H1 := hid hr
   clear hr hd
   go_enter Tryz.func122, Tryz.ntmps122
   go_wp2_with fail
   refine (hK HR.out hl hB).mono ?_
   rintro e w' hE
   obtain ⟨rfl, hb⟩ := hE.some H1.out
   have HB := hid hb
   clear hE hb
   have hz : ((d : Int) == 0) = false := by simp; omega
   go_wp2_with fail
   go_ret
   exact ends_some (x := (d + 1, r)) (by unfold Tm.oneA; rw [H1.out]) ⟨by simp, HB.out⟩
set_option maxHeartbeats 400000 in
theorem opens_any (c : UInt8) (w : World) : Calls Tryz.prog 101 #[.int .u8 (c.toNat : Int)] w fun e w' => e = .returned (.bool (Tm.isPk (some c))) ∧ w' = w := by
 have hh : ∀ k : UInt8, c ≠ k → ((c.toNat : Int) == (k.toNat : Int)) = false := fun k hk => by simp; intro h; exact hk (UInt8.toNat_inj.1 (by omega))
 by_cases h1 : c = 80
 · subst h1
   go_enter Tryz.func101, Tryz.ntmps101
   go_wp2
   go_ret
   exact ⟨rfl, rfl⟩
 · by_cases h2 : c = 87
   · subst h2
     go_enter Tryz.func101, Tryz.ntmps101
     go_wp2
     go_ret
     exact ⟨rfl, rfl⟩
   · by_cases h3 : c = 76
     · subst h3
       go_enter Tryz.func101, Tryz.ntmps101
       go_wp2
       go_ret
       exact ⟨rfl, rfl⟩
     · have e1 : ((c.toNat : Int) == 80) = false := hh 80 h1
       have e2 : ((c.toNat : Int) == 87) = false := hh 87 h2
       have e3 : ((c.toNat : Int) == 76) = false := hh 76 h3
       have HE : Hid (Tm.isPk (some c) = false) := by show _ = _; simp [Tm.isPk, h1, h2, h3]
       clear h1 h2 h3 hh
       go_enter Tryz.func101, Tryz.ntmps101
       go_wp2
       go_ret
       exact ⟨by rw [HE.out]; rfl, rfl⟩
theorem rest_of {s : ByteArray} {a : Nat} {p r : Bs} (ha : a ≤ s.size) (h : rest s a = p ++ r) : rest s (s.size - r.length) = r ∧ s.size - r.length = a + p.length ∧ a + p.length + r.length = s.size := by
 have h1 : (rest s a).length = s.size - a := rest_len s a
 rw [h, List.length_append] at h1
 have e : s.size - r.length = a + p.length := by omega
 refine ⟨?_, e, by omega⟩
 rw [e, rest, ← List.drop_drop]
 show (rest s a).drop p.length = r
 rw [h, List.drop_left]
theorem rd_rest {n : Nat} {s : ByteArray} {a : Nat} {d : Nat} {r : Bs} (ha : a ≤ s.size) (h : Tm.rd n (rest s a) = some (d, r)) :
   rest s (s.size - r.length) = r ∧ a < s.size - r.length ∧ s.size - r.length ≤ s.size ∧ r.length ≤ s.size ∧ a < s.size ∧ Tm.used (rest s a) r = (rest s a).take (s.size - r.length - a) := by
 obtain ⟨h1, h2, h3, h4⟩ := Tm.rd_len h
 obtain ⟨e1, e2, e3⟩ := rest_of ha h4
 have h5 : (rest s a).length = s.size - a := rest_len s a
 refine ⟨e1, by omega, by omega, by omega, by omega, ?_⟩
 unfold Tm.used
 rw [h5, show s.size - a - r.length = s.size - r.length - a by omega]
theorem kids2_some {f : Bs → Option (Nat × Bs)} {l : Bs} {d : Nat} {r r' : Bs} (h : Tm.twoA f l = some (d, r, r')) : Tm.kids2 f l = [Tm.used l r, Tm.used r r'] := by unfold Tm.kids2; rw [h]
def PairC (n : Nat) : Prop :=
 ∀ {w0 : World} {B b : Nat} {s : ByteArray} {lv : Nat} {kp : Bool} {a : Nat} {nn : Int} {tx : ByteArray} {ks : List Bs} {w : World},
   RS w0 B b s lv kp a nn tx ks w → lv + n = 64 → (wt kp lv = true → B ≤ b + 1) →
   Calls Tryz.prog 133 #[rp b] w fun en w' =>
     Ends (Tm.twoA (Tm.rd n) (rest s a)) (fun x => en = .returned (.tuple #[.int .i64 x.1, .int .i64 ((s.size - x.2.1.length : Nat) : Int)]) ∧ RS w0 B b s lv kp (s.size - x.2.2.length) nn tx (ks ++ upd (wt kp lv) [] (Tm.kids2 (Tm.rd n) (rest s a))) w')
       (en = .returned (.tuple #[.int .i64 0, .int .i64 0]) ∧ Bad w0 B b s lv kp w')
theorem upd_app (c : Bool) (ks x y : List Bs) : ks ++ upd c [] x ++ upd c [] y = ks ++ upd c [] (x ++ y) := by cases c <;> simp [upd]
set_option maxHeartbeats 400000 in
theorem pair_any {n : Nat} (hK : KidC n) : PairC n := by
 intro w0 B b s lv kp a nn tx ks w h hl hB
 have hle := h.le
 have hsz := h.sz
 have HR := hid h
 clear h
 cases hr : Tm.rd n (rest s a) with
 | none =>
   have H1 := hid hr
   clear hr
   go_enter Tryz.func133, Tryz.ntmps133
   go_wp2_with fail
   refine (hK HR.out hl hB).mono ?_
   rintro e w' hE
   obtain ⟨rfl, hb⟩ := hE.none H1.out
   have HB := hid hb
   clear hE hb
   go_wp2_with fail
   go_ret2
   exact ends_none (by unfold Tm.twoA; rw [H1.out]) ⟨rfl, HB.out⟩
 | some x =>
   obtain ⟨d, r⟩ := x
   have hd := Tm.rd_len hr
   have hd1 := hd.2.1
   have hd2 := hd.2.2.1
   obtain ⟨q1, q2, q3, q4, q5, q6⟩ := rd_rest hle hr
   have H1 := hid hr
   have Q1 := hid q1
   clear hr hd q1 q6
   go_enter Tryz.func133, Tryz.ntmps133
   go_wp2_with fail
   refine (hK HR.out hl hB).mono ?_
   rintro e w1 hE
   obtain ⟨rfl, hb⟩ := hE.some H1.out
   have HB := hid hb
   have hcs := hb.cells
   obtain ⟨c0, c1, c2, c3, hf⟩ := hcs
   clear hE hb
   have hz : ((d : Int) == 0) = false := by simp; omega
   go_wp2_with fail
   refine (hK HB.out hl hB).mono ?_
   rintro e w2 hE
   have HE := hid hE
   clear hE
   cases hr2 : Tm.rd n r with
   | none =>
     have H2 := hid hr2
     clear hr2
     obtain ⟨rfl, hb⟩ := HE.out.none (by show Tm.rd n (rest s (s.size - r.length)) = none; rw [Q1.out]; exact H2.out)
     have HB2 := hid hb
     clear hb
     go_wp2_with fail
     go_ret2
     exact ends_none (by unfold Tm.twoA; rw [H1.out]; simp only; rw [H2.out]) ⟨rfl, HB2.out⟩
   | some x =>
     obtain ⟨d', r'⟩ := x
     have hd := Tm.rd_len hr2
     have hd3 := hd.2.1
     have hd4 := hd.2.2.1
     have H2 := hid hr2
     clear hr2 hd
     obtain ⟨rfl, hb⟩ := HE.out.some (x := (d', r')) (by show Tm.rd n (rest s (s.size - r.length)) = _; rw [Q1.out]; exact H2.out)
     have HB2 := hid hb
     clear hb
     have hz2 : ((d' : Int) == 0) = false := by simp; omega
     have HT : Hid (Tm.twoA (Tm.rd n) (rest s a) = some (max d d' + 1, r, r')) := by show _ = _; unfold Tm.twoA; rw [H1.out]; simp only; rw [H2.out]
     have HKK : Hid (ks ++ upd (wt kp lv) [] (Tm.kids1 (Tm.rd n) (rest s a)) ++ upd (wt kp lv) [] (Tm.kids1 (Tm.rd n) (rest s (s.size - r.length))) = ks ++ upd (wt kp lv) [] (Tm.kids2 (Tm.rd n) (rest s a))) := by
       show _ = _
       rw [upd_app, kids2_some HT.out, kids1_some H1.out, Q1.out, kids1_some H2.out]; rfl
     by_cases hlt : d < d'
     · go_wp2_with fail
       go_ret2
       refine ends_some HT.out ⟨?_, ?_⟩
       · show _ = Ending.returned (.tuple #[.int .i64 ((max d d' + 1 : Nat) : Int), _])
         rw [show max d d' + 1 = d' + 1 by omega]; rfl
       · have := HB2.out
         rw [HKK.out] at this
         simpa only [keepN, keepX, upd_same] using this
     · go_wp2_with fail
       go_ret2
       refine ends_some HT.out ⟨?_, ?_⟩
       · show _ = Ending.returned (.tuple #[.int .i64 ((max d d' + 1 : Nat) : Int), _])
         rw [show max d d' + 1 = d + 1 by omega]; rfl
       · have := HB2.out
         rw [HKK.out] at this
         simpa only [keepN, keepX, upd_same] using this
set_option maxHeartbeats 400000 in
theorem two_any {n : Nat} (hP : PairC n) : OpC 123 n (Tm.two2 (Tm.rd n)) keepN keepX (Tm.kids2 (Tm.rd n)) := by
 intro w0 B b s lv kp a nn tx ks w h hl hB
 have HR := hid h
 clear h
 cases hr : Tm.twoA (Tm.rd n) (rest s a) with
 | none =>
   have H1 := hid hr
   clear hr
   go_enter Tryz.func123, Tryz.ntmps123
   go_wp2_with fail
   refine (hP HR.out hl hB).mono ?_
   rintro e w' hE
   obtain ⟨rfl, hb⟩ := hE.none H1.out
   have HB := hid hb
   clear hE hb
   go_wp2_with fail
   go_ret
   exact ends_none (by unfold Tm.two2; rw [H1.out]) ⟨rfl, HB.out⟩
 | some x =>
   obtain ⟨d, r, r'⟩ := x
   have H1 := hid hr
   clear hr
   go_enter Tryz.func123, Tryz.ntmps123
   go_wp2_with fail
   refine (hP HR.out hl hB).mono ?_
   rintro e w' hE
   obtain ⟨rfl, hb⟩ := hE.some H1.out
   have HB := hid hb
   clear hE hb
   go_wp2_with fail
   go_ret
   refine ends_some (x := (d, r')) (by unfold Tm.two2; rw [H1.out]) ⟨rfl, ?_⟩
   simpa only [keepN, keepX, upd_same] using HB.out
theorem two_rest {n : Nat} {s : ByteArray} {a : Nat} {d : Nat} {r r' : Bs} (ha : a ≤ s.size) (h : Tm.twoA (Tm.rd n) (rest s a) = some (d, r, r')) :
   a < s.size ∧ a < s.size - r.length ∧ s.size - r.length < s.size ∧ s.size - r.length < s.size - r'.length ∧ s.size - r'.length ≤ s.size ∧ rest s (s.size - r.length) = r ∧ 1 ≤ d ∧ d ≤ n + 1 ∧
     Tm.used (rest s a) r = (rest s a).take (s.size - r.length - a) ∧ Tm.used r r' = r.take (s.size - r'.length - (s.size - r.length)) := by
 unfold Tm.twoA at h
 cases h1 : Tm.rd n (rest s a) with
 | none => rw [h1] at h; simp at h
 | some x =>
   obtain ⟨d1, r1⟩ := x
   rw [h1] at h
   simp only at h
   obtain ⟨q1, q2, q3, q4, q5, q6⟩ := rd_rest ha h1
   obtain ⟨_, p1, p2, _⟩ := Tm.rd_len h1
   cases h2 : Tm.rd n r1 with
   | none => rw [h2] at h; simp at h
   | some x =>
     obtain ⟨d2, r2⟩ := x
     rw [h2] at h
     simp at h
     obtain ⟨rfl, rfl, rfl⟩ := h
     rw [← q1] at h2
     obtain ⟨t1, t2, t3, t4, t5, t6⟩ := rd_rest q3 h2
     obtain ⟨_, u1, u2, _⟩ := Tm.rd_len h2
     rw [q1] at t6
     exact ⟨q5, q2, t5, t2, t3, q1, by omega, by omega, q6, t6⟩
set_option maxHeartbeats 400000 in
theorem pub_any {n : Nat} (hO : OpC 122 n (Tm.oneA (Tm.rd n)) keepN keepX (Tm.kids1 (Tm.rd n))) : OpC 121 n (Tm.pubA (Tm.rd n)) keepN keepX (Tm.kids1 (Tm.rd n)) := by
 intro w0 B b s lv kp a nn tx ks w h hl hB
 have hle := h.le
 have hsz := h.sz
 obtain ⟨c0, c1, c2, c3, hf⟩ := h.cells
 have HR := hid h
 clear h
 cases hr : Tm.rd n (rest s a) with
 | none =>
   have H1 := hid hr
   clear hr
   go_enter Tryz.func121, Tryz.ntmps121
   go_wp2_with fail
   refine (hO HR.out hl hB).mono ?_
   rintro e w' hE
   obtain ⟨rfl, hb⟩ := hE.none (by unfold Tm.oneA; rw [H1.out])
   have HB := hid hb
   clear hE hb
   go_wp2_with fail
   go_ret
   exact ends_none (by unfold Tm.pubA; rw [H1.out]) ⟨rfl, HB.out⟩
 | some x =>
   obtain ⟨d, r⟩ := x
   have hd := Tm.rd_len hr
   have hd1 := hd.2.1
   have hd2 := hd.2.2.1
   obtain ⟨q1, q2, q3, q4, q5, q6⟩ := rd_rest hle hr
   have H1 := hid hr
   clear hr hd q1 q6
   have hh : (rest s a).head? = some s[a] := by rw [rest_cons q5]; rfl
   have HH := hid hh
   clear hh
   go_enter Tryz.func121, Tryz.ntmps121
   go_wp2_with fail
   refine (hO HR.out hl hB).mono ?_
   rintro e w1 hE
   obtain ⟨rfl, hb⟩ := hE.some (x := (d + 1, r)) (by unfold Tm.oneA; rw [H1.out])
   have HB := hid hb
   obtain ⟨c0, c1, c2, c3, hf⟩ := hb.cells
   clear hE hb
   have hz : ((d + 1 : Int) == 0) = false := by simp; omega
   by_cases h86 : s[a] = 86
   · have e1 : ((s[a].toNat : Int) == 86) = true := by simp [h86]
     have HE : Hid (Tm.pubA (Tm.rd n) (rest s a) = none) := by show _ = _; unfold Tm.pubA; rw [H1.out]; simp only; rw [if_pos (Or.inl (by rw [HH.out, h86]))]
     clear h86
     go_wp2_with fail
     go_ret
     exact ends_none HE.out ⟨rfl, HB.out.bad⟩
   · have e1 : ((s[a].toNat : Int) == 86) = false := by simp; intro h; exact h86 (UInt8.toNat_inj.1 (by simp; omega))
     by_cases h75 : s[a] = 75
     · have e2 : ((s[a].toNat : Int) == 75) = true := by simp [h75]
       have HE : Hid (Tm.pubA (Tm.rd n) (rest s a) = none) := by show _ = _; unfold Tm.pubA; rw [H1.out]; simp only; rw [if_pos (Or.inr (by rw [HH.out, h75]))]
       clear h86 h75
       go_wp2_with fail
       go_ret
       exact ends_none HE.out ⟨rfl, HB.out.bad⟩
     · have e2 : ((s[a].toNat : Int) == 75) = false := by simp; intro h; exact h75 (UInt8.toNat_inj.1 (by simp; omega))
       have HE : Hid (Tm.pubA (Tm.rd n) (rest s a) = some (d + 1, r)) := by show _ = _; unfold Tm.pubA; rw [H1.out]; simp only; rw [if_neg (by rw [HH.out]; simp [h86, h75])]
       clear h86 h75
       go_wp2_with fail
       go_ret
       exact ends_some HE.out ⟨by simp, HB.out⟩
set_option maxHeartbeats 400000 in
theorem bound_any {n : Nat} (hO : OpC 123 n (Tm.two2 (Tm.rd n)) keepN keepX (Tm.kids2 (Tm.rd n))) : OpC 126 n (Tm.boundA (Tm.rd n)) keepN keepX (Tm.kids2 (Tm.rd n)) := by
 intro w0 B b s lv kp a nn tx ks w h hl hB
 have hle := h.le
 have hsz := h.sz
 obtain ⟨c0, c1, c2, c3, hf⟩ := h.cells
 have HR := hid h
 clear h
 cases hr : Tm.twoA (Tm.rd n) (rest s a) with
 | none =>
   have H1 := hid hr
   clear hr
   go_enter Tryz.func126, Tryz.ntmps126
   go_wp2_with fail
   refine (hO HR.out hl hB).mono ?_
   rintro e w' hE
   obtain ⟨rfl, hb⟩ := hE.none (by unfold Tm.two2; rw [H1.out])
   have HB := hid hb
   clear hE hb
   go_wp2_with fail
   go_ret
   exact ends_none (by unfold Tm.boundA; rw [H1.out]) ⟨rfl, HB.out⟩
 | some x =>
   obtain ⟨d, r, r'⟩ := x
   obtain ⟨q1, q2, q3, q4, q5, q6, q7, q8, q9, q10⟩ := two_rest hle hr
   have H1 := hid hr
   clear hr q6 q9 q10
   have hh : (rest s a).head? = some s[a] := by rw [rest_cons q1]; rfl
   have HH := hid hh
   clear hh
   go_enter Tryz.func126, Tryz.ntmps126
   go_wp2_with fail
   refine (hO HR.out hl hB).mono ?_
   rintro e w1 hE
   obtain ⟨rfl, hb⟩ := hE.some (x := (d, r')) (by unfold Tm.two2; rw [H1.out])
   have HB := hid hb
   obtain ⟨c0, c1, c2, c3, hf⟩ := hb.cells
   clear hE hb
   have hz : ((d : Int) == 0) = false := by simp; omega
   go_wp2_with fail
   refine (opens_any _ _).mono ?_
   rintro e w2 ⟨rfl, rfl⟩
   cases hp : Tm.isPk (some s[a])
   · have HE : Hid (Tm.boundA (Tm.rd n) (rest s a) = none) := by show _ = _; unfold Tm.boundA; rw [H1.out]; simp only; rw [HH.out, hp]; rfl
     clear hp
     go_wp2_with fail
     go_ret
     exact ends_none HE.out ⟨rfl, HB.out.bad⟩
   · have HE : Hid (Tm.boundA (Tm.rd n) (rest s a) = some (d, r')) := by show _ = _; unfold Tm.boundA; rw [H1.out]; simp only; rw [HH.out, hp]; rfl
     clear hp
     go_wp2_with fail
     go_ret
     exact ends_some HE.out ⟨rfl, HB.out⟩
set_option maxHeartbeats 400000 in
theorem joint_any {n : Nat} (hP : PairC n) : OpC 125 n (Tm.jointA (Tm.rd n)) keepN keepX (Tm.kids2 (Tm.rd n)) := by
 intro w0 B b s lv kp a nn tx ks w h hl hB
 have hle := h.le
 have hsz := h.sz
 obtain ⟨c0, c1, c2, c3, hf⟩ := h.cells
 have HR := hid h
 clear h
 cases hr : Tm.twoA (Tm.rd n) (rest s a) with
 | none =>
   have H1 := hid hr
   clear hr
   go_enter Tryz.func125, Tryz.ntmps125
   go_wp2_with fail
   refine (hP HR.out hl hB).mono ?_
   rintro e w' hE
   obtain ⟨rfl, hb⟩ := hE.none H1.out
   have HB := hid hb
   clear hE hb
   go_wp2_with fail
   go_ret
   exact ends_none (by unfold Tm.jointA; rw [H1.out]) ⟨rfl, HB.out⟩
 | some x =>
   obtain ⟨d, r, r'⟩ := x
   obtain ⟨q1, q2, q3, q4, q5, q6, q7, q8, q9, q10⟩ := two_rest hle hr
   have H1 := hid hr
   have hh : (rest s a).head? = some s[a] := by rw [rest_cons q1]; rfl
   have hh2 : r.head? = some s[s.size - r.length] := by have e := congrArg List.head? q6; rw [rest_cons q3] at e; exact e.symm
   have HH := hid hh
   have HH2 := hid hh2
   clear hr q6 q9 q10 hh hh2
   go_enter Tryz.func125, Tryz.ntmps125
   go_wp2_with fail
   refine (hP HR.out hl hB).mono ?_
   rintro e w1 hE
   obtain ⟨rfl, hb⟩ := hE.some H1.out
   have HB := hid hb
   obtain ⟨c0, c1, c2, c3, hf⟩ := hb.cells
   clear hE hb
   have hz : ((d : Int) == 0) = false := by simp; omega
   go_wp2_with fail
   refine (opens_any _ _).mono ?_
   rintro e w2 ⟨rfl, rfl⟩
   cases hp : Tm.isPk (some s[a])
   · have HE : Hid (Tm.jointA (Tm.rd n) (rest s a) = none) := by show _ = _; unfold Tm.jointA; rw [H1.out]; simp only; rw [HH.out, hp]; rfl
     clear hp
     go_wp2_with fail
     go_ret
     exact ends_none HE.out ⟨rfl, HB.out.bad⟩
   · have HP := hid hp
     clear hp
     go_wp2_with fail
     refine (opens_any _ _).mono ?_
     rintro e w2 ⟨rfl, rfl⟩
     cases hp : Tm.isPk (some s[s.size - r.length])
     · have HE : Hid (Tm.jointA (Tm.rd n) (rest s a) = none) := by show _ = _; unfold Tm.jointA; rw [H1.out]; simp only; rw [HH.out, HP.out, HH2.out, hp]; rfl
       clear hp
       go_wp2_with fail
       go_ret
       exact ends_none HE.out ⟨rfl, HB.out.bad⟩
     · have HE : Hid (Tm.jointA (Tm.rd n) (rest s a) = some (d, r')) := by show _ = _; unfold Tm.jointA; rw [H1.out]; simp only; rw [HH.out, HP.out, HH2.out, hp]; rfl
       clear hp
       go_wp2_with fail
       go_ret
       refine ends_some HE.out ⟨rfl, ?_⟩
       simpa only [keepN, keepX, upd_same] using HB.out
end Go.Proofs.YtkifchjpgdmcoaaGreatDoor

/- What the reader's inner readings do, where a part's reading is known: the readings that cut the text. -/
namespace Go.Proofs.YtkifchjpgdmcoaaGreatDoor
open Go.RowKit
theorem bytesLess_blt : ∀ a b : Bs, Op.bytesLess a b = Tm.blt a b
 | [], [] => rfl
 | [], _ :: _ => rfl
 | _ :: _, [] => rfl
 | a :: x, b :: y => by simp only [Op.bytesLess, Tm.blt, bytesLess_blt x y]
theorem ba_eq {x : ByteArray} {l : Bs} (h : x.data.toList = l) : x = ⟨l.toArray⟩ := by subst h; cases x; simp
theorem extract_eq (s : ByteArray) (a b : Nat) : s.extract a b = ⟨((rest s a).take (b - a)).toArray⟩ := ba_eq (Lib.extract_data s a b)
theorem agree_le {s : ByteArray} {a k m : Nat} {r r' : Bs} (h1 : Tm.used (rest s a) r = (rest s a).take (k - a)) (h2 : Tm.used r r' = r.take (m - k)) (h3 : rest s k = r) :
   Tm.leB (Tm.used (rest s a) r) (Tm.used r r') = (Op.bytesLess (s.extract a k).toList (s.extract k m).toList || (s.extract a k).toList == (s.extract k m).toList) := by
 rw [h1, h2, ← h3, Lib.extract_toList, Lib.extract_toList, bytesLess_blt]
 rfl
set_option maxHeartbeats 400000 in
theorem agree_any {n : Nat} (hP : PairC n) : OpC 124 n (Tm.agreeA (Tm.rd n)) keepN keepX (Tm.kids2 (Tm.rd n)) := by
 intro w0 B b s lv kp a nn tx ks w h hl hB
 have hle := h.le
 have hsz := h.sz
 obtain ⟨c0, c1, c2, c3, hf⟩ := h.cells
 have HR := hid h
 clear h
 cases hr : Tm.twoA (Tm.rd n) (rest s a) with
 | none =>
   have H1 := hid hr
   clear hr
   go_enter Tryz.func124, Tryz.ntmps124
   go_wp2_with fail
   refine (hP HR.out hl hB).mono ?_
   rintro e w' hE
   obtain ⟨rfl, hb⟩ := hE.none H1.out
   have HB := hid hb
   clear hE hb
   go_wp2_with fail
   go_quiet (fail)
   go_wp2_with fail
   go_ret
   exact ends_none (by unfold Tm.agreeA; rw [H1.out]) ⟨rfl, HB.out.drewN _⟩
 | some x =>
   obtain ⟨d, r, r'⟩ := x
   obtain ⟨q1, q2, q3, q4, q5, q6, q7, q8, q9, q10⟩ := two_rest hle hr
   have H1 := hid hr
   have Q9 := hid q9
   have Q10 := hid q10
   have Q6 := hid q6
   clear hr q6 q9 q10
   go_enter Tryz.func124, Tryz.ntmps124
   go_wp2_with fail
   refine (hP HR.out hl hB).mono ?_
   rintro e w1 hE
   obtain ⟨rfl, hb⟩ := hE.some H1.out
   have HB := hid hb
   obtain ⟨c0, c1, c2, c3, hf⟩ := hb.cells
   clear hE hb
   have hz : ((d : Int) == 0) = false := by simp; omega
   generalize hk : s.size - r.length = k at *
   generalize hm : s.size - r'.length = m at *
   have HK := hid hk
   have HM := hid hm
   clear hk hm
   go_wp2_with fail
   go_quiet (fail)
   go_wp2_with fail
   · have ht : (!Op.bytesLess (s.extract a k).toList (s.extract k m).toList) = true ∧ (!(s.extract a k).toList == (s.extract k m).toList) = true := by assumption
     have e := agree_le Q9.out Q10.out Q6.out
     simp only [Bool.not_eq_true'] at ht
     rw [ht.1, ht.2] at e
     go_ret
     refine ends_none ?_ ⟨rfl, (HB.out.drewN _).bad⟩
     unfold Tm.agreeA
     rw [H1.out]
     simp only [e]
     rfl
   · have ht : (!Op.bytesLess (s.extract a k).toList (s.extract k m).toList) = false ∨ (!(s.extract a k).toList == (s.extract k m).toList) = false := by assumption
     have e := agree_le Q9.out Q10.out Q6.out
     have e2 : (Op.bytesLess (s.extract a k).toList (s.extract k m).toList || (s.extract a k).toList == (s.extract k m).toList) = true := by
       rcases ht with ht | ht
       · simp only [Bool.not_eq_false'] at ht; rw [ht]; rfl
       · simp only [Bool.not_eq_false'] at ht; rw [ht, Bool.or_true]
     rw [e2] at e
     go_ret
     refine ends_some (x := (d, r')) ?_ ⟨rfl, ?_⟩
     · unfold Tm.agreeA
       rw [H1.out]
       simp only [e]
       rfl
     · show RS w0 B b s lv kp (s.size - r'.length) _ _ _ _
       rw [HM.out]
       simpa only [keepN, keepX, upd_same] using HB.out.drewN _
set_option maxHeartbeats 400000 in
theorem name_any (n : Nat) : OpC 118 n Tm.nameA (fun l _ => (Tm.nameN l : Int)) keepX (fun _ => []) := by
 intro w0 B b s lv kp a nn tx ks w h hl hB
 have hle := h.le
 have hsz := h.sz
 have HR := hid h
 clear h
 cases hr : Tm.num 59 (rest s a) with
 | none =>
   have H1 := hid hr
   clear hr
   go_enter Tryz.func118, Tryz.ntmps118
   go_wp2_with fail
   refine (number_any HR.out 59 59 rfl).mono ?_
   rintro e w' hE
   obtain ⟨rfl, a', hb⟩ := hE.none H1.out
   have HB := hid hb
   clear hE hb
   go_wp2_with fail
   go_ret
   exact ends_none (by unfold Tm.nameA; rw [H1.out]) ⟨rfl, HB.out.bad⟩
 | some x =>
   obtain ⟨k, r⟩ := x
   have H1 := hid hr
   clear hr
   have HE : Hid (Tm.nameA (rest s a) = some (1, r)) := by show _ = _; unfold Tm.nameA; rw [H1.out]
   have HN : Hid (Tm.nameN (rest s a) = k) := by show _ = _; unfold Tm.nameN; rw [H1.out]
   go_enter Tryz.func118, Tryz.ntmps118
   go_wp2_with fail
   refine (number_any HR.out 59 59 rfl).mono ?_
   rintro e w1 hE
   obtain ⟨rfl, hb⟩ := hE.some H1.out
   have HB := hid hb
   obtain ⟨kids, hk, _⟩ := hb.blk
   have c5 : w1.cell? ⟨b, 5, none⟩ = some (.int .i64 nn) := by rw [cell_of_heap hk]; rfl
   have f5 : w1.frozen? ⟨b, 5, none⟩ = false := frozen_of_heap hk _
   clear hE hb hk
   go_wp2_with fail
   refine (wanted_any HB.out).mono ?_
   rintro e w2 ⟨rfl, rfl⟩
   cases hw : wt kp lv
   · have hw2 : (kp && lv == 1) = false := hw
     have HW := hid hw
     clear hw
     rw [hw2]
     clear hw2
     go_wp2_with fail
     go_ret
     refine ends_some HE.out ⟨rfl, ?_⟩
     have := HB.out
     simpa [HW.out, upd] using this
   · have hw2 : (kp && lv == 1) = true := hw
     have HW := hid hw
     clear hw
     rw [hw2]
     clear hw2
     go_wp2_with fail
     go_ret
     refine ends_some HE.out ⟨rfl, ?_⟩
     have := HB.out.setN (k : Int)
     simpa [HW.out, HN.out, upd, keepX] using this
set_option maxHeartbeats 400000 in
theorem bytes_any (n : Nat) : OpC 119 n Tm.textA keepN (fun l _ => ⟨(Tm.textX l).toArray⟩) (fun _ => []) := by
 intro w0 B b s lv kp a nn tx ks w h hl hB
 have hle := h.le
 have hsz := h.sz
 have HR := hid h
 clear h
 cases hr : Tm.num 58 (rest s a) with
 | none =>
   have H1 := hid hr
   clear hr
   go_enter Tryz.func119, Tryz.ntmps119
   go_wp2_with fail
   refine (number_any HR.out 58 58 rfl).mono ?_
   rintro e w' hE
   obtain ⟨rfl, a', hb⟩ := hE.none H1.out
   have HB := hid hb
   clear hE hb
   go_wp2_with fail
   go_quiet (fail)
   go_wp2_with fail
   go_ret
   exact ends_none (by unfold Tm.textA; rw [H1.out]) ⟨rfl, (HB.out.drewN _).bad⟩
 | some x =>
   obtain ⟨k, r⟩ := x
   obtain ⟨p, _, hp, _⟩ := Tm.num_app hr
   obtain ⟨e1, e2, e3⟩ := rest_of hle hp
   have H1 := hid hr
   have E1 := hid e1
   have hj0 : s.size - r.length ≤ s.size := by omega
   have hjr : s.size - (s.size - r.length) = r.length := by omega
   have HJ := hid hjr
   clear hr e1 e2 e3 hp hjr
   go_enter Tryz.func119, Tryz.ntmps119
   go_wp2_with fail
   refine (number_any HR.out 58 58 rfl).mono ?_
   rintro e w1 hE
   obtain ⟨rfl, hb⟩ := hE.some H1.out
   have HB := hid hb
   obtain ⟨c0, c1, c2, c3, hf⟩ := hb.cells
   obtain ⟨kids, hk, _⟩ := hb.blk
   have c6 : w1.cell? ⟨b, 6, none⟩ = some (.string tx) := by rw [cell_of_heap hk]; rfl
   clear hE hb hk
   generalize hj : s.size - r.length = j at *
   have HJJ := hid hj
   clear hj
   by_cases h1 : 4096 < k
   · have h1' : (4096 : Int) < (k : Int) := by omega
     have g1 : decide ((4096 : Int) < (k : Int)) = true := by simpa using h1'
     have HE : Hid (Tm.textA (rest s a) = none) := by show _ = _; unfold Tm.textA; rw [H1.out]; simp only; rw [if_neg (by omega)]
     go_wp2_with fail
     go_quiet (fail)
     go_wp2_with fail
     go_ret
     exact ends_none HE.out ⟨rfl, (HB.out.drewN _).bad⟩
   · have g1 : decide ((4096 : Int) < (k : Int)) = false := by simp; omega
     have h1' : k ≤ 4096 := by omega
     by_cases h2 : s.size - j < k
     · have h2' : (s.size : Int) - (j : Int) < (k : Int) := by omega
       have HE : Hid (Tm.textA (rest s a) = none) := by
         show _ = _; unfold Tm.textA; rw [H1.out]; simp only; rw [if_neg]; have := HJ.out; omega
       clear h1
       go_wp2_with fail
       go_quiet (fail)
       go_wp2_with fail
       go_ret
       exact ends_none HE.out ⟨rfl, (HB.out.drewN _).bad⟩
     · have h2' : ¬ (s.size : Int) - (j : Int) < (k : Int) := by omega
       have h3 : j + k ≤ s.size := by omega
       have HE : Hid (Tm.textA (rest s a) = some (1, r.drop k)) := by
         show _ = _; unfold Tm.textA; rw [H1.out]; simp only; rw [if_pos]; have := HJ.out; omega
       have HX : Hid (Tm.textX (rest s a) = r.take k) := by show _ = _; unfold Tm.textX; rw [H1.out]
       clear h1 h2
       go_wp2_with fail
       go_quiet (fail)
       go_wp2_with fail
       refine (wanted_any ((HB.out.drewN _).setAt (a' := j + k) (by omega) (by omega) _ (by simp))).mono ?_
       rintro e w2 ⟨rfl, rfl⟩
       cases hw : wt kp lv
       · have hw2 : (kp && lv == 1) = false := hw
         have HW := hid hw
         clear hw
         rw [hw2]
         clear hw2
         go_wp2_with fail
         go_ret
         refine ends_some HE.out ⟨rfl, ?_⟩
         show RS w0 B b s lv kp (s.size - (r.drop k).length) _ _ _ _
         rw [show s.size - (r.drop k).length = j + k by rw [List.length_drop]; have := HJ.out; omega, HW.out]
         simpa [upd] using (HB.out.drewN _).setAt (a' := j + k) (by omega) (by omega) _ (by simp)
       · have hw2 : (kp && lv == 1) = true := hw
         have HW := hid hw
         clear hw
         rw [hw2]
         clear hw2
         go_wp2_with fail
         go_region
         all_goals
           go_wp2_with fail
           go_ret
           refine ends_some HE.out ⟨rfl, ?_⟩
           show RS w0 B b s lv kp (s.size - (r.drop k).length) _ _ _ _
           rw [show s.size - (r.drop k).length = j + k by rw [List.length_drop]; have := HJ.out; omega, HW.out]
           have hx : (⟨(Tm.textX (rest s a)).toArray⟩ : ByteArray) = s.extract j (j + k) := by
             rw [extract_eq, HX.out, E1.out, Nat.add_sub_cancel_left]
           simp only [upd, if_true, hx, List.append_nil, keepN]
           exact (((HB.out.drewN _).setAt (a' := j + k) (by omega) (by omega) _ (by simp)).setTx _).drew
set_option maxHeartbeats 1000000 in
theorem tuple_any {n : Nat} (hK : KidC n) : OpC 120 n (Tm.tupleA (Tm.rd n)) keepN keepX (Tm.tupleK (Tm.rd n)) := by
 intro w0 B b s lv kp a nn tx ks w h hl hB
 have hle := h.le
 have hsz := h.sz
 have HR := hid h
 have HB0 := hid hB
 clear h hB
 cases hr : Tm.num 58 (rest s a) with
 | none =>
   have H1 := hid hr
   clear hr
   go_enter Tryz.func120, Tryz.ntmps120
   go_wp2_with fail
   refine (number_any HR.out 58 58 rfl).mono ?_
   rintro e w' hE
   obtain ⟨rfl, a', hb⟩ := hE.none H1.out
   have HB := hid hb
   clear hE hb
   go_wp2_with fail
   go_ret
   exact ends_none (by unfold Tm.tupleA; rw [H1.out]) ⟨rfl, HB.out.bad⟩
 | some x =>
   obtain ⟨k, r⟩ := x
   obtain ⟨p, _, hp, _⟩ := Tm.num_app hr
   obtain ⟨e1, e2, e3⟩ := rest_of hle hp
   have H1 := hid hr
   have E1 := hid e1
   have hj0 : s.size - r.length ≤ s.size := by omega
   clear hr e1 e2 e3 hp
   by_cases h1 : 32 < k
   · have HE : Hid (Tm.tupleA (Tm.rd n) (rest s a) = none) := by show _ = _; unfold Tm.tupleA; rw [H1.out]; simp only; rw [if_neg (by omega)]
     have h1' : (32 : Int) < (k : Int) := by omega
     go_enter Tryz.func120, Tryz.ntmps120
     go_wp2_with fail
     refine (number_any HR.out 58 58 rfl).mono ?_
     rintro e w' hE
     obtain ⟨rfl, hb⟩ := hE.some H1.out
     have HB := hid hb
     clear hE hb
     go_wp2_with fail
     go_ret
     exact ends_none HE.out ⟨rfl, HB.out.bad⟩
   · have h1' : ¬ (32 : Int) < (k : Int) := by omega
     have hk : k ≤ 32 := by omega
     have HE : Hid (Tm.tupleA (Tm.rd n) (rest s a) = Tm.manyA (Tm.rd n) k 1 r) := by show _ = _; unfold Tm.tupleA; rw [H1.out]; simp only; rw [if_pos (by omega)]
     have HKK : Hid (Tm.tupleK (Tm.rd n) (rest s a) = Tm.kidsN (Tm.rd n) k r) := by show _ = _; unfold Tm.tupleK; rw [H1.out]
     clear h1
     go_enter Tryz.func120, Tryz.ntmps120
     go_wp2_with fail
     refine (number_any HR.out 58 58 rfl).mono ?_
     rintro e w1 hE
     obtain ⟨rfl, hb⟩ := hE.some H1.out
     have HB := hid hb
     clear hE hb
     go_wp2_with fail
     go_loopg [5, 19] k (fun g dv iv wr => ∃ i d j : Nat, ∃ kk : List Bs, i ≤ k ∧ g = k - i ∧ iv = .int .i64 i ∧ dv = .int .i64 d ∧ 1 ≤ d ∧ d ≤ n + 1 ∧ RS w0 B b s lv kp j nn tx (ks ++ upd (wt kp lv) [] kk) wr ∧ Tm.manyA (Tm.rd n) k 1 r = Tm.manyA (Tm.rd n) (k - i) d (rest s j) ∧ Tm.kidsN (Tm.rd n) k r = kk ++ Tm.kidsN (Tm.rd n) (k - i) (rest s j))
     case atStart =>
       refine ⟨0, 1, s.size - r.length, [], Nat.zero_le _, rfl, rfl, rfl, Nat.le_refl _, by omega, ?_, ?_, ?_⟩
       · have : ks ++ upd (wt kp lv) [] [] = ks := by rw [upd_same]; simp
         rw [this]
         exact HB.out
       · rw [E1.out]; rfl
       · rw [E1.out]; rfl
     case round =>
       obtain ⟨i, d, j, kk, hik, rfl, rfl, rfl, hd1, hd2, hR, hM, hN⟩ := hrel
       have hjl := hR.le
       have HR2 := hid hR
       have HM := hid hM
       have HN := hid hN
       clear hR hM hN
       by_cases hlt : i < k
       · have hlt' : (i : Int) < (k : Int) := by omega
         go_wp2_with fail
         refine (hK HR2.out hl HB0.out).mono ?_
         rintro e w2 hE
         have HE2 := hid hE
         clear hE
         cases hr2 : Tm.rd n (rest s j) with
         | none =>
           have H2 := hid hr2
           clear hr2
           obtain ⟨rfl, hb⟩ := HE2.out.none H2.out
           have HB2 := hid hb
           clear hb
           go_wp2_with fail
           go_ret
           refine ends_none ?_ ⟨rfl, HB2.out⟩
           rw [HE.out, HM.out, show k - i = (k - i - 1) + 1 by omega, Tm.manyA, H2.out]
         | some x =>
           obtain ⟨d', r'⟩ := x
           have hdd := Tm.rd_len hr2
           have hd3 := hdd.2.1
           have hd4 := hdd.2.2.1
           obtain ⟨q1, q2, q3, q4, q5, q6⟩ := rd_rest hjl hr2
           have H2 := hid hr2
           have Q1 := hid q1
           clear hr2 hdd q1 q6
           obtain ⟨rfl, hb⟩ := HE2.out.some H2.out
           have HB2 := hid hb
           clear hb
           have hz2 : ((d' : Int) == 0) = false := by simp; omega
           have HM2 : Hid (Tm.manyA (Tm.rd n) k 1 r = Tm.manyA (Tm.rd n) (k - (i + 1)) (max d (d' + 1)) (rest s (s.size - r'.length))) := by
             show _ = _
             rw [HM.out, show k - i = (k - (i + 1)) + 1 by omega, Tm.manyA, H2.out, Q1.out]
           have HN2 : Hid (Tm.kidsN (Tm.rd n) k r = (kk ++ Tm.kids1 (Tm.rd n) (rest s j)) ++ Tm.kidsN (Tm.rd n) (k - (i + 1)) (rest s (s.size - r'.length))) := by
             show _ = _
             rw [HN.out, show k - i = (k - (i + 1)) + 1 by omega, Tm.kidsN, H2.out, Q1.out, kids1_some H2.out]
             simp
           have HB3 : Hid (RS w0 B b s lv kp (s.size - r'.length) nn tx (ks ++ upd (wt kp lv) [] (kk ++ Tm.kids1 (Tm.rd n) (rest s j))) w2) := by
             apply hid
             have := HB2.out
             rw [upd_app] at this
             simpa only [keepN, keepX, upd_same] using this
           by_cases hdd : d ≤ d'
           · go_wp2_with fail
             go_roundg (k - (i + 1))
             case measure => omega
             case rel => exact ⟨i + 1, max d (d' + 1), _, _, by omega, rfl, by simp, by rw [show max d (d' + 1) = d' + 1 by omega]; simp, by omega, by omega, HB3.out, HM2.out, HN2.out⟩
           · go_wp2_with fail
             go_roundg (k - (i + 1))
             case measure => omega
             case rel => exact ⟨i + 1, max d (d' + 1), _, _, by omega, rfl, by simp, by rw [show max d (d' + 1) = d by omega], by omega, by omega, HB3.out, HM2.out, HN2.out⟩
       · have hlt' : ¬ (i : Int) < (k : Int) := by omega
         have hik2 : i = k := by omega
         have HIK := hid hik2
         clear hik2
         go_wp2_with fail
         go_ret
         refine ends_some (x := (d, rest s j)) ?_ ⟨rfl, ?_⟩
         · rw [HE.out, HM.out, show k - i = 0 by omega]; rfl
         · show RS w0 B b s lv kp (s.size - (rest s j).length) _ _ _ _
           have e1 : s.size - (rest s j).length = j := by rw [rest_len]; omega
           have e2 : Tm.tupleK (Tm.rd n) (rest s a) = kk := by rw [HKK.out, HN.out, show k - i = 0 by omega]; simp [Tm.kidsN]
           rw [e1, e2]
           simpa only [keepN, keepX, upd_same] using HR2.out
end Go.Proofs.YtkifchjpgdmcoaaGreatDoor

/- What the reader's reading of a part does, where a term's reading is known. -/
namespace Go.Proofs.YtkifchjpgdmcoaaGreatDoor
open Go.RowKit
def TermC (n : Nat) : Prop :=
 ∀ {w0 : World} {B b : Nat} {s : ByteArray} {lv : Nat} {kp : Bool} {a : Nat} {nn : Int} {tx : ByteArray} {ks : List Bs} {w : World},
   RS w0 B b s lv kp a nn tx ks w → lv + n = 64 → (kp = true → 1 ≤ lv) →
   Calls Tryz.prog 103 #[rp b] w fun en w' =>
     Ends (Tm.rd n (rest s a)) (fun x => en = .returned (.int .i64 x.1) ∧ RS w0 B b s lv kp (s.size - x.2.length) nn tx ks w')
       (en = .returned (.int .i64 0) ∧ Bad w0 B b s lv kp w')
theorem step_append_mine {P : Program} {ops : Array Oper} {o : Oper} {a : Act} {w : World} {K : Act → World → Prop} {Q : Exit → Act → World → Prop} {E : Prop}
   (hg : o.guard = none) (s x : Operand) (t : TypeId) (hop : o.op = Op.call { callee := Callee.builtin Builtin.append, args := #[s, x], argTypes := #[t, t] })
   (e : TypeId) (i : TypeInfo) (z : Value) (size bytes : Nat) (h1 : P.underlying t = some (.slice e)) (h2 : P.info? e = some i) (h3 : i.zero = some z) (h4 : i.size = size) (h5 : i.bytes = bytes) (h6 : z.cells.size = size) (h7 : 0 < size)
   (base : Nat) (v : Value) (n : Nat) (olds : List Value) (hs : a.eval s = v) (hown : w.ownsRow base e size v n olds)
   (ad : Addr) (m c : Nat) (news : List Value) (hx : a.eval x = .slice (some ad) m c) (hn : news.length = m * size) (hc : ∀ j u, news[j]? = some u → w.cell? (ad.add j) = some u) (h1c : ∀ u ∈ news, u.oneCell' = true)
   (b1 : n + m ≤ maxLen) (b2 : (n + m) * bytes ≤ 140737488355328) (hbase : base ≤ w.heap.size)
   (hK : ∀ v' w', w'.ownsRow base e size v' (n + m) (olds ++ news) → w.grownBy w' v.ownBlock → K (a.put o.dst v') w') :
   if Region.wanted o (yielded ops a.tmps) = true then Oper.wp P o a w K Q else E := by
 have hw : Region.wanted o (yielded ops a.tmps) = true := by simp [Region.wanted, hg]
 rw [if_pos hw]
 obtain ⟨v', w', hrun, r1, r2, _⟩ := run_append_own (P := P) w base t o.type e i z size bytes h1 h2 h3 h4 h5 h6 h7 v n olds hown ad m c news hn hc h1c b1 b2 hbase
 unfold Oper.wp
 simp [execOp, hop, resolve, invoke, builtin, hs, hx, hrun, Result.andThen]
 exact hK v' w' r1 r2
theorem Tryz.info22 : (Tryz.prog.info? 22).map (fun i => (i.zero, i.size, i.bytes)) = some (some (.string ByteArray.empty), 1, 16) := by kernel_rfl
theorem ownsRow_new {w : World} {base : Nat} {e : TypeId} {size : Nat} {v : Value} {n : Nat} {xs : List Value} (h : w.ownsRow base e size v n xs) (o : Obj) : (w.alloc o).drew.ownsRow base e size v n xs := by
 obtain ⟨h1, h2⟩ := h
 refine ⟨h1, ?_⟩
 rcases h2 with h2 | ⟨g, cap, cur, e1, e2, e3, e4⟩
 · exact Or.inl h2
 · refine Or.inr ⟨g, cap, cur, e1, e2, ?_, e4⟩
   have hg : g < w.heap.size := by
     apply Classical.byContradiction
     intro hn
     rw [Array.getElem?_eq_none (by omega)] at e3
     cases e3
   show (w.alloc o).heap[g]? = _
   rw [Below.heap_alloc w o g hg]
   exact e3
theorem kid_after {w0 : World} {B b : Nat} {s : ByteArray} {lv : Nat} {kp : Bool} {j : Nat} {nn : Int} {tx : ByteArray} {ks : List Bs} {w2 w' : World} {kids v' : Value} {o : Obj} {p : Bs}
   (h : RS w0 B b s lv kp j nn tx ks w2) (hk : w2.heap[b]? = some (.cells (rcells s j lv kp 0 nn tx kids) 95 (0, 0))) (ho : w2.ownsRow (b + 1) 22 1 kids ks.length (ks.map St)) (hB : B ≤ b + 1) (hkl : ks.length + 1 ≤ j)
   (hown : w'.ownsRow (b + 1) 22 1 v' (ks.length + 1) (ks.map St ++ [St p])) (hg : (w2.alloc o).drew.grownBy w' kids.ownBlock) :
   ∃ g cap, v' = .slice (some ⟨g, 0, none⟩) ((ks.length + 1 : Nat)) cap ∧ w'.cell? ⟨b, 7, none⟩ = some kids ∧ w'.frozen? ⟨b, 7, none⟩ = false ∧ Hid (RS w0 B b s lv kp j nn tx (ks ++ [p]) (w'.setCell ⟨b, 7, none⟩ v')) := by
 have hbs : b < w2.heap.size := by have := h.fr.size; have := h.hb; omega
 have hne : ∀ k, k ≤ b → some k ≠ kids.ownBlock := by
   intro k hkb he
   have := ho.lt k he.symm
   omega
 have hs1 : (w2.alloc o).drew.heap.size = w2.heap.size + 1 := by show (w2.heap.push o).size = _; simp
 have hold : ∀ k, k ≤ b → w'.heap[k]? = w2.heap[k]? := by
   intro k hkb
   rw [hg.block k (by rw [hs1]; omega) (hne k hkb)]
   exact Below.heap_alloc w2 o k (by omega)
 have hk' : w'.heap[b]? = some (.cells (rcells s j lv kp 0 nn tx kids) 95 (0, 0)) := by rw [hold b (Nat.le_refl _)]; exact hk
 obtain ⟨g, cap, hv⟩ : ∃ g cap, v' = .slice (some ⟨g, 0, none⟩) ((ks.length + 1 : Nat)) cap := by
   rcases hown.2 with ⟨_, h⟩ | ⟨g, cap', _, h, _⟩
   · omega
   · exact ⟨g, cap', h⟩
 refine ⟨g, cap, hv, by rw [cell_of_heap hk']; rfl, frozen_of_heap hk' _, ?_⟩
 refine ⟨h.le, ?_, h.hb, h.hB, h.sz, by simp; omega, h.lvb, v', ?_, ?_⟩
 · refine ⟨hg.os.trans h.fr.os, hg.tape.trans h.fr.tape, hg.output.trans h.fr.output, ?_, fun k hkB hkb => ?_⟩
   · have := hg.size
     have := h.fr.size
     simp only [World.setCell, Array.size_modify]
     omega
   · rw [Below.heap_setCell _ _ _ _ hkb, hold k (by omega)]
     exact h.fr.block k hkB hkb
 · rw [heap_setCell_same hk']
   rfl
 · have := ownsRow_setCell_at hown 7 v'
   simpa using this
set_option maxHeartbeats 1000000 in
theorem kid_any {n : Nat} (hT : TermC n) (hn : n < 64) : KidC n := by
 intro w0 B b s lv kp a nn tx ks w h hl hB
 have hle := h.le
 have hsz := h.sz
 have hkl := h.kl
 have hlv : kp = true → 1 ≤ lv := fun _ => by omega
 obtain ⟨c0, c1, c2, c3, hf⟩ := h.cells
 have HR := hid h
 have HB0 := hid hB
 clear h hB
 cases hr : Tm.rd n (rest s a) with
 | none =>
   have H1 := hid hr
   clear hr
   go_enter Tryz.func132, Tryz.ntmps132
   go_wp2_with fail
   refine (hT HR.out hl hlv).mono ?_
   rintro e w' hE
   obtain ⟨rfl, hb⟩ := hE.none H1.out
   have HB := hid hb
   clear hE hb
   go_wp2_with fail
   go_ret
   exact ends_none rfl ⟨rfl, HB.out⟩
 | some x =>
   obtain ⟨d, r⟩ := x
   have hd := Tm.rd_len hr
   have hd1 := hd.2.1
   have hd2 := hd.2.2.1
   obtain ⟨q1, q2, q3, q4, q5, q6⟩ := rd_rest hle hr
   have H1 := hid hr
   have Q1 := hid q1
   have Q6 := hid q6
   clear hr hd q1 q6
   go_enter Tryz.func132, Tryz.ntmps132
   go_wp2_with fail
   refine (hT HR.out hl hlv).mono ?_
   rintro e w1 hE
   obtain ⟨rfl, hb⟩ := hE.some H1.out
   have HB := hid hb
   clear hE hb
   have hz : (0 : Int) < (d : Int) := by omega
   go_wp2_with fail
   refine (wanted_any HB.out).mono ?_
   rintro e w2 ⟨rfl, rfl⟩
   cases hw : wt kp lv
   · have hw2 : (kp && lv == 1) = false := hw
     have HW := hid hw
     clear hw
     rw [hw2]
     clear hw2
     go_wp2_with fail
     go_ret
     refine ends_some rfl ⟨rfl, ?_⟩
     simpa [HW.out, upd] using HB.out
   · have hw2 : (kp && lv == 1) = true := hw
     have hBb := HB0.out hw
     have HW := hid hw
     clear hw
     rw [hw2]
     clear hw2
     have hbs := HB.out
     obtain ⟨c0, c1, c2, c3, hf⟩ := hbs.cells
     obtain ⟨kids, hk, ho⟩ := hbs.blk
     have c7 : w2.cell? ⟨b, 7, none⟩ = some kids := by rw [cell_of_heap hk]; rfl
     have HO := hid ho
     have HK := hid hk
     clear hbs ho hk
     generalize hj : s.size - r.length = j at *
     have HJ := hid hj
     clear hj
     obtain ⟨i0, hi, hz0, hz1, hz2⟩ := info_parts Tryz.info22
     have haj : a ≤ j := by omega
     have hbs2 : b < w2.heap.size := by have := HB.out.fr.size; have := HB.out.hb; omega
     go_wp2_with fail
     have hown1 := fun o => ownsRow_new HO.out o
     have hj1 : ks.length + 1 ≤ j := by omega
     have HP : Hid (s.extract a j = ⟨(Tm.used (rest s a) r).toArray⟩) := by
       apply hid
       rw [Q6.out]
       exact ba_eq (Lib.extract_data s a j)
     go_region_law (refine step_append_mine rfl (.tmp 22) (.tmp 33) 39 rfl 22 i0 _ 1 16 Tryz.underlying39 hi hz0 hz1 hz2 rfl (by decide) (b + 1) kids ks.length (ks.map St) rfl (hown1 _) ⟨w2.heap.size, 0, none⟩ 1 1 [.string (s.extract a j)] rfl rfl (cell_one_new _ _ _) (by intro u hu; simp at hu; subst hu; rfl) (by unfold maxLen; omega) (by omega) (by simp; omega) ?_; intro v' w' hown hgrow; rw [HP.out] at hown; obtain ⟨g, cap, rfl, c7', f7', HRS⟩ := kid_after HB.out HK.out HO.out hBb hj1 hown hgrow; clear hown hgrow)
     all_goals
       go_wp2_with fail
       go_ret
       refine ends_some rfl ⟨rfl, ?_⟩
       show RS w0 B b s lv kp (s.size - r.length) _ _ _ _
       rw [HJ.out, HW.out, kids1_some H1.out]
       simp only [upd, if_true, keepN, keepX]
       first | exact HRS.out | exact HRS.out.drew
end Go.Proofs.YtkifchjpgdmcoaaGreatDoor
