import Derived.Test.YtfnnhekjeobicaaGreatDoorHeld
import Derived.KernelRfl
/- What a mind notes that hears of a box, and then of its key. -/
namespace Go.Proofs.YtfnnhekjeobicaaGreatDoor

namespace Case
def box : Bs := [66, 110, 49, 59, 110, 50, 59]
def one : Bs := [110, 49, 59]
def two : Bs := [110, 50, 59]
def all : List Bs := [box, one, two]
def N0 : NM := fun _ => none
def N1 : NM := nput N0 box ⟨false, true, one⟩
def N2 : NM := nput N1 box ⟨true, true, one⟩
def N3 : NM := nput N2 one ⟨false, true, []⟩
def N4 : NM := nput (nput N3 box ⟨true, true, []⟩) two ⟨false, true, []⟩
def N5 : NM := nput N4 one ⟨true, true, []⟩

theorem deep_box : Tm.deep box = 2 := by kernel_rfl
theorem deep_one : Tm.deep one = 1 := by kernel_rfl
theorem deep_two : Tm.deep two = 1 := by kernel_rfl
theorem deep_n : Tm.deep [110] = 0 := by kernel_rfl
theorem kids_box : Tm.kidsOf 63 box = [one, two] := by kernel_rfl
theorem uni : Uni all := by
  refine ⟨by decide, ?_, ?_, ?_, ?_⟩
  · intro t ht
    simp only [all, List.mem_cons, List.not_mem_nil, or_false] at ht
    rcases ht with rfl | rfl | rfl
    · rw [deep_box]; decide
    · rw [deep_one]; decide
    · rw [deep_two]; decide
  · intro t ht h
    simp only [all, List.mem_cons, List.not_mem_nil, or_false] at ht
    rcases ht with rfl | rfl | rfl <;> exact absurd h (by decide)
  · intro t ht h
    simp only [all, List.mem_cons, List.not_mem_nil, or_false] at ht
    rcases ht with rfl | rfl | rfl <;> exact absurd h (by decide)
  · intro t ht h k m hk
    simp only [all, List.mem_cons, List.not_mem_nil, or_false] at ht
    rcases ht with rfl | rfl | rfl
    · rw [kids_box] at hk
      simp at hk
      rw [← hk.2]; decide
    · exact absurd h (by decide)
    · exact absurd h (by decide)
theorem ok0 : Ok all N0 := ⟨fun _ h => (by cases h), fun _ h => absurd rfl h⟩
theorem take1 : takeF 64 (N0, []) box = (N1, [box]) := by kernel_rfl
theorem follow1 {M : NM} (h : Follow N1 [box] [] M) : M = N1 := by
  cases h with
  | step _ h =>
    have e : (([] ++ boxesF N1 [box]).foldl (passStep [box]) ((N1, []), [])) = ((N1, []), [box]) := by kernel_rfl
    rw [e] at h
    cases h with
    | done => rfl
    | step h0 _ => exact absurd rfl h0
theorem heard1 : nput N1 box ⟨true, (nget N1 box).held, (nget N1 box).key⟩ = N2 := by kernel_rfl
theorem mk2 : mkF N2 two = false := by kernel_rfl
theorem get2 : (nget N2 one).heard = false := by kernel_rfl
theorem take3 : takeF 64 (N2, []) one = (N3, [one]) := by kernel_rfl
theorem follow3 {M : NM} (h : Follow N3 [one] [box] M) : M = N4 := by
  cases h with
  | step _ h =>
    have e : (([box] ++ boxesF N3 [one]).foldl (passStep [one]) ((N3, []), [])) = ((N4, [two]), []) := by kernel_rfl
    rw [e] at h
    cases h with
    | step _ h =>
      have e : (([] ++ boxesF N4 [two]).foldl (passStep [two]) ((N4, []), [])) = ((N4, []), []) := by kernel_rfl
      rw [e] at h
      cases h with
      | done => rfl
      | step h0 _ => exact absurd rfl h0
theorem heard4 : nput N4 one ⟨true, (nget N4 one).held, (nget N4 one).key⟩ = N5 := by kernel_rfl
theorem mk_two : mkF N5 two = true := by kernel_rfl
theorem mk_pub : mkF N5 [80, 110, 50, 59] = true := by kernel_rfl
theorem mk_text : mkF N5 [116, 49, 58, 97] = true := by kernel_rfl
theorem mk_three : mkF N5 [110, 51, 59] = false := by kernel_rfl
theorem n2_of {t : Bs} {m : Note} (h : N2 t = some m) : t = box ∧ m = ⟨true, true, one⟩ := by
  simp only [N2, N1, N0, nput] at h
  split at h
  · rename_i e; cases h; exact ⟨e, rfl⟩
  · cases h
theorem over2 {L : List (Bs × Note)} (h : Over N2 L) : L = [(box, ⟨true, true, one⟩)] := by
  have hm : (box, (⟨true, true, one⟩ : Note)) ∈ L := (h.mem _ _).2 (by kernel_rfl)
  have hall : ∀ x ∈ L, x = (box, ⟨true, true, one⟩) := fun x hx => by
    have := n2_of ((h.mem x.1 x.2).1 hx)
    obtain ⟨a, b⟩ := x
    simp only at this
    rw [this.1, this.2]
  match L, h.nodup with
  | [], _ => cases hm
  | [x], _ => rw [hall x (by simp)]
  | x :: y :: L, hn =>
    exfalso
    have e1 := hall x (by simp)
    have e2 := hall y (by simp)
    subst e1 e2
    simp at hn
theorem held5 {L : List (Bs × Note)} (h : Over N5 L) : (heldL L).length = 3 := by
  have hnd : (heldL L).Nodup := by
    unfold heldL
    exact (List.Sublist.map _ List.filter_sublist).nodup h.nodup
  have hsub : ∀ x ∈ heldL L, x ∈ all := by
    intro x hx
    obtain ⟨y, hy, rfl⟩ := List.mem_map.1 hx
    have := (h.mem y.1 y.2).1 (List.mem_filter.1 hy).1
    simp only [N5, N4, N3, N2, N1, N0, nput] at this
    simp only [all, List.mem_cons, List.not_mem_nil, or_false]
    split at this
    · rename_i e; exact Or.inr (Or.inl e)
    · split at this
      · rename_i e; exact Or.inr (Or.inr e)
      · split at this
        · rename_i e; exact Or.inl e
        · cases this
  have h1 := length_sub hnd hsub
  have h2 : all.length ≤ (heldL L).length := length_sub (by decide) (fun x hx => by
    simp only [all, List.mem_cons, List.not_mem_nil, or_false] at hx
    rcases hx with rfl | rfl | rfl
    · exact h.held (by kernel_rfl)
    · exact h.held (by kernel_rfl)
    · exact h.held (by kernel_rfl))
  have h3 : all.length = 3 := rfl
  omega
theorem any5 : ∃ t, (nget N5 t).held = true := ⟨two, by kernel_rfl⟩
end Case
end Go.Proofs.YtfnnhekjeobicaaGreatDoor

/- A mind that hears of a box and of its key works. -/
namespace Go.Proofs.YtfnnhekjeobicaaGreatDoor
open Go.RowKit Go.Maps Go.WideElems

theorem Lf.rm_ne {w w' : World} {p : Nat} {o : Option Nat} (h : Lf w w' p o) {B : Nat} (hB : B ≤ w.heap.size) (hp : B ≤ p) (ho : ∀ b, o = some b → B ≤ b) : Below B w w' :=
  ⟨h.os, h.tape, h.output, h.size, fun k hk => h.block k (by omega) (by omega) (fun e => by have := ho k e.symm; omega)⟩

theorem below_two {B : Nat} {w w1 w2 : World} (h : Below B w w1) (hb : Below B w1 w2) : Below B w w2 :=
  ⟨hb.os.trans h.os, hb.tape.trans h.tape, hb.output.trans h.output, Nat.le_trans h.size hb.size, fun k hk => (hb.block k hk).trans (h.block k hk)⟩
theorem below_low {B C : Nat} {w w1 : World} (h : Below C w w1) (hB : B ≤ C) : Below B w w1 := ⟨h.os, h.tape, h.output, h.size, fun k hk => h.block k (by omega)⟩

set_option maxRecDepth 100000 in
set_option maxHeartbeats 4000000 in
theorem works_any (w : World) (hG : G0 w) : Calls Tryz.prog 13 #[] w fun e w' => e = .returned (.bool true) ∧ Below w.heap.size w w' := by
  have HG := hid hG
  clear hG
  go_enter Tryz.func13, Tryz.ntmps13
  go_wp2_with fail
  refine (new_any _).mono ?_
  rintro e w1 ⟨rfl, hw1⟩
  have HB1 : Hid (Below w.heap.size w w1) := by apply hid; rw [hw1]; exact (Below.refl _ _).alloc (Nat.le_refl _) _
  have HM1 : Hid (Rm w1 w.heap.size none Case.N0) := by apply hid; rw [hw1]; exact ⟨heap_alloc_new w _, fun _ => rfl⟩
  have HG1 := hid (HG.out.below HB1.out)
  clear hw1 HG
  have HL1 := hid (learn_none Case.uni w1 w.heap.size Case.N0 HM1.out Case.ok0 HG1.out Case.box (by decide))
  go_wp2_with fail
  refine HL1.out.mono ?_
  rintro e w2 ⟨rfl, M, b, hfl, hmd, hok, hwb, hlf, hg⟩
  rw [Case.take1] at hfl
  obtain rfl := Case.follow1 hfl
  rw [Case.heard1] at hmd hok
  have HM2 := hid hmd
  have HO2 := hid hok
  have HG2 := hid hg
  have HB2 : Hid (Below w.heap.size w w2) := hid (below_two HB1.out (hlf.rm_ne HB1.out.size (Nat.le_refl _) (fun _ e => by cases e)))
  have HWB : Hid (w.heap.size ≤ b) := hid (Nat.le_trans HB1.out.size hwb)
  clear hfl hmd hok hwb hlf hg HL1 HM1 HG1 HB1
  have HK2 := hid (knows_any w2 w.heap.size (some b) Case.N2 Case.two HM2.out.rm (by decide))
  rw [Case.mk2] at HK2
  go_wp2_with fail
  refine HK2.out.mono ?_
  rintro e w3 ⟨rfl, hb3⟩
  have HB3 := hid (below_two HB2.out (below_low hb3 HB2.out.size))
  have HM3 := hid (HM2.out.below hb3)
  have HG3 := hid (HG2.out.below hb3)
  clear hb3 HK2 HM2 HG2 HB2
  have HW3 := hid (learn_wrong w3 w.heap.size [110] Case.deep_n)
  go_wp2_with fail
  refine HW3.out.mono ?_
  rintro e w4 ⟨rfl, hb4⟩
  have HB4 := hid (below_two HB3.out (below_low hb4 HB3.out.size))
  have HM4 := hid (HM3.out.below hb4)
  have HG4 := hid (HG3.out.below hb4)
  clear hb4 HW3 HM3 HG3 HB3
  have HL4 := hid (learn_some Case.uni w4 w.heap.size b Case.N2 HM4.out HO2.out HG4.out Case.one (by decide) Case.get2)
  go_wp2_with fail
  refine HL4.out.mono ?_
  rintro e w5 ⟨L, hov, hres⟩
  obtain rfl := Case.over2 hov
  rcases hres with ⟨h0, _⟩ | ⟨_, rfl, M, hfl, hmd, hok, hlf, hg⟩
  · exact absurd h0 (by decide)
  rw [Case.take3] at hfl
  obtain rfl := Case.follow3 hfl
  rw [Case.heard4] at hmd hok
  have HM5 := hid hmd
  have HO5 := hid hok
  have HB5 : Hid (Below w.heap.size w w5) := hid (below_two HB4.out (hlf.rm_ne HB4.out.size (Nat.le_refl _) (fun _ e => by cases e; exact HWB.out)))
  clear hfl hmd hok hlf hg hov HL4 HM4 HG4 HB4 HO2 HWB
  have HK5 := hid (knows_any w5 w.heap.size (some b) Case.N5 Case.two HM5.out.rm (by decide))
  rw [Case.mk_two] at HK5
  go_wp2_with fail
  refine HK5.out.mono ?_
  rintro e w6 ⟨rfl, hb6⟩
  have HB6 := hid (below_two HB5.out (below_low hb6 HB5.out.size))
  have HM6 := hid (HM5.out.below hb6)
  clear hb6 HK5 HM5 HB5
  have HK6 := hid (knows_any w6 w.heap.size (some b) Case.N5 [80, 110, 50, 59] HM6.out.rm (by decide))
  rw [Case.mk_pub] at HK6
  go_wp2_with fail
  refine HK6.out.mono ?_
  rintro e w7 ⟨rfl, hb7⟩
  have HB7 := hid (below_two HB6.out (below_low hb7 HB6.out.size))
  have HM7 := hid (HM6.out.below hb7)
  clear hb7 HK6 HM6 HB6
  have HK7 := hid (knows_any w7 w.heap.size (some b) Case.N5 [116, 49, 58, 97] HM7.out.rm (by decide))
  rw [Case.mk_text] at HK7
  go_wp2_with fail
  refine HK7.out.mono ?_
  rintro e w8 ⟨rfl, hb8⟩
  have HB8 := hid (below_two HB7.out (below_low hb8 HB7.out.size))
  have HM8 := hid (HM7.out.below hb8)
  clear hb8 HK7 HM7 HB7
  have HK8 := hid (knows_any w8 w.heap.size (some b) Case.N5 [110, 51, 59] HM8.out.rm (by decide))
  rw [Case.mk_three] at HK8
  go_wp2_with fail
  refine HK8.out.mono ?_
  rintro e w9 ⟨rfl, hb9⟩
  have HB9 := hid (below_two HB8.out (below_low hb9 HB8.out.size))
  have HM9 := hid (HM8.out.below hb9)
  clear hb9 HK8 HM8 HB8
  have HH := hid (held_any Case.uni w9 w.heap.size b Case.N5 HM9.out HO5.out.dom Case.any5)
  go_wp2_with fail
  refine HH.out.mono ?_
  rintro e w10 ⟨v, L, rfl, hov, hown, hb10⟩
  have HB10 := hid (below_two HB9.out (below_low hb10 HB9.out.size))
  obtain ⟨av, kv, hv⟩ := own_shape hown
  rw [sorted_length, Case.held5 hov] at hv
  subst hv
  clear hov hown hb10 HH
  go_wp2_with fail
  go_ret
  exact ⟨rfl, HB10.out⟩

set_option maxRecDepth 100000 in
set_option maxHeartbeats 1000000 in
theorem none_law (w : World) (hG : G0 w) (t : ByteArray) : Calls Tryz.prog 23 #[.string t] w fun e w' => e = .returned (.bool true) ∧ Below w.heap.size w w' := by
  have HW := hid (works_any w hG)
  clear hG
  go_enter Tryz.func23, Tryz.ntmps23
  go_wp2_with fail
  refine (learn_nil _ _).mono ?_
  rintro e w1 ⟨rfl, h1⟩
  subst h1
  go_wp2_with fail
  refine (knows_nil _ _).mono ?_
  rintro e w1 ⟨rfl, h1⟩
  subst h1
  go_wp2_with fail
  refine (held_nil _).mono ?_
  rintro e w1 ⟨rfl, h1⟩
  subst h1
  go_wp2_with fail
  refine (copy_nil _).mono ?_
  rintro e w1 ⟨rfl, h1⟩
  subst h1
  go_wp2_with fail
  refine HW.out.mono ?_
  rintro e w2 ⟨rfl, hb⟩
  have HB := hid hb
  clear hb
  go_wp2_with fail
  go_ret
  exact ⟨rfl, HB.out⟩
end Go.Proofs.YtfnnhekjeobicaaGreatDoor
