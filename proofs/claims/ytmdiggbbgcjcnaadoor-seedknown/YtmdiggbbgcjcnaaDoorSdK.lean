/- Two secrets. -/
import Derived.Test.YtmdiggbbgcjcnaaDoorSdH
namespace Go.Proofs.YtmdiggbbgcjcnaaDoor
open Go.RowKit

/-- the names that are tried -/
abbrev n7 : Bs := [110, 55, 59]
abbrev n9 : Bs := [110, 57, 59]
abbrev c5 : Bs := [68, 68, 110, 55, 59, 116, 49, 58, 50, 116, 49, 58, 48]
/-- the secret at Top, and the next -/
def sT : Bs := (secRes n7 1048575).1
def sU : Bs := (secRes n7 1048574).1
theorem sec_five : secRes n7 5 = (c5, 0) := by decide +kernel
theorem sec_top : secRes n7 1048575 = (sT, 0) := Prod.ext rfl (by decide +kernel)
theorem sec_next : secRes n7 1048574 = (sU, 0) := Prod.ext rfl (by decide +kernel)
theorem add_top : addH [] 1048575 sT = (0, [sT]) := by decide +kernel
theorem add_wrong : addH [sT] 1048574 n9 = (150, [sT]) := by decide +kernel
theorem add_next : addH [sT] 1048574 sU = (0, [sT, sU]) := by decide +kernel
theorem get_top : getH [sT, sU] 1048575 = (sT, 0) := rfl

theorem two_facts : ∃ T U : Bs, secRes n7 5 = (c5, 0) ∧ secRes n7 1048575 = (T, 0) ∧ secRes n7 1048574 = (U, 0) ∧ addH [] 1048575 T = (0, [T]) ∧ addH [T] 1048574 n9 = (150, [T]) ∧ addH [T] 1048574 U = (0, [T, U]) ∧ getH [T, U] 1048575 = (T, 0) ∧ Sd.popF [T, U].length 21 0 = 1 :=
  ⟨sT, sU, sec_five, sec_top, sec_next, add_top, add_wrong, add_next, get_top, rfl⟩
theorem frx_of {w w' : World} {g B : Nat} (h : Frx w.heap.size g w w') (hB : B ≤ w.heap.size) (hg : B ≤ g) : Below B w w' :=
  ⟨h.os, h.tape, h.output, h.size, fun k hk => h.block k (by omega) (by omega)⟩

set_option maxHeartbeats 2000000 in
set_option maxRecDepth 100000 in
theorem works_any (w : World) (hp : Pw w) (hz : Tz w) : Calls Tryd.prog 10 #[] w fun e w' => e = .returned (.bool true) ∧ Below w.heap.size w w' := by
  obtain ⟨T, U, sec_five, sec_top, sec_next, add_top, add_wrong, add_next, get_top, pop_two⟩ := two_facts
  have HP : Hid (∀ W, Below w.heap.size w W → Pw W) := hid (fun W hW => hp.below hW)
  have HZ : Hid (∀ W, Below w.heap.size w W → Tz W) := hid (fun W hW => hz.below hW)
  have H5 : Hid (∀ W, Below w.heap.size w W → Calls Tryd.prog 8 #[.string ⟨#[110, 55, 59]⟩, .int .i64 5] W fun en w' => en = made (c5, 0) ∧ Below w.heap.size w w') := hid (fun W hW => by
    have := secret_any n7 5 W (hp.below hW)
    rw [sec_five] at this
    exact this.mono (fun e w' ⟨q1, q2⟩ => ⟨q1, hW.trans (q2.mono hW.size)⟩))
  have HT : Hid (∀ W, Below w.heap.size w W → Calls Tryd.prog 8 #[.string ⟨#[110, 55, 59]⟩, .int .i64 1048575] W fun en w' => en = made (T, 0) ∧ (∀ g H, StH W g H → StH w' g H) ∧ Below w.heap.size w w') := hid (fun W hW => by
    have := secret_any n7 1048575 W (hp.below hW)
    rw [sec_top] at this
    exact this.mono (fun e w' ⟨q1, q2⟩ => ⟨q1, fun g H hs => hs.below q2, hW.trans (q2.mono hW.size)⟩))
  have HU : Hid (∀ W, Below w.heap.size w W → Calls Tryd.prog 8 #[.string ⟨#[110, 55, 59]⟩, .int .i64 1048574] W fun en w' => en = made (U, 0) ∧ (∀ g H, StH W g H → StH w' g H) ∧ Below w.heap.size w w') := hid (fun W hW => by
    have := secret_any n7 1048574 W (hp.below hW)
    rw [sec_next] at this
    exact this.mono (fun e w' ⟨q1, q2⟩ => ⟨q1, fun g H hs => hs.below q2, hW.trans (q2.mono hW.size)⟩))
  have HA1 : Hid (∀ W g, Below w.heap.size w W → w.heap.size ≤ g → StH W g [] → Calls Tryd.prog 13 #[.pointer (some ⟨g, 0, none⟩), .int .i64 1048575, St T] W fun e w' => e = .returned (.int .i64 0) ∧ StH w' g [T] ∧ Below w.heap.size w w') := hid (fun W g hW hg hs => by
    have := addHA 1048575 T hs (hp.below hW) (hz.below hW)
    rw [add_top] at this
    exact this.mono (fun e w' ⟨q1, q2, q3⟩ => ⟨q1, q2, hW.trans (frx_of q3 hW.size hg)⟩))
  have HA2 : Hid (∀ W g, Below w.heap.size w W → w.heap.size ≤ g → StH W g [T] → Calls Tryd.prog 13 #[.pointer (some ⟨g, 0, none⟩), .int .i64 1048574, .string ⟨#[110, 57, 59]⟩] W fun e w' => e = .returned (.int .i64 150) ∧ StH w' g [T] ∧ Below w.heap.size w w') := hid (fun W g hW hg hs => by
    have := addHA 1048574 n9 hs (hp.below hW) (hz.below hW)
    rw [add_wrong] at this
    exact this.mono (fun e w' ⟨q1, q2, q3⟩ => ⟨q1, q2, hW.trans (frx_of q3 hW.size hg)⟩))
  have HA3 : Hid (∀ W g, Below w.heap.size w W → w.heap.size ≤ g → StH W g [T] → Calls Tryd.prog 13 #[.pointer (some ⟨g, 0, none⟩), .int .i64 1048574, St U] W fun e w' => e = .returned (.int .i64 0) ∧ StH w' g [T, U] ∧ Below w.heap.size w w') := hid (fun W g hW hg hs => by
    have := addHA 1048574 U hs (hp.below hW) (hz.below hW)
    rw [add_next] at this
    exact this.mono (fun e w' ⟨q1, q2, q3⟩ => ⟨q1, q2, hW.trans (frx_of q3 hW.size hg)⟩))
  have HG : Hid (∀ W g, Below w.heap.size w W → StH W g [T, U] → Calls Tryd.prog 15 #[.pointer (some ⟨g, 0, none⟩), .int .i64 1048575] W fun e w' => e = made (T, 0) ∧ StH w' g [T, U] ∧ Below w.heap.size w w') := hid (fun W g hW hs => by
    have := getHA 1048575 hs (hp.below hW)
    rw [get_top] at this
    exact this.mono (fun e w' ⟨q1, q2⟩ => ⟨q1, hs.below q2, hW.trans (q2.mono hW.size)⟩))
  have HK : Hid (∀ W g, StH W g [T, U] → Calls Tryd.prog 19 #[.pointer (some ⟨g, 0, none⟩)] W fun e w' => e = .returned (.int .i64 1) ∧ w' = W) := hid (fun W g hs => by have := keptH hs; rwa [pop_two] at this)
  have HCN : Hid (∀ W g, StH W g [T, U] → Calls Tryd.prog 18 #[.pointer (some ⟨g, 0, none⟩)] W fun e w' => e = .returned (.int .i64 2) ∧ w' = W) := hid (fun W g hs => countH hs)
  clear hp hz sec_five sec_top sec_next add_top add_wrong add_next get_top pop_two
  go_enter Tryd.func10, Tryd.ntmps10
  go_wp2_with fail
  refine (H5.out w (Below.refl _ _)).mono ?_
  rintro e w1 ⟨rfl, hb⟩
  have HB1 := hid hb
  clear hb
  go_wp2_with fail
  refine (newH w1).mono ?_
  rintro e w2 ⟨rfl, hs, hb⟩
  have HS2 := hid hs
  have HB2 := hid (HB1.out.trans (hb.mono HB1.out.size))
  have HG2 := hid HB1.out.size
  clear hb hs
  generalize w1.heap.size = g at HS2 HG2 ⊢
  go_wp2_with fail
  refine (HT.out w2 HB2.out).mono ?_
  rintro e w3 ⟨rfl, hs, hb⟩
  have HB3 := hid hb
  have HS3 := hid (hs _ _ HS2.out)
  clear hb hs
  go_wp2_with fail
  refine (HU.out w3 HB3.out).mono ?_
  rintro e w4 ⟨rfl, hs, hb⟩
  have HB4 := hid hb
  have HS4 := hid (hs _ _ HS3.out)
  clear hb hs
  go_wp2_with fail
  refine (HA1.out w4 g HB4.out HG2.out HS4.out).mono ?_
  rintro e w5 ⟨rfl, hs, hb⟩
  have HB5 := hid hb
  have HS5 := hid hs
  clear hb hs
  go_wp2_with fail
  refine (HA2.out w5 g HB5.out HG2.out HS5.out).mono ?_
  rintro e w6 ⟨rfl, hs, hb⟩
  have HB6 := hid hb
  have HS6 := hid hs
  clear hb hs
  go_wp2_with fail
  refine (HA3.out w6 g HB6.out HG2.out HS6.out).mono ?_
  rintro e w7 ⟨rfl, hs, hb⟩
  have HB7 := hid hb
  have HS7 := hid hs
  clear hb hs
  go_wp2_with fail
  refine (HG.out w7 g HB7.out HS7.out).mono ?_
  rintro e w8 ⟨rfl, hs, hb⟩
  have HB8 := hid hb
  have HS8 := hid hs
  clear hb hs
  go_wp2_with fail
  refine (HK.out w8 g HS8.out).mono ?_
  rintro e w9 ⟨rfl, rfl⟩
  go_wp2_with fail
  refine (HCN.out _ g HS8.out).mono ?_
  rintro e w10 ⟨rfl, rfl⟩
  go_wp2_with fail
  go_ret
  exact ⟨rfl, HB8.out⟩
end Go.Proofs.YtmdiggbbgcjcnaaDoor
