/- A number's bytes are put. -/
import Derived.Test.YtdhmmllpioppfaaGreatVRow
namespace Go.Proofs.YtdhmmllpioppfaaGreat.V
open Go.RowKit

/-- bytes that were just laid, as the walk shows them -/
theorem put_vals {B p : Nat} {l : Bs} {w : World} (x : Bs) {cs : Array Value} {m : Nat} (hc : cs = (bcs x).toArray) (hm : m = x.length) (h : Rw B p l w) (hb : l.length + x.length ≤ 140737488355328) :
    Calls Tryz.prog 58 #[.pointer (some ⟨p, 0, none⟩), .slice (some ⟨w.heap.size, 0, none⟩) m m] (w.alloc (.cells cs 5)) fun e w' => e = .returned (.tuple #[]) ∧ Rw B p (l ++ x) w' ∧ Below B w w' ∧ Kp p w w' := by
  subst hc
  subst hm
  exact put_new h hb
theorem bv (k n : Nat) : ((UInt8.ofNat (n / k)).toNat : Int) = (n : Int) / (k : Int) % 256 := by
  rw [UInt8.toNat_ofNat']
  omega
theorem bv0 (n : Nat) : ((UInt8.ofNat n).toNat : Int) = (n : Int) % 256 := by
  rw [UInt8.toNat_ofNat']
  omega
/-- the eight bytes -/
abbrev b8 (n : Nat) : Bs := [UInt8.ofNat (n / 72057594037927936), UInt8.ofNat (n / 281474976710656), UInt8.ofNat (n / 1099511627776), UInt8.ofNat (n / 4294967296)]
abbrev b4 (n : Nat) : Bs := [UInt8.ofNat (n / 16777216), UInt8.ofNat (n / 65536)]
abbrev b2 (n : Nat) : Bs := [UInt8.ofNat (n / 256)]
abbrev b1 (n : Nat) : Bs := [UInt8.ofNat n]
theorem b8_cells (n : Nat) : #[Value.int .u8 ((n : Int) / 72057594037927936 % 256), .int .u8 ((n : Int) / 281474976710656 % 256), .int .u8 ((n : Int) / 1099511627776 % 256), .int .u8 ((n : Int) / 4294967296 % 256)] = (bcs (b8 n)).toArray := by
  simp only [Lib.byteCells, List.map_cons, List.map_nil, bv]
  rfl
theorem b4_cells (n : Nat) : #[Value.int .u8 ((n : Int) / 16777216 % 256), .int .u8 ((n : Int) / 65536 % 256)] = (bcs (b4 n)).toArray := by
  simp only [Lib.byteCells, List.map_cons, List.map_nil, bv]
  rfl
theorem b2_cells (n : Nat) : #[Value.int .u8 ((n : Int) / 256 % 256)] = (bcs (b2 n)).toArray := by
  simp only [Lib.byteCells, List.map_cons, List.map_nil, bv]
  rfl
theorem b1_cells (n : Nat) : #[Value.int .u8 ((n : Int) % 256)] = (bcs (b1 n)).toArray := by
  simp only [Lib.byteCells, List.map_cons, List.map_nil, bv0]
theorem putB_3 {n : Nat} (h : formN n = 3) : putB n = [255] ++ b8 n ++ b4 n ++ b2 n ++ b1 n := by
  unfold putB
  rw [h]
  simp [be]
theorem putB_2 {n : Nat} (h : formN n = 2) : putB n = [254] ++ b4 n ++ b2 n ++ b1 n := by
  unfold putB
  rw [h]
  simp [be]
theorem putB_1 {n : Nat} (h : formN n = 1) : putB n = [253] ++ b2 n ++ b1 n := by
  unfold putB
  rw [h]
  simp [be]
theorem putB_0 {n : Nat} (h : formN n = 0) : putB n = b1 n := by
  unfold putB
  rw [if_pos h]

set_option maxRecDepth 100000 in
set_option maxHeartbeats 2000000 in
theorem putNumber_any {B p : Nat} {l : Bs} {w : World} (n : Nat) (h : Rw B p l w) (_hn : n < 18446744073709551616) (hb : l.length + 9 ≤ 140737488355328) :
    Calls Tryz.prog 57 #[.pointer (some ⟨p, 0, none⟩), .int .u64 (n : Int)] w fun e w' => e = .returned (.tuple #[]) ∧ Rw B p (l ++ putB n) w' ∧ Below B w w' ∧ Kp p w w' := by
  have HF := hid (formOf_any n w)
  have HR := hid h
  have HB := hid hb
  have hff := formN_lt n
  have hk : formN n = 0 ∨ formN n = 1 ∨ formN n = 2 ∨ formN n = 3 := by omega
  clear h hb _hn hff
  rcases hk with hk | hk | hk | hk
  · rw [hk] at HF
    rw [putB_0 hk]
    clear hk
    go_enter Tryz.func57, Tryz.ntmps57
    go_wp2_with fail
    refine HF.out.mono ?_
    rintro e w1 ⟨rfl, hw1⟩
    subst hw1
    clear HF
    go_wp2_with fail
    refine (put_vals (b1 n) (b1_cells n) rfl HR.out (by have := HB.out; simp; omega)).mono ?_
    rintro e w3 ⟨rfl, hr3, hb3, hk3⟩
    have HR3 := hid hr3
    have HB3 := hid hb3
    have HK3 := hid hk3
    clear hr3 hb3 hk3
    go_wp2_with fail
    refine bodyPost_end (results_none rfl _ _ _) rfl ?_
    exact ⟨rfl, HR3.out, HB3.out, HK3.out⟩
  · rw [hk] at HF
    rw [putB_1 hk]
    clear hk
    go_enter Tryz.func57, Tryz.ntmps57
    go_wp2_with fail
    refine HF.out.mono ?_
    rintro e w1 ⟨rfl, hw1⟩
    subst hw1
    clear HF
    go_wp2_with fail
    refine (mark_any 1 (by decide) (by decide) _).mono ?_
    rintro e w2 ⟨rfl, hw2⟩
    subst hw2
    go_wp2_with fail
    refine (put_vals [253] rfl rfl HR.out (by have := HB.out; simp; omega)).mono ?_
    rintro e w3 ⟨rfl, hr3, hb3, hk3⟩
    have HR3 := hid hr3
    have HB3 := hid hb3
    have HK3 := hid hk3
    clear hr3 hb3 hk3
    go_wp2_with fail
    refine (put_vals (b2 n) (b2_cells n) rfl HR3.out (by have := HB.out; simp; omega)).mono ?_
    rintro e w4 ⟨rfl, hr3, hb3, hk3⟩
    have HR4 := hid hr3
    have HB4 := hid (HB3.out.trans hb3)
    have HK4 := hid (HK3.out.trans hk3)
    clear hr3 hb3 hk3 HR3 HB3 HK3
    go_wp2_with fail
    refine (put_vals (b1 n) (b1_cells n) rfl HR4.out (by have := HB.out; simp; omega)).mono ?_
    rintro e w5 ⟨rfl, hr3, hb3, hk3⟩
    have HR5 := hid hr3
    have HB5 := hid (HB4.out.trans hb3)
    have HK5 := hid (HK4.out.trans hk3)
    clear hr3 hb3 hk3 HR4 HB4 HK4
    go_wp2_with fail
    refine bodyPost_end (results_none rfl _ _ _) rfl ?_
    exact ⟨rfl, by simpa using HR5.out, HB5.out, HK5.out⟩
  · rw [hk] at HF
    rw [putB_2 hk]
    clear hk
    go_enter Tryz.func57, Tryz.ntmps57
    go_wp2_with fail
    refine HF.out.mono ?_
    rintro e w1 ⟨rfl, hw1⟩
    subst hw1
    clear HF
    go_wp2_with fail
    refine (mark_any 2 (by decide) (by decide) _).mono ?_
    rintro e w2 ⟨rfl, hw2⟩
    subst hw2
    go_wp2_with fail
    refine (put_vals [254] rfl rfl HR.out (by have := HB.out; simp; omega)).mono ?_
    rintro e w3 ⟨rfl, hr3, hb3, hk3⟩
    have HR3 := hid hr3
    have HB3 := hid hb3
    have HK3 := hid hk3
    clear hr3 hb3 hk3
    go_wp2_with fail
    refine (put_vals (b4 n) (b4_cells n) rfl HR3.out (by have := HB.out; simp; omega)).mono ?_
    rintro e w4 ⟨rfl, hr3, hb3, hk3⟩
    have HR4 := hid hr3
    have HB4 := hid (HB3.out.trans hb3)
    have HK4 := hid (HK3.out.trans hk3)
    clear hr3 hb3 hk3 HR3 HB3 HK3
    go_wp2_with fail
    refine (put_vals (b2 n) (b2_cells n) rfl HR4.out (by have := HB.out; simp; omega)).mono ?_
    rintro e w5 ⟨rfl, hr3, hb3, hk3⟩
    have HR5 := hid hr3
    have HB5 := hid (HB4.out.trans hb3)
    have HK5 := hid (HK4.out.trans hk3)
    clear hr3 hb3 hk3 HR4 HB4 HK4
    go_wp2_with fail
    refine (put_vals (b1 n) (b1_cells n) rfl HR5.out (by have := HB.out; simp; omega)).mono ?_
    rintro e w6 ⟨rfl, hr3, hb3, hk3⟩
    have HR6 := hid hr3
    have HB6 := hid (HB5.out.trans hb3)
    have HK6 := hid (HK5.out.trans hk3)
    clear hr3 hb3 hk3 HR5 HB5 HK5
    go_wp2_with fail
    refine bodyPost_end (results_none rfl _ _ _) rfl ?_
    exact ⟨rfl, by simpa using HR6.out, HB6.out, HK6.out⟩
  · rw [hk] at HF
    rw [putB_3 hk]
    clear hk
    go_enter Tryz.func57, Tryz.ntmps57
    go_wp2_with fail
    refine HF.out.mono ?_
    rintro e w1 ⟨rfl, hw1⟩
    subst hw1
    clear HF
    go_wp2_with fail
    refine (mark_any 3 (by decide) (by decide) _).mono ?_
    rintro e w2 ⟨rfl, hw2⟩
    subst hw2
    go_wp2_with fail
    refine (put_vals [255] rfl rfl HR.out (by have := HB.out; simp; omega)).mono ?_
    rintro e w3 ⟨rfl, hr3, hb3, hk3⟩
    have HR3 := hid hr3
    have HB3 := hid hb3
    have HK3 := hid hk3
    clear hr3 hb3 hk3
    go_wp2_with fail
    refine (put_vals (b8 n) (b8_cells n) rfl HR3.out (by have := HB.out; simp; omega)).mono ?_
    rintro e w4 ⟨rfl, hr3, hb3, hk3⟩
    have HR4 := hid hr3
    have HB4 := hid (HB3.out.trans hb3)
    have HK4 := hid (HK3.out.trans hk3)
    clear hr3 hb3 hk3 HR3 HB3 HK3
    go_wp2_with fail
    refine (put_vals (b4 n) (b4_cells n) rfl HR4.out (by have := HB.out; simp; omega)).mono ?_
    rintro e w5 ⟨rfl, hr3, hb3, hk3⟩
    have HR5 := hid hr3
    have HB5 := hid (HB4.out.trans hb3)
    have HK5 := hid (HK4.out.trans hk3)
    clear hr3 hb3 hk3 HR4 HB4 HK4
    go_wp2_with fail
    refine (put_vals (b2 n) (b2_cells n) rfl HR5.out (by have := HB.out; simp; omega)).mono ?_
    rintro e w6 ⟨rfl, hr3, hb3, hk3⟩
    have HR6 := hid hr3
    have HB6 := hid (HB5.out.trans hb3)
    have HK6 := hid (HK5.out.trans hk3)
    clear hr3 hb3 hk3 HR5 HB5 HK5
    go_wp2_with fail
    refine (put_vals (b1 n) (b1_cells n) rfl HR6.out (by have := HB.out; simp; omega)).mono ?_
    rintro e w7 ⟨rfl, hr3, hb3, hk3⟩
    have HR7 := hid hr3
    have HB7 := hid (HB6.out.trans hb3)
    have HK7 := hid (HK6.out.trans hk3)
    clear hr3 hb3 hk3 HR6 HB6 HK6
    go_wp2_with fail
    refine bodyPost_end (results_none rfl _ _ _) rfl ?_
    exact ⟨rfl, by simpa using HR7.out, HB7.out, HK7.out⟩

set_option maxRecDepth 100000 in
set_option maxHeartbeats 400000 in
/-- Put: the bytes lie in a row of its own -/
theorem put12_any (n : Nat) (hn : n < 18446744073709551616) (w : World) :
    Calls Tryz.prog 54 #[.int .u64 (n : Int)] w fun e w' => ∃ ao cap, e = .returned (.slice ao (putB n).length cap) ∧ w'.ownsRow w.heap.size 5 1 (.slice ao (putB n).length cap) (putB n).length (bcs (putB n)) ∧ Below w.heap.size w w' := by
  have hr : Rw w.heap.size w.heap.size [] (w.alloc (.cells #[.slice none 0 0] 98)) := ⟨Nat.le_refl _, _, heap_alloc_new w _, World.ownsRow_nil _ _ _ _⟩
  have HP := hid (putNumber_any n hr hn (by simp))
  rw [List.nil_append] at HP
  clear hr hn
  obtain ⟨k, hk⟩ : ∃ k, k = (putB n).length := ⟨_, rfl⟩
  rw [← hk]
  have HK := hid hk
  clear hk
  go_enter Tryz.func54, Tryz.ntmps54
  go_wp2_with fail
  refine HP.out.mono ?_
  rintro e w1 ⟨rfl, hr1, hb1, _⟩
  obtain ⟨v, h1, h2⟩ := hr1.blk
  obtain ⟨av, cv, hv⟩ : ∃ av cv, v = .slice av (putB n).length cv := by
    rcases h2.2 with ⟨h3, h4⟩ | ⟨g, cap, _, h3, _⟩
    · rw [h4]; exact ⟨_, _, h3⟩
    · exact ⟨_, _, h3⟩
  subst hv
  rw [← HK.out] at h1 h2
  have hc : w1.cell? ⟨w.heap.size, 0, none⟩ = some (.slice av k cv) := by rw [cell_of_heap h1]; rfl
  have H2 := hid h2
  have HB := hid (((Below.refl w.heap.size w).alloc (Nat.le_refl _) (.cells #[.slice none 0 0] 98)).trans hb1)
  clear hr1 hb1 h1 h2 HP
  go_wp2_with fail
  go_ret
  exact ⟨av, cv, rfl, H2.out, HB.out⟩
end Go.Proofs.YtdhmmllpioppfaaGreat.V
