/- DigestKnown, as a call. -/
import Derived.Test.YtkeppcpplkdkaaaDoorDoor2
import Derived.Deep.OwnRows
namespace Go.Proofs.YtkeppcpplkdkaaaDoor
open Go.RowKit

/-- a block of bytes -/
def Bk (w : World) (g : Nat) (L : Bs) : Prop := w.heap[g]? = some (.cells (bys L).toArray 5 (0, 0))
theorem Bk.cell {w : World} {g : Nat} {L : Bs} (h : Bk w g L) (i : Nat) (hi : i < L.length) : w.cell? ⟨g, i, none⟩ = some (.int .u8 (byt L i)) := by
  rw [cell_of_heap h, List.getElem?_toArray]; exact bys_get hi
theorem Bk.set {w : World} {g : Nat} {L : Bs} (h : Bk w g L) (i : Nat) (b : UInt8) : Bk (w.setCell ⟨g, i, none⟩ (.int .u8 (b.toNat : Int))) g (L.set i b) := by
  rw [Bk, heap_setCell_same h]
  congr 2
  apply Array.ext'
  simp [bys, List.map_set]
theorem Bk.below {w w' : World} {g : Nat} {L : Bs} (h : Bk w g L) (hb : Below w.heap.size w w') : Bk w' g L := (hb.block g (lt_of_block h)).trans h
theorem Bk.at {w : World} {g : Nat} {L : Bs} (h : Bk w g L) : At w g 0 L := ⟨lt_of_block h, fun i hi => by rw [Nat.zero_add]; exact h.cell i hi⟩
/-- a part of it -/
theorem Bk.part {w : World} {g : Nat} {L : Bs} (h : Bk w g L) (i k cap : Nat) (hc : k ≤ cap) : Sz w (some ⟨g, i, none⟩) cap ((L.drop i).take k) := by
  refine ⟨by rw [List.length_take]; omega, fun _ => ⟨g, i, rfl, ?_⟩⟩
  have := h.at.sub i k
  rwa [Nat.zero_add] at this

theorem made_eq (n : Nat) : madeCells #[.int .u8 0] n = (bys (noughts n)).toArray := by
  apply Array.ext'
  simp [madeCells, bys, noughts, Nat.mod_one]
  exact (List.map_const' (l := List.range n) (b := Value.int .u8 0)).trans (by simp)
theorem make_any (n : Nat) (h : n ≤ 1000) (W : World) : (Instr.makeSlice 22 (.int .i64 (n : Int)) (.int .i64 (n : Int))).run Tryd.prog W = .ok (.slice (some ⟨W.heap.size, 0, none⟩) n n) (W.alloc (.cells (bys (noughts n)).toArray 5)) := by
  rw [← made_eq]
  exact Go.run_make_row' 22 5 (.int .u8 0) 1 Tryd.underlying22 Tryd.info5 rfl .i64 .i64 n (by omega) (by omega) W
/-- a piece out of the middle -/
theorem slice_two (g cap i j : Nat) (h : i ≤ j) (hc : j ≤ cap) (hi' : i < cap) (W : World) : (Instr.sliceAt 22 (.slice (some ⟨g, 0, none⟩) cap cap) (some (.int .i64 (i : Int))) (some (.int .i64 (j : Int))) none).run Tryd.prog W = .ok (.slice (some ⟨g, i, none⟩) (j - i) (cap - i)) W := by
  obtain ⟨i0, hi, hz⟩ := Option.map_eq_some_iff.1 Tryd.size5
  have h3 : ¬ cap = i := by omega
  simp [Instr.sliceAt, Instr.slice, Instr.sliceBounds, Instr.sliceBound, asIntOf, run_underlying Tryd.underlying22, sizeOf, typeInfo, hi, hz, h3, add_off, go_sem]
  split
  · first | rfl | (split; · rfl; · omega)
  · omega

theorem Sz.cut {w : World} {a : Option Addr} {cap : Nat} {c : Bs} (h : Sz w a cap c) (k : Nat) : Sz w (if cap = k then a else a.map (·.add k)) (cap - k) (c.drop k) := by
  refine ⟨by have := h.cap; simp; omega, fun h0 => ?_⟩
  have h0' : k < c.length := by simp at h0; omega
  obtain ⟨cb, co, rfl, hat⟩ := h.som (by omega)
  have hc := h.cap
  refine ⟨cb, co + k, ?_, ?_⟩
  · rw [if_neg (by omega)]; simp [add_off]
  · have := hat.sub k (c.length)
    rwa [List.take_of_length_le (by simp)] at this
/-- four pieces of a block -/
theorem four_pieces {W : World} {g n q : Nat} {L : Bs} (hK : Bk W g L) (hL : L.length = 200) (hn : n ≤ 200) (hq : q ≤ n) (hq2 : q < 200) (a4 : Option Addr) (ha4 : a4 = (if 200 = n then some ⟨g, 0, none⟩ else (some (⟨g, 0, none⟩ : Addr)).map (·.add n))) :
    Ls (W.alloc (.cells #[.slice (some ⟨g, 0, none⟩) q 200, .slice (some ⟨g, q, none⟩) (n - q) (200 - q), .slice none 0 0, .slice a4 (200 - n) (200 - n)] 22)) (some ⟨W.heap.size, 0, none⟩) 4 [(L.drop 0).take q, (L.drop q).take (n - q), [], L.drop n] := by
  have hb := below_alloc_self' W (.cells #[.slice (some ⟨g, 0, none⟩) q 200, .slice (some ⟨g, q, none⟩) (n - q) (200 - q), .slice none 0 0, .slice a4 (200 - n) (200 - n)] 22)
  have hblk := heap_alloc_new W (.cells #[.slice (some ⟨g, 0, none⟩) q 200, .slice (some ⟨g, q, none⟩) (n - q) (200 - q), .slice none 0 0, .slice a4 (200 - n) (200 - n)] 22)
  have hK' := hK.below hb
  refine ⟨by simp, fun _ => ⟨W.heap.size, 0, rfl, lt_of_block hblk, fun i hi => ?_⟩⟩
  have hi4 : i < 4 := by simpa using hi
  rcases (by omega : i = 0 ∨ i = 1 ∨ i = 2 ∨ i = 3) with rfl | rfl | rfl | rfl
  · refine ⟨some ⟨g, 0, none⟩, 200, ?_, hK'.part 0 q 200 (by omega)⟩
    rw [cell_of_heap hblk]
    have e : ((L.drop 0).take q).length = q := by simp; omega
    show some (Value.slice _ q 200) = some (.slice _ ((L.drop 0).take q).length 200)
    rw [e]
  · refine ⟨some ⟨g, q, none⟩, 200 - q, ?_, hK'.part q (n - q) (200 - q) (by omega)⟩
    rw [cell_of_heap hblk]
    have e : ((L.drop q).take (n - q)).length = n - q := by simp; omega
    show some (Value.slice _ (n - q) (200 - q)) = some (.slice _ ((L.drop q).take (n - q)).length (200 - q))
    rw [e]
  · refine ⟨none, 0, ?_, sz_nil _⟩
    rw [cell_of_heap hblk]
    rfl
  · have hz : Sz (W.alloc (.cells #[.slice (some ⟨g, 0, none⟩) q 200, .slice (some ⟨g, q, none⟩) (n - q) (200 - q), .slice none 0 0, .slice a4 (200 - n) (200 - n)] 22)) (some ⟨g, 0, none⟩) 200 L := ⟨by omega, fun _ => ⟨g, 0, rfl, hK'.at⟩⟩
    have hz4 := hz.cut n
    rw [← ha4] at hz4
    refine ⟨a4, 200 - n, ?_, hz4⟩
    rw [cell_of_heap hblk]
    have e : (L.drop n).length = 200 - n := by simp; omega
    show some (Value.slice a4 (200 - n) (200 - n)) = some (.slice a4 (L.drop n).length (200 - n))
    rw [e]

/-- the digits of nothing, and of 56 letters -/
def hnil : Bs := [101, 51, 98, 48, 99, 52, 52, 50, 57, 56, 102, 99, 49, 99, 49, 52, 57, 97, 102, 98, 102, 52, 99, 56, 57, 57, 54, 102, 98, 57, 50, 52, 50, 55, 97, 101, 52, 49, 101, 52, 54, 52, 57, 98, 57, 51, 52, 99, 97, 52, 57, 53, 57, 57, 49, 98, 55, 56, 53, 50, 98, 56, 53, 53]
def has : Bs := [98, 51, 53, 52, 51, 57, 97, 52, 97, 99, 54, 102, 48, 57, 52, 56, 98, 54, 100, 54, 102, 57, 101, 51, 99, 54, 97, 102, 48, 102, 53, 102, 53, 57, 48, 99, 101, 50, 48, 102, 49, 98, 100, 101, 55, 48, 57, 48, 101, 102, 55, 57, 55, 48, 54, 56, 54, 101, 99, 54, 55, 51, 56, 97]
theorem hex_nil : hx (outs (sumS [])) = hnil := by decide +kernel
theorem hex_as : hx (outs (sumS (List.replicate 56 97))) = has := by decide +kernel

set_option maxHeartbeats 8000000 in
set_option maxRecDepth 100000 in
theorem known_any (w : World) (hkc : KC w) : Calls Tryd.prog 6 #[] w fun en w' => en = .returned (.bool true) ∧ Below w.heap.size w w' := by
  have HKC := hid hkc
  clear hkc
  have hmk : ∀ W, (Instr.makeSlice 22 (.int .i64 200) (.int .i64 200)).run Tryd.prog W = .ok (.slice (some ⟨W.heap.size, 0, none⟩) 200 200) (W.alloc (.cells (bys (noughts 200)).toArray 5)) := make_any 200 (by decide)
  go_enter Tryd.func6, Tryd.ntmps6
  go_wp2_with fail
  obtain ⟨g, hg⟩ : ∃ g, g = w.heap.size := ⟨_, rfl⟩
  have HB0 : Hid (Below w.heap.size w (w.alloc (.cells (bys (noughts 200)).toArray 5))) := hid (below_alloc_self' w _)
  have HK0 : Hid (Bk (w.alloc (.cells (bys (noughts 200)).toArray 5)) g (noughts 200)) := by apply hid; rw [hg]; exact heap_alloc_new w _
  have HGW : Hid (w.heap.size ≤ g) := by apply hid; omega
  rw [← hg]
  generalize w.alloc (.cells (bys (noughts 200)).toArray 5) = w1 at HB0 HK0 ⊢
  clear hg hmk
  go_loopg [2] 200 (fun gg vi wr => ∃ (i : Nat) (L : Bs), i ≤ 200 ∧ gg = 200 - i ∧ vi = .int .i64 (i : Int) ∧ L.length = 200 ∧ Below w.heap.size w wr ∧ Bk wr g L)
  case atStart => exact ⟨0, _, by omega, rfl, rfl, rfl, HB0.out, HK0.out⟩
  case round =>
    clear HB0 HK0
    obtain ⟨i, L, hi, rfl, rfl, hLl, hB, hK⟩ := hrel
    have HLL := hid hLl
    have HB := hid hB
    have HK := hid hK
    clear hLl hB hK
    by_cases hil : i < 200
    · have hi1 : (i : Int) < 200 := by omega
      have HIL := hid hil
      have hce := HK.out.cell i (by rw [HLL.out]; exact hil)
      have hfz : ∀ o, wr.frozen? ⟨g, o, none⟩ = false := fun o => frozen_of_heap HK.out o
      clear hi hil
      go_wp2_with fail
      go_roundg (200 - (i + 1))
      case measure => have := HIL.out; omega
      case rel =>
        refine ⟨i + 1, L.set i (UInt8.ofNat i), HIL.out, rfl, rfl, by rw [List.length_set]; exact HLL.out, below_setCell HB.out HGW.out, ?_⟩
        have h := HK.out.set i (UInt8.ofNat i)
        rw [byte_of, show (i : Int) % 256 = (i : Int) by have := HIL.out; omega] at h
        exact h
    · have hi1 : ¬ (i : Int) < 200 := by omega
      clear hi hil
      go_wp2_with fail
      go_loopg [3] 201 (fun gg vn wr => ∃ n : Nat, n ≤ 201 ∧ gg = 201 - n ∧ vn = .int .i64 (n : Int) ∧ Below w.heap.size w wr ∧ Bk wr g L)
      case atStart => exact ⟨0, by omega, rfl, rfl, HB.out, HK.out⟩
      case round =>
        clear HB HK
        obtain ⟨n, hn, rfl, rfl, hB, hK⟩ := hrel
        have HB := hid hB
        have HK := hid hK
        clear hB hK
        by_cases hnl : n ≤ 200
        · have hn1 : (n : Int) ≤ 200 := by omega
          have HNL := hid hnl
          by_cases hA : 130 < n ∧ n < 180
          · have hA1 : (130 : Int) < (n : Int) := by omega
            have hA2 : (n : Int) < 180 := by omega
            clear hn hnl hA
            go_wp2_with fail
            go_roundg (201 - (n + 1))
            case measure => have := HNL.out; omega
            case rel => exact ⟨n + 1, by have := HNL.out; omega, rfl, rfl, HB.out, HK.out⟩
          · by_cases hC : 10 < n ∧ n < 50
            · have hC1 : (10 : Int) < (n : Int) := by omega
              have hC2 : (n : Int) < 50 := by omega
              clear hn hnl hA hC
              go_wp2_with fail
              go_roundg (201 - (n + 1))
              case measure => have := HNL.out; omega
              case rel => exact ⟨n + 1, by have := HNL.out; omega, rfl, rfl, HB.out, HK.out⟩
            · clear hn
              rcases (by omega : (130 < n ∧ ¬ n < 180 ∧ 10 < n ∧ ¬ n < 50) ∨ (¬ 130 < n ∧ 10 < n ∧ ¬ n < 50) ∨ (¬ 130 < n ∧ ¬ 10 < n)) with hcs | hcs | hcs
              all_goals
                have hc1 : Hid True := hid trivial
                obtain ⟨q, hq⟩ : ∃ q, q = n / 3 := ⟨_, rfl⟩
                have hq3 : (n : Int) / 3 = (q : Int) := by omega
                have hqn : (q : Int) ≤ (n : Int) := by omega
                have hq4 : (n : Int).tdiv 3 = (q : Int) := by rw [Int.tdiv_eq_ediv_of_nonneg (by omega)]; exact hq3
                have hq5 : IntKind.i64.wrap (q : Int) = (q : Int) := by rw [IntKind.wrap_i64]; omega
                have HQ : Hid (q ≤ n ∧ q < 200) := by apply hid; omega
                obtain ⟨a4, ha4⟩ : ∃ a4, a4 = (if 200 = n then some ⟨g, 0, none⟩ else (some (⟨g, 0, none⟩ : Addr)).map (·.add n)) := ⟨_, rfl⟩
                have hs1 : ∀ W, (Instr.sliceAt 22 (.slice (some ⟨g, 0, none⟩) 200 200) none (some (.int .i64 (n : Int))) none).run Tryd.prog W = .ok (.slice (some ⟨g, 0, none⟩) n 200) W := slice_to _ 200 200 n hnl
                have hs2 : ∀ W, (Instr.sliceAt 22 (.slice (some ⟨g, 0, none⟩) 200 200) none (some (.int .i64 (q : Int))) none).run Tryd.prog W = .ok (.slice (some ⟨g, 0, none⟩) q 200) W := slice_to _ 200 200 q (by omega)
                have hs3 : ∀ W, (Instr.sliceAt 22 (.slice (some ⟨g, 0, none⟩) 200 200) (some (.int .i64 (q : Int))) (some (.int .i64 (n : Int))) none).run Tryd.prog W = .ok (.slice (some ⟨g, q, none⟩) (n - q) (200 - q)) W := slice_two g 200 q n (by omega) hnl (by omega)
                have hs4 : ∀ W, (Instr.sliceAt 22 (.slice (some ⟨g, 0, none⟩) 200 200) (some (.int .i64 (n : Int))) none none).run Tryd.prog W = .ok (.slice a4 (200 - n) (200 - n)) W := by rw [ha4]; exact slice_from _ 200 200 n hnl
                have HC1 : Hid (∀ W : World, Below w.heap.size w W → Bk W g L → Calls Tryd.prog 3 #[.slice (some ⟨g, 0, none⟩) n 200] W fun en w' => en = .returned (.bool true) ∧ Below w.heap.size w w' ∧ Bk w' g L) := by
                  apply hid; intro W hb hk
                  have h := sums_any W (some ⟨g, 0, none⟩) 200 ((L.drop 0).take n) (hk.part 0 n 200 HNL.out) (HKC.out.below hb)
                  rw [show ((L.drop 0).take n).length = n by have := HLL.out; have := HNL.out; simp; omega] at h
                  refine h.mono ?_
                  rintro e w' ⟨rfl, hb'⟩
                  exact ⟨rfl, hb.trans (hb'.mono hb.size), hk.below hb'⟩
                have HC2 : Hid (∀ W : World, Below w.heap.size w W → Bk W g L → Calls Tryd.prog 4 #[.slice (some ⟨W.heap.size, 0, none⟩) 4 4] (W.alloc (.cells #[.slice (some ⟨g, 0, none⟩) q 200, .slice (some ⟨g, q, none⟩) (n - q) (200 - q), .slice none 0 0, .slice a4 (200 - n) (200 - n)] 22)) fun en w' => en = .returned (.bool true) ∧ Below w.heap.size w w' ∧ Bk w' g L) := by
                  apply hid; intro W hb hk
                  have hL := four_pieces hk HLL.out HNL.out HQ.out.1 HQ.out.2 a4 ha4
                  have hbb := below_alloc_self' W (.cells #[.slice (some ⟨g, 0, none⟩) q 200, .slice (some ⟨g, q, none⟩) (n - q) (200 - q), .slice none 0 0, .slice a4 (200 - n) (200 - n)] 22)
                  have hb2 := hb.trans (hbb.mono hb.size)
                  have h := pieces_any _ _ 4 _ hL (by unfold maxLen; simp) (fun i hi => by
                    have hll := HLL.out
                    have hi4 : i < 4 := by simpa using hi
                    rcases (by omega : i = 0 ∨ i = 1 ∨ i = 2 ∨ i = 3) with rfl | rfl | rfl | rfl <;> simp <;> omega) (HKC.out.below hb2)
                  refine h.mono ?_
                  rintro e w' ⟨rfl, hb'⟩
                  exact ⟨rfl, hb2.trans (hb'.mono hb2.size), (hk.below hbb).below hb'⟩
                clear ha4 hq
                have hbd : (n : Int) ≤ 200 := by omega
              · have h1 : (130 : Int) < (n : Int) := by omega
                have h2 : ¬ (n : Int) < 180 := by omega
                have h3 : (10 : Int) < (n : Int) := by omega
                have h4 : ¬ (n : Int) < 50 := by omega
                clear hnl hA hC hcs
                go_wp2_with fail
                go_region_held3 (fun _ => True) (trivial) (first | (go_at_call 3; refine (HC1.out _ (Below.of_drew HB.out) HK.out).mono ?_; rintro e w2 ⟨rfl, hb2, hk2⟩; have HB2 := hid hb2; have HK2 := hid hk2; clear hb2 hk2) | (go_at_call 4; refine (HC2.out _ HB2.out HK2.out).mono ?_; rintro e w3 ⟨rfl, hb3, hk3⟩; have HB3 := hid hb3; have HK3 := hid hk3; clear hb3 hk3))
                go_wp2_with fail
                go_roundg (201 - (n + 1))
                case measure => have := HNL.out; omega
                case rel => exact ⟨n + 1, by have := HNL.out; omega, rfl, rfl, HB3.out, HK3.out⟩
              · have h1 : ¬ (130 : Int) < (n : Int) := by omega
                have h3 : (10 : Int) < (n : Int) := by omega
                have h4 : ¬ (n : Int) < 50 := by omega
                clear hnl hA hC hcs
                go_wp2_with fail
                go_region_held3 (fun _ => True) (trivial) (first | (go_at_call 3; refine (HC1.out _ (Below.of_drew HB.out) HK.out).mono ?_; rintro e w2 ⟨rfl, hb2, hk2⟩; have HB2 := hid hb2; have HK2 := hid hk2; clear hb2 hk2) | (go_at_call 4; refine (HC2.out _ HB2.out HK2.out).mono ?_; rintro e w3 ⟨rfl, hb3, hk3⟩; have HB3 := hid hb3; have HK3 := hid hk3; clear hb3 hk3))
                go_wp2_with fail
                go_roundg (201 - (n + 1))
                case measure => have := HNL.out; omega
                case rel => exact ⟨n + 1, by have := HNL.out; omega, rfl, rfl, HB3.out, HK3.out⟩
              · have h1 : ¬ (130 : Int) < (n : Int) := by omega
                have h3 : ¬ (10 : Int) < (n : Int) := by omega
                clear hnl hA hC hcs
                go_wp2_with fail
                go_region_held3 (fun _ => True) (trivial) (first | (go_at_call 3; refine (HC1.out _ (Below.of_drew HB.out) HK.out).mono ?_; rintro e w2 ⟨rfl, hb2, hk2⟩; have HB2 := hid hb2; have HK2 := hid hk2; clear hb2 hk2) | (go_at_call 4; refine (HC2.out _ HB2.out HK2.out).mono ?_; rintro e w3 ⟨rfl, hb3, hk3⟩; have HB3 := hid hb3; have HK3 := hid hk3; clear hb3 hk3))
                go_wp2_with fail
                go_roundg (201 - (n + 1))
                case measure => have := HNL.out; omega
                case rel => exact ⟨n + 1, by have := HNL.out; omega, rfl, rfl, HB3.out, HK3.out⟩
        · have hn1 : ¬ (n : Int) ≤ 200 := by omega
          have hmk : ∀ W, (Instr.makeSlice 22 (.int .i64 56) (.int .i64 56)).run Tryd.prog W = .ok (.slice (some ⟨W.heap.size, 0, none⟩) 56 56) (W.alloc (.cells (bys (noughts 56)).toArray 5)) := make_any 56 (by decide)
          clear hn hnl
          go_wp2_with fail
          have HB0 : Hid (Below w.heap.size w (wr.alloc (.cells (bys (noughts 56)).toArray 5))) := hid (HB.out.alloc HB.out.size _)
          have HK0 : Hid (Bk (wr.alloc (.cells (bys (noughts 56)).toArray 5)) wr.heap.size (List.replicate 0 97 ++ noughts 56)) := hid (heap_alloc_new wr _)
          have HGX : Hid (w.heap.size ≤ wr.heap.size) := hid HB.out.size
          generalize wr.alloc (.cells (bys (noughts 56)).toArray 5) = w4 at HB0 HK0 ⊢
          generalize wr.heap.size = gx at HK0 HGX ⊢
          clear hmk HB HK hn1 hi1
          go_loopg [5] 56 (fun gg vi wr => ∃ i : Nat, i ≤ 56 ∧ gg = 56 - i ∧ vi = .int .i64 (i : Int) ∧ Below w.heap.size w wr ∧ Bk wr gx (List.replicate i 97 ++ noughts (56 - i)))
          case atStart => exact ⟨0, by omega, rfl, rfl, HB0.out, HK0.out⟩
          case round =>
            clear HB0 HK0
            obtain ⟨k, hk, rfl, rfl, hB, hK⟩ := hrel
            have HB := hid hB
            have HK := hid hK
            clear hB hK
            by_cases hkl : k < 56
            · have hk1 : (k : Int) < 56 := by omega
              have HKL := hid hkl
              have hce := HK.out.cell k (by simp [noughts]; omega)
              have hfz : ∀ o, wr.frozen? ⟨gx, o, none⟩ = false := fun o => frozen_of_heap HK.out o
              generalize byt (List.replicate k 97 ++ noughts (56 - k)) k = x0 at hce
              clear hk hkl
              go_wp2_with fail
              go_roundg (56 - (k + 1))
              case measure => have := HKL.out; omega
              case rel =>
                refine ⟨k + 1, HKL.out, rfl, rfl, below_setCell HB.out HGX.out, ?_⟩
                have h := HK.out.set k 97
                have e : (List.replicate k (97 : UInt8) ++ noughts (56 - k)).set k 97 = List.replicate (k + 1) 97 ++ noughts (56 - (k + 1)) := by
                  rw [List.set_append_right (h := by simp), List.length_replicate, Nat.sub_self, show 56 - k = (56 - (k + 1)) + 1 by have := HKL.out; omega]
                  rw [List.replicate_succ' (n := k)]
                  simp [noughts, List.replicate_succ]
                rw [e] at h
                exact h
            · have hk1 : ¬ (k : Int) < 56 := by omega
              obtain rfl : k = 56 := by omega
              have HQ : Hid (List.replicate 56 (97 : UInt8) ++ noughts (56 - 56) = List.replicate 56 97) := hid rfl
              rw [HQ.out] at HK
              obtain ⟨q0, hq0⟩ : ∃ q : Bs, q = [] := ⟨_, rfl⟩
              obtain ⟨q3, hq3⟩ : ∃ q : Bs, q = [97, 98, 99] := ⟨_, rfl⟩
              obtain ⟨q5, hq5⟩ : ∃ q : Bs, q = List.replicate 56 97 := ⟨_, rfl⟩
              rw [← hq5] at HK
              have HC0 : Hid (∀ W : World, Below w.heap.size w W → Calls Tryd.prog 9 #[.slice none 0 0] W fun en w' => en = .returned (.string ⟨hnil.toArray⟩) ∧ Below w.heap.size w w' ∧ (Bk W gx q5 → Bk w' gx q5)) := by
                apply hid; intro W hb
                have h := hex_any W none 0 q0 (by rw [hq0]; exact sz_nil W) (by rw [hq0]; decide) (HKC.out.below hb)
                rw [show q0.length = 0 by rw [hq0]; rfl, hq0, hex_nil] at h
                refine h.mono ?_
                rintro e w' ⟨rfl, hb'⟩
                exact ⟨rfl, hb.trans (hb'.mono hb.size), fun h => h.below hb'⟩
              have HC3 : Hid (∀ W : World, Below w.heap.size w W → ∀ a, Sz W a 3 q3 → Calls Tryd.prog 9 #[.slice a 3 3] W fun en w' => en = .returned (.string ⟨habc.toArray⟩) ∧ Below w.heap.size w w' ∧ (Bk W gx q5 → Bk w' gx q5)) := by
                apply hid; intro W hb a hs
                have h := hex_any W a 3 q3 hs (by rw [hq3]; decide) (HKC.out.below hb)
                rw [show q3.length = 3 by rw [hq3]; rfl, hq3, hex_abc] at h
                refine h.mono ?_
                rintro e w' ⟨rfl, hb'⟩
                exact ⟨rfl, hb.trans (hb'.mono hb.size), fun h => h.below hb'⟩
              have HC5 : Hid (∀ W : World, Below w.heap.size w W → Bk W gx q5 → Calls Tryd.prog 9 #[.slice (some ⟨gx, 0, none⟩) 56 56] W fun en w' => en = .returned (.string ⟨has.toArray⟩) ∧ Below w.heap.size w w') := by
                apply hid; intro W hb hk
                have h := hex_any W (some ⟨gx, 0, none⟩) 56 q5 ⟨by rw [hq5]; decide, fun _ => ⟨gx, 0, rfl, hk.at⟩⟩ (by rw [hq5]; decide) (HKC.out.below hb)
                rw [show q5.length = 56 by rw [hq5]; rfl, hq5, hex_as] at h
                refine h.mono ?_
                rintro e w' ⟨rfl, hb'⟩
                exact ⟨rfl, hb.trans (hb'.mono hb.size)⟩
              have HCN : Hid (∀ (W : World) (v : Value), Below w.heap.size w W → Calls Tryd.prog 5 #[v] W fun en w' => en = .returned (.bool true) ∧ Below w.heap.size w w') := by
                apply hid; intro W v hb
                refine (none_any W v (HKC.out.below hb)).mono ?_
                rintro e w' ⟨rfl, hb'⟩
                exact ⟨rfl, hb.trans (hb'.mono hb.size)⟩
              have HCW : Hid (∀ (W : World), Below w.heap.size w W → Calls Tryd.prog 11 #[] W fun en w' => en = .returned (.bool true) ∧ Below w.heap.size w w') := by
                apply hid; intro W hb
                refine (works_any W (HKC.out.below hb)).mono ?_
                rintro e w' ⟨rfl, hb'⟩
                exact ⟨rfl, hb.trans (hb'.mono hb.size)⟩
              have HSZ : Hid (∀ W : World, Sz (W.alloc (.cells #[.int .u8 97, .int .u8 98, .int .u8 99] 5 (3, 4))) (some ⟨W.heap.size, 0, none⟩) 3 q3) := by
                apply hid; intro W
                have h := sz_new W q3 3 (by rw [hq3]; rfl) (3, 4)
                rw [show (bys q3).toArray = #[.int .u8 97, .int .u8 98, .int .u8 99] by rw [hq3]; rfl] at h
                exact h
              have he0 : (hnil == [101, 51, 98, 48, 99, 52, 52, 50, 57, 56, 102, 99, 49, 99, 49, 52, 57, 97, 102, 98, 102, 52, 99, 56, 57, 57, 54, 102, 98, 57, 50, 52, 50, 55, 97, 101, 52, 49, 101, 52, 54, 52, 57, 98, 57, 51, 52, 99, 97, 52, 57, 53, 57, 57, 49, 98, 55, 56, 53, 50, 98, 56, 53, 53]) = true := by decide +kernel
              have he3 : (habc == [98, 97, 55, 56, 49, 54, 98, 102, 56, 102, 48, 49, 99, 102, 101, 97, 52, 49, 52, 49, 52, 48, 100, 101, 53, 100, 97, 101, 50, 50, 50, 51, 98, 48, 48, 51, 54, 49, 97, 51, 57, 54, 49, 55, 55, 97, 57, 99, 98, 52, 49, 48, 102, 102, 54, 49, 102, 50, 48, 48, 49, 53, 97, 100]) = true := by decide +kernel
              have he5 : (has == [98, 51, 53, 52, 51, 57, 97, 52, 97, 99, 54, 102, 48, 57, 52, 56, 98, 54, 100, 54, 102, 57, 101, 51, 99, 54, 97, 102, 48, 102, 53, 102, 53, 57, 48, 99, 101, 50, 48, 102, 49, 98, 100, 101, 55, 48, 57, 48, 101, 102, 55, 57, 55, 48, 54, 56, 54, 101, 99, 54, 55, 51, 56, 97]) = true := by decide +kernel
              clear hq0 hq3 hq5 hk hkl HQ
              go_wp2_with fail
              refine (HC0.out wr HB.out).mono ?_
              rintro e w5 ⟨rfl, hb5, hk5⟩
              have HB5 := hid hb5
              have HK5 := hid (hk5 HK.out)
              clear hb5 hk5
              obtain ⟨w6, hw6⟩ : ∃ w6, w6 = w5.alloc (.cells #[.int .u8 97, .int .u8 98, .int .u8 99] 5 (3, 4)) := ⟨_, rfl⟩
              have hcv : (convert 22 22 (.slice (some ⟨w5.heap.size, 0, none⟩) 3 3)).run Tryd.prog (w5.alloc (.cells #[.int .u8 97, .int .u8 98, .int .u8 99] 5)) = .ok (.slice (some ⟨w5.heap.size, 0, none⟩) 3 3) w6 := by rw [hw6]; exact conv_const w5 _ 3 3
              have HB6 : Hid (Below w.heap.size w w6) := by apply hid; rw [hw6]; exact HB5.out.alloc HB5.out.size _
              have HK6 : Hid (Bk w6 gx q5) := by apply hid; rw [hw6]; exact HK5.out.below (below_alloc_self' w5 _)
              have HZ6 : Hid (Sz w6 (some ⟨w5.heap.size, 0, none⟩) 3 q3) := by apply hid; rw [hw6]; exact HSZ.out w5
              clear hw6
              go_wp2_with fail
              refine (HC3.out w6 HB6.out _ HZ6.out).mono ?_
              rintro e w7 ⟨rfl, hb7, hk7⟩
              have HB7 := hid hb7
              have HK7 := hid (hk7 HK6.out)
              clear hb7 hk7 hcv
              go_wp2_with fail
              refine (HC5.out w7 HB7.out HK7.out).mono ?_
              rintro e w8 ⟨rfl, hb8⟩
              have HB8 := hid hb8
              clear hb8
              go_wp2_with fail
              refine (HCN.out w8 _ HB8.out).mono ?_
              rintro e w9 ⟨rfl, hb9⟩
              have HB9 := hid hb9
              clear hb9
              go_wp2_with fail
              refine (HCW.out w9 HB9.out).mono ?_
              rintro e w10 ⟨rfl, hb10⟩
              have HB10 := hid hb10
              clear hb10
              go_wp2_with fail
              go_ret
              exact ⟨rfl, HB10.out⟩
end Go.Proofs.YtkeppcpplkdkaaaDoor
