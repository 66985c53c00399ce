/- The examples. -/
import Derived.Test.YtmdiggbbgcjcnaaDoorSdW
namespace Go.Proofs.YtmdiggbbgcjcnaaDoor
open Go.RowKit

/-- the calls that are tried freely -/
def free : List Sx := [⟨1, 1048575, [110, 49, 59]⟩, ⟨1, 1048574, [110, 50, 59]⟩, ⟨1, 1048574, [110]⟩, ⟨2, 1048575, []⟩, ⟨3, 0, []⟩, ⟨0, 0, []⟩, ⟨4, 0, []⟩, ⟨2, 1048574, []⟩, ⟨2, 1048576, []⟩, ⟨2, -1, []⟩]

set_option maxHeartbeats 8000000 in
set_option maxRecDepth 100000 in
theorem known_any (w : World) (hp : Pw w) (hz : Tz w) : Calls Tryd.prog 7 #[] w fun e w' => e = .returned (.bool true) ∧ Below w.heap.size w w' := by
  have HW : Hid (∀ W, Below w.heap.size w W → Calls Tryd.prog 10 #[] W fun e w' => e = .returned (.bool true) ∧ Below w.heap.size w w') := hid (fun W hW => (works_any W (hp.below hW) (hz.below hW)).mono (fun e w' ⟨q1, q2⟩ => ⟨q1, hW.trans (q2.mono hW.size)⟩))
  have H3 : Hid (∀ (x : Bs) (i : Int) W, Below w.heap.size w W → Calls Tryd.prog 3 #[St x, .int .i64 i] W fun e w' => e = .returned (.bool true) ∧ Below W.heap.size W w') := hid (fun x i W hW => secretsLaw_any x i W (hp.below hW) (hz.below hW))
  have H5 : Hid (∀ (i : Int) (x : Bs) W, Below w.heap.size w W → Calls Tryd.prog 5 #[.int .i64 i, St x] W fun e w' => e = .returned (.bool true) ∧ Below W.heap.size W w') := hid (fun i x W hW => noneLaw_any i x W (hp.below hW) (hz.below hW))
  have H4 : Hid (∀ (L : List Sx) (a : Option Addr) (n c : Nat) W, n = L.length → Scr W (.slice a n c) L → Below w.heap.size w W → Calls Tryd.prog 4 #[.string ⟨#[110, 55, 59]⟩, .slice a n c] W fun e w' => e = .returned (.bool true) ∧ Below W.heap.size W w') := hid (fun L a n c W hn hs hW => by
    subst hn; exact playsLaw_any n7 L a c W hs (hp.below hW) (hz.below hW))
  have H6 : Hid (∀ W, Below w.heap.size w W → Calls Tryd.prog 6 #[.string ⟨#[110, 55, 59]⟩, .int .i64 299, .string ⟨#[110, 57, 59]⟩] W fun e w' => e = .returned (.bool true) ∧ Below W.heap.size W w') := hid (fun W hW => tellsLaw_any n7 n9 299 W (hp.below hW) (hz.below hW))
  clear hp hz
  go_enter Tryd.func7, Tryd.ntmps7
  go_wp2_with fail
  go_loop [1, 2] (fun v1 v2 => ∃ (k : Nat) (y : Bs), k ≤ 46 ∧ v2 = .int .i64 (k : Int) ∧ v1 = St y ∧ y.length ≤ 3 + k) (fun _ v2 => 46 - (intOf v2).toNat)
  case atStart => exact ⟨0, [110, 49, 59], by omega, rfl, rfl, by simp⟩
  case round =>
    obtain ⟨k, y, hk, rfl, rfl, hy⟩ := hrel
    have ha : ∀ W, (Op.stringOp .add (⟨#[72]⟩ : ByteArray) ⟨y.toArray⟩).run Tryd.prog W = .ok (St (72 :: y)) W := fun W => by
      rw [run_string_add_sum W _ _ (by rw [st_size]; show 1 + y.length ≤ _; omega)]; exact congrArg (fun z => Result.ok (Value.string z) W) (st_app [72] y)
    by_cases h46 : k < 46
    · have hlt : (k : Int) < 46 := by omega
      have hw1 : IntKind.i64.wrap ((k : Int) + 1) = ((k + 1 : Nat) : Int) := by rw [IntKind.wrap_i64]; omega
      have HK := hid h46
      have HY := hid hy
      clear hk hy h46
      go_wp2_with fail
      go_round
      case rel => exact ⟨k + 1, 72 :: y, HK.out, by go_num, rfl, by have := HY.out; simp; omega⟩
      case measure => simp [intOf]; omega
    · have hk46 : k = 46 := by omega
      subst hk46
      clear hk hy h46
      --FROM HERE
      go_wp2_with fail
      generalize hW7 : w.alloc _ = W7
      have HB7 : Hid (Below w.heap.size w W7) := hid (by rw [← hW7]; exact (Below.refl _ w).alloc (Nat.le_refl _) _)
      have HC7 : Hid (∀ j, j < 7 → ∀ W, Below W7.heap.size W7 W → ∃ x : Bs, W.cell? ⟨w.heap.size, j, none⟩ = some (St x)) := hid (fun j hj W hW => by
        have hlt : w.heap.size < W7.heap.size := by rw [← hW7]; simp
        have h1 : W.cell? ⟨w.heap.size, j, none⟩ = W7.cell? ⟨w.heap.size, j, none⟩ := hW.cell (p := ⟨w.heap.size, j, none⟩) hlt
        rw [h1, ← hW7, cell_of_heap (heap_alloc_new w _)]
        match j, hj with
        | 0, _ => exact ⟨n7, rfl⟩
        | 1, _ => exact ⟨[], rfl⟩
        | 2, _ => exact ⟨[110], rfl⟩
        | 3, _ => exact ⟨[116, 50, 58, 97, 98], rfl⟩
        | 4, _ => exact ⟨y, rfl⟩
        | 5, _ => exact ⟨72 :: y, rfl⟩
        | 6, _ => exact ⟨[68, 110, 49, 59, 116, 49, 58, 53], rfl⟩)
      clear ha hW7
      go_loopg [4, 5, 22] 7 (fun gg v4 v5 v22 wr => ∃ j : Nat, gg = 7 - j ∧ j ≤ 7 ∧ v22 = .int .i64 (j : Int) ∧ Below W7.heap.size W7 wr)
      case atStart => exact ⟨0, rfl, by omega, rfl, Below.refl _ _⟩
      case round =>
        obtain ⟨j, rfl, hj, rfl, hbj⟩ := hrel
        have HBJ := hid hbj
        by_cases hj7 : j < 7
        · obtain ⟨x, hcx⟩ := HC7.out j hj7 wr hbj
          have HJ := hid hj7
          have hlt : (j : Int) < 7 := by omega
          have hj0 : (0 : Int) ≤ (j : Int) := Int.natCast_nonneg _
          have hjw : IntKind.i64.wrap ((j : Int) + 1) = ((j + 1 : Nat) : Int) := by rw [IntKind.wrap_i64]; omega
          clear hbj hj hj7
          go_wp2_with fail
          clear hcx
          obtain ⟨wq, rfl⟩ : ∃ wq, wq = wr := ⟨_, rfl⟩
          go_loopg [5] 21 (fun gg v5 wr => ∃ b : Nat, gg = 21 - b ∧ b ≤ 21 ∧ v5 = .int .i64 (b : Int) ∧ Below W7.heap.size W7 wr)
          case atStart => exact ⟨0, rfl, by omega, rfl, HBJ.out⟩
          case round =>
            obtain ⟨b, rfl, hb21, rfl, hbb⟩ := hrel
            have HBB := hid hbb
            by_cases hb : b < 21
            · have HBL := hid hb
              have hlt2 : (b : Int) < 21 := by omega
              have hb0 : (0 : Int) ≤ (b : Int) := Int.natCast_nonneg _
              have hb64 : (b : Int) ≤ 64 := by omega
              have hbw : IntKind.i64.wrap ((b : Int) + 1) = ((b + 1 : Nat) : Int) := by rw [IntKind.wrap_i64]; omega
              clear hbb hb hb21
              go_wp2_with fail
              refine (H3.out x _ _ (HB7.out.trans (HBB.out.mono HB7.out.size))).mono ?_
              rintro e wa ⟨rfl, hq⟩
              have HBA := hid (HBB.out.trans (hq.mono HBB.out.size))
              clear hq
              go_wp2_with fail
              refine (H3.out x _ _ (HB7.out.trans (HBA.out.mono HB7.out.size))).mono ?_
              rintro e wb ⟨rfl, hq⟩
              have HBC := hid (HBA.out.trans (hq.mono HBA.out.size))
              clear hq
              go_wp2_with fail
              refine (H3.out x _ _ (HB7.out.trans (HBC.out.mono HB7.out.size))).mono ?_
              rintro e wc ⟨rfl, hq⟩
              have HBD := hid (HBC.out.trans (hq.mono HBC.out.size))
              clear hq
              go_wp2_with fail
              go_roundg (21 - (b + 1))
              case measure => have := HBL.out; omega
              case rel => exact ⟨b + 1, rfl, by have := HBL.out; omega, by go_num, HBD.out⟩
            · have hbe : b = 21 := by omega
              subst hbe
              clear hbb hb hb21
              go_wp2_with fail
              refine (H3.out x _ _ (HB7.out.trans (HBB.out.mono HB7.out.size))).mono ?_
              rintro e wa ⟨rfl, hq⟩
              have HBA := hid (HBB.out.trans (hq.mono HBB.out.size))
              clear hq
              go_wp2_with fail
              refine (H3.out x _ _ (HB7.out.trans (HBA.out.mono HB7.out.size))).mono ?_
              rintro e wb ⟨rfl, hq⟩
              have HBC := hid (HBA.out.trans (hq.mono HBA.out.size))
              clear hq
              go_wp2_with fail
              refine (H3.out x _ _ (HB7.out.trans (HBC.out.mono HB7.out.size))).mono ?_
              rintro e wc ⟨rfl, hq⟩
              have HBD := hid (HBC.out.trans (hq.mono HBC.out.size))
              clear hq
              go_wp2_with fail
              refine (H5.out _ x _ (HB7.out.trans (HBD.out.mono HB7.out.size))).mono ?_
              rintro e wd ⟨rfl, hq⟩
              have HBE := hid (HBD.out.trans (hq.mono HBD.out.size))
              clear hq
              go_wp2_with fail
              go_roundg (7 - (j + 1))
              case measure => have := HJ.out; omega
              case rel => exact ⟨j + 1, rfl, HJ.out, by go_num, HBE.out⟩
        · have hje : j = 7 := by omega
          subst hje
          have HB8 := hid (HB7.out.trans (HBJ.out.mono HB7.out.size))
          clear hbj hj hj7 HC7 HBJ HB7
          go_wp2_with fail
          obtain ⟨wq, rfl⟩ : ∃ wq, wq = wr := ⟨_, rfl⟩
          go_loopg [6, 7, 8] 34 (fun gg v6 v7 v8 wr => ∃ (i : Nat) (a : Option Addr) (c : Nat) (L : List Sx), gg = 34 - i ∧ i ≤ 34 ∧ v7 = .int .i64 (i : Int) ∧ v6 = .slice a L.length c ∧ wr.ownsRow w.heap.size 36 3 (.slice a L.length c) L.length (flat L) ∧ L.length ≤ 5 * i ∧ Below w.heap.size w wr)
          case atStart => exact ⟨0, none, 0, [], rfl, by omega, rfl, rfl, ⟨rfl, Or.inl ⟨rfl, rfl⟩⟩, by simp, HB8.out⟩
          case round =>
            obtain ⟨i, a, c, L, rfl, hi, rfl, rfl, ho, hLl, hbi⟩ := hrel
            have HBI := hid hbi
            have HO := hid ho
            have HLL := hid hLl
            by_cases hi34 : i < 34
            · have HI := hid hi34
              have hlt : (i : Int) < 34 := by omega
              have hi0 : (0 : Int) ≤ (i : Int) := Int.natCast_nonneg _
              have hiw : IntKind.i64.wrap ((i : Int) + 1) = ((i + 1 : Nat) : Int) := by rw [IntKind.wrap_i64]; omega
              obtain ⟨A, hA⟩ : ∃ A : Int, A = 1048575 - (i : Int) := ⟨_, rfl⟩
              have hw1 : IntKind.i64.wrap (1048575 - (i : Int)) = A := by rw [IntKind.wrap_i64]; omega
              have hw2 : IntKind.i64.wrap (A - 1) = A - 1 := by rw [IntKind.wrap_i64]; omega
              have hm5 : (i : Int).tmod 5 = (i : Int) % 5 := by rw [Int.tmod_eq_emod_of_nonneg hi0]
              have hw3 : IntKind.i64.wrap ((i : Int) % 5) = (i : Int) % 5 := by rw [IntKind.wrap_i64]; omega
              have hw4 : IntKind.i64.wrap (A + (i : Int) % 5) = A + (i : Int) % 5 := by rw [IntKind.wrap_i64]; omega
              have hm4 : (i : Int).tmod 4 = (i : Int) % 4 := by rw [Int.tmod_eq_emod_of_nonneg hi0]
              have hw5 : IntKind.i64.wrap ((i : Int) % 4) = (i : Int) % 4 := by rw [IntKind.wrap_i64]; omega
              have hm3 : (i : Int).tmod 3 = (i : Int) % 3 := by rw [Int.tmod_eq_emod_of_nonneg hi0]
              have hw6 : IntKind.i64.wrap ((i : Int) % 3) = (i : Int) % 3 := by rw [IntKind.wrap_i64]; omega
              have hw7 : IntKind.i64.wrap ((i : Int) % 3 * 2) = (i : Int) % 3 * 2 := by rw [IntKind.wrap_i64]; omega
              obtain ⟨a2, c2, w2, r2, o2, g2⟩ := app_steps HO.out [⟨1, A - 1, n7⟩, ⟨0, 0, []⟩, ⟨2, A + (i : Int) % 5, []⟩] 3 rfl (by omega) hbi.size
              obtain ⟨L2, hL2'⟩ : ∃ L2, L2 = L ++ [(⟨1, A - 1, n7⟩ : Sx), ⟨0, 0, []⟩, ⟨2, A + (i : Int) % 5, []⟩] := ⟨_, rfl⟩
              have hL2 : L.length + 3 = L2.length := by rw [hL2']; simp
              rw [← hL2'] at o2
              rw [hL2] at r2 o2
              have HR2 := hid r2
              have HO2 := hid o2
              have HB2 : Hid (Below w.heap.size w w2) := hid (below_own hbi hbi.size HO.out g2)
              have HL2 : Hid (L2.length ≤ 5 * i + 3) := hid (by omega)
              obtain ⟨a3, c3, w3, r3, o3, g3⟩ := app_steps HO2.out [⟨1, A - 1, n7⟩, ⟨(i : Int) % 3 * 2, A, []⟩] 2 rfl (by omega) HB2.out.size
              obtain ⟨L3, hL3'⟩ : ∃ L3, L3 = L2 ++ [(⟨1, A - 1, n7⟩ : Sx), ⟨(i : Int) % 3 * 2, A, []⟩] := ⟨_, rfl⟩
              have hL3 : L2.length + 2 = L3.length := by rw [hL3']; simp
              rw [← hL3'] at o3
              rw [hL3] at r3 o3
              have HR3 := hid r3
              have HO3 := hid o3
              have HB3 : Hid (Below w.heap.size w w3) := hid (below_own HB2.out HB2.out.size HO2.out g3)
              have HL3 : Hid (L3.length ≤ 5 * (i + 1)) := hid (by omega)
              clear hbi ho hLl hi hi34 r2 o2 g2 hL2' hA hL2 r3 o3 g3 hL3 hL3'
              by_cases h4 : i % 4 = 0
              · have h4' : (i : Int) % 4 = 0 := by omega
                clear h4
                go_wp2_with (first | (at_builtin; refine wpList_append_run rfl (.tmp 76) (.tmp 86) 28 28 rfl _ _ (.slice a2 L2.length c2) w2 rfl rfl HR2.out ?_) | (at_builtin; refine wpList_append_run rfl (.tmp 91) (.tmp 100) 28 28 rfl _ _ (.slice a3 L3.length c3) w3 rfl rfl HR3.out ?_) | fail)
                go_roundg (34 - (i + 1))
                case measure => have := HI.out; omega
                case rel => exact ⟨i + 1, a3, c3, L3, rfl, HI.out, by go_num, rfl, HO3.out, HL3.out, HB3.out⟩
              · have h4' : (i : Int) % 4 ≠ 0 := by omega
                have h4'' : ((i : Int) % 4 == 0) = false := by simpa using h4'
                clear h4
                go_wp2_with (first | (at_builtin; refine wpList_append_run rfl (.tmp 76) (.tmp 86) 28 28 rfl _ _ (.slice a2 L2.length c2) w2 rfl rfl HR2.out ?_) | fail)
                go_roundg (34 - (i + 1))
                case measure => have := HI.out; omega
                case rel => exact ⟨i + 1, a2, c2, L2, rfl, HI.out, by go_num, rfl, HO2.out, by have := HL2.out; omega, HB2.out⟩
            · have hie : i = 34 := by omega
              subst hie
              clear hbi ho hLl hi hi34
              obtain ⟨wq, rfl⟩ : ∃ wq, wq = wr := ⟨_, rfl⟩
              obtain ⟨N, hN⟩ : ∃ N, N = L.length := ⟨_, rfl⟩
              have HSC := hid (scr_own HO.out)
              have HCAP : Hid (N ≤ c ∧ (0 < N → ∃ g, a = some ⟨g, 0, none⟩)) := hid (by
                rcases HO.out.2 with ⟨h1, h0⟩ | ⟨k, cap, cur, hv, hb, hg, hc1, hc2, hc3, hc4⟩
                · exact ⟨by omega, fun h => by omega⟩
                · injection hv with q1 q2 q3; exact ⟨by omega, fun _ => ⟨k, q1⟩⟩)
              rw [← hN] at HSC ⊢
              have HN : Hid (N ≤ 170) := hid (by have := HLL.out; omega)
              clear HO HLL hN
              go_wp2_with fail
              go_loopg [9] N (fun gg v9 wr => ∃ n : Nat, gg = N - n ∧ n ≤ 1000 ∧ v9 = .int .i64 (n : Int) ∧ Below wq.heap.size wq wr)
              case atStart => exact ⟨0, rfl, by omega, rfl, Below.refl _ _⟩
              case round =>
                obtain ⟨n, rfl, hn, rfl, hbn⟩ := hrel
                have HBN := hid hbn
                have hn0 : (0 : Int) ≤ (n : Int) := Int.natCast_nonneg _
                have hw1 : IntKind.i64.wrap ((n : Int) + 80) = (n : Int) + 80 := by rw [IntKind.wrap_i64]; omega
                by_cases hnN : n + 80 ≤ N
                · have HNN := hid hnN
                  have hle : (n : Int) + 80 ≤ (N : Int) := by omega
                  obtain ⟨g, rfl⟩ := HCAP.out.2 (by omega)
                  have hcap : (n : Int) + 80 ≤ (c : Int) := by have := HCAP.out.1; omega
                  have hw2 : IntKind.i64.wrap ((n : Int) + 7) = ((n + 7 : Nat) : Int) := by rw [IntKind.wrap_i64]; omega
                  have HCUT : Hid (∀ c', Scr wr (.slice (some ⟨g, 0 + n * 3, none⟩) 80 c') ((L.drop n).take 80) ∧ ((L.drop n).take 80).length = 80) := hid (fun c' => (HSC.out.below hbn).cut n 80 hnN (by omega) c')
                  clear hbn hn hnN
                  go_wp2_with fail
                  refine (H4.out ((L.drop n).take 80) (some ⟨g, n * 3, none⟩) 80 (c - n) wr (HCUT.out 0).2.symm (by have := (HCUT.out (c - n)).1; rwa [Nat.zero_add] at this) (HBI.out.trans (HBN.out.mono HBI.out.size))).mono ?_
                  rintro e wa ⟨rfl, hq⟩
                  have HBA := hid (HBN.out.trans (hq.mono HBN.out.size))
                  clear hq
                  go_wp2_with fail
                  go_roundg (N - (n + 7))
                  case measure => have := HNN.out; omega
                  case rel => exact ⟨n + 7, rfl, by have := HNN.out; have := HN.out; omega, by go_num, HBA.out⟩
                · have hle : ¬ (n : Int) + 80 ≤ (N : Int) := by omega
                  have HBX := hid (HBI.out.trans (HBN.out.mono HBI.out.size))
                  clear hbn hn hnN
                  go_wp2_with fail
                  generalize hW10 : wr.alloc _ = W10
                  have HSF : Hid (Scr W10 (.slice (some ⟨wr.heap.size, 0, none⟩) 10 10) free) := hid (by rw [← hW10]; exact scr_new (L := free) (heap_alloc_new wr _))
                  have HBY : Hid (Below w.heap.size w W10) := hid (by rw [← hW10]; exact HBX.out.alloc HBX.out.size _)
                  clear hW10
                  refine (H4.out free _ 10 10 W10 rfl HSF.out HBY.out).mono ?_
                  rintro e wa ⟨rfl, hq⟩
                  have HBA := hid (HBY.out.trans (hq.mono HBY.out.size))
                  clear hq
                  go_wp2_with fail
                  refine (H6.out wa HBA.out).mono ?_
                  rintro e wb ⟨rfl, hq⟩
                  have HBB := hid (HBA.out.trans (hq.mono HBA.out.size))
                  clear hq
                  go_wp2_with fail
                  refine (HW.out wb HBB.out).mono ?_
                  rintro e wc ⟨rfl, hq⟩
                  have HBC := hid hq
                  clear hq
                  go_wp2_with fail
                  go_ret
                  exact ⟨rfl, HBC.out⟩
end Go.Proofs.YtmdiggbbgcjcnaaDoor
