/- The words of a block, as the document makes them. -/
import Derived.Test.YtkeppcpplkdkaaaDoorFrame
namespace Go.Proofs.YtkeppcpplkdkaaaDoor
open Go.RowKit

theorem s4_of {w w' : World} {B bb k0 k1 k2 k3 : Nat} {x0 x1 x2 x3 : Value} (h : w.cell? ⟨bb, k0, none⟩ = some x0 ∧ w.cell? ⟨bb, k1, none⟩ = some x1 ∧ w.cell? ⟨bb, k2, none⟩ = some x2 ∧ w.cell? ⟨bb, k3, none⟩ = some x3) (hb : Below B w w') (hlt : bb < B) :
    w'.cell? ⟨bb, k0, none⟩ = some x0 ∧ w'.cell? ⟨bb, k1, none⟩ = some x1 ∧ w'.cell? ⟨bb, k2, none⟩ = some x2 ∧ w'.cell? ⟨bb, k3, none⟩ = some x3 :=
  ⟨(hb.cell (p := ⟨bb, k0, none⟩) hlt).trans h.1, (hb.cell (p := ⟨bb, k1, none⟩) hlt).trans h.2.1, (hb.cell (p := ⟨bb, k2, none⟩) hlt).trans h.2.2.1, (hb.cell (p := ⟨bb, k3, none⟩) hlt).trans h.2.2.2⟩

set_option maxHeartbeats 4000000 in
set_option maxRecDepth 100000 in
theorem words_any (b : Bs) (w : World) (bb bo bc : Nat) (hb : At w bb bo b) (hl : b.length = 64) : Calls Tryd.prog 23 #[.slice (some ⟨bb, bo, none⟩) 64 bc] w fun en w' =>
    ∃ v, en = .returned v ∧ w'.ownsRow w.heap.size 34 1 v 64 (u32s (ws b 64)) ∧ Below w.heap.size w w' := by
  have HB := hid hb
  clear hb
  go_enter Tryd.func23, Tryd.ntmps23
  go_wp2_with fail
  go_loopg [3, 4] 16 (fun gg v iv wr => ∃ n : Nat, n ≤ 16 ∧ gg = 16 - n ∧ iv = .int .i64 ((4 * n : Nat) : Int) ∧ (∃ ao kn kk, v = .slice ao kn kk) ∧ wr.ownsRow w.heap.size 34 1 v n (u32s (ws b n)) ∧ Below w.heap.size w wr)
  case atStart => exact ⟨0, by omega, rfl, rfl, ⟨_, _, _, rfl⟩, World.ownsRow_nil _ _ _ _, Below.refl _ _⟩
  case round =>
    obtain ⟨n, hn, rfl, rfl, ⟨ao, kn, kk, rfl⟩, hown, hbel⟩ := hrel
    have HO := hid hown
    have HBL := hid hbel
    clear hown hbel
    obtain ⟨k, hk⟩ : ∃ k, k = 4 * n := ⟨_, rfl⟩
    rw [← hk]
    by_cases hnl : n < 16
    · have hk0 : (k : Int) < 64 := by omega
      have hk1 : (k : Int) + 1 < 64 := by omega
      have hk2 : (k : Int) + 2 < 64 := by omega
      have hk3 : (k : Int) + 3 < 64 := by omega
      have hw1 : IntKind.i64.wrap ((k : Int) + 1) = (k : Int) + 1 := by rw [IntKind.wrap_i64]; omega
      have hw2 : IntKind.i64.wrap ((k : Int) + 2) = (k : Int) + 2 := by rw [IntKind.wrap_i64]; omega
      have hw3 : IntKind.i64.wrap ((k : Int) + 3) = (k : Int) + 3 := by rw [IntKind.wrap_i64]; omega
      have ht1 : ((k : Int) + 1).toNat = k + 1 := by omega
      have ht2 : ((k : Int) + 2).toNat = k + 2 := by omega
      have ht3 : ((k : Int) + 3).toNat = k + 3 := by omega
      have hp1 : (0 : Int) ≤ (k : Int) + 1 := by omega
      have hp2 : (0 : Int) ≤ (k : Int) + 2 := by omega
      have hp3 : (0 : Int) ≤ (k : Int) + 3 := by omega
      have HK := hid hk
      have HN := hid hnl
      have HM1 : Hid (n + 1 ≤ maxLen ∧ (n + 1) * 4 ≤ 140737488355328) := by apply hid; unfold maxLen; omega
      have HMS : Hid (16 - (n + 1) < 16 - n) := by apply hid; omega
      have HN1 : Hid (n + 1 ≤ 16) := by apply hid; omega
      have HIV : Hid ((.int .i64 ((k : Int) + 4) : Value) = .int .i64 ((4 * (n + 1) : Nat) : Int)) := by apply hid; rw [hk]; congr 1
      have HWS : Hid (u32s (ws b (n + 1)) = u32s (ws b n) ++ [.int .u32 (wd (byt b k) (byt b (k + 1)) (byt b (k + 2)) (byt b (k + 3)))]) := by apply hid; rw [ws, if_pos hnl, hk]; simp
      have HS1 : Hid (w.cell? ⟨bb, bo + k, none⟩ = some (.int .u8 (byt b k)) ∧ w.cell? ⟨bb, bo + (k + 1), none⟩ = some (.int .u8 (byt b (k + 1))) ∧ w.cell? ⟨bb, bo + (k + 2), none⟩ = some (.int .u8 (byt b (k + 2))) ∧ w.cell? ⟨bb, bo + (k + 3), none⟩ = some (.int .u8 (byt b (k + 3)))) := hid ⟨HB.out.2 _ (by omega), HB.out.2 _ (by omega), HB.out.2 _ (by omega), HB.out.2 _ (by omega)⟩
      have HLT : Hid (bb < w.heap.size ∧ bb < wr.heap.size ∧ w.heap.size ≤ wr.heap.size) := hid ⟨HB.out.1, Nat.lt_of_lt_of_le HB.out.1 HBL.out.size, HBL.out.size⟩
      have HS0 := hid (s4_of HS1.out HBL.out HLT.out.1)
      obtain ⟨c0, c1, c2, c3⟩ := HS0.out
      obtain ⟨i0, hi, hz0, hz1, hz2⟩ := info_parts Tryd.info34
      have hown1 := fun o => ownsRow_new HO.out o
      clear hk hnl hn
      go_wp2_with fail
      go_region_held3 (fun wx => wx.cell? ⟨bb, bo + k, none⟩ = some (.int .u8 (byt b k)) ∧ wx.cell? ⟨bb, bo + (k + 1), none⟩ = some (.int .u8 (byt b (k + 1))) ∧ wx.cell? ⟨bb, bo + (k + 2), none⟩ = some (.int .u8 (byt b (k + 2))) ∧ wx.cell? ⟨bb, bo + (k + 3), none⟩ = some (.int .u8 (byt b (k + 3)))) (first | exact HS0.out | exact s4_of HS0.out (below_alloc_self' wr _) HLT.out.2.1 | exact s4_of HS0.out (below_alloc_drew wr _) HLT.out.2.1) (first | (refine step_append_mine rfl (.tmp 14) (.tmp 44) 40 rfl 34 i0 _ 1 4 Tryd.underlying40 hi hz0 hz1 hz2 rfl (by decide) w.heap.size (.slice ao kn kk) n (u32s (ws b n)) rfl (hown1 _) ⟨wr.heap.size, 0, none⟩ 1 1 [_] rfl rfl (cell_one_new _ _ _) (by intro u hu; simp at hu; subst hu; rfl) HM1.out.1 HM1.out.2 (by have := HLT.out; simp; omega) ?_; intro v' w' hown hgrow; obtain ⟨ao', kn', kk', rfl⟩ := own_slice hown; have HB' := hid (below_grown HBL.out HO.out hgrow); have HO' := hid hown; have HS0 := hid (s4_of HS1.out HB'.out HLT.out.1); clear hown hgrow))
      go_wp2_with fail
      go_roundg (16 - (n + 1))
      case measure => exact HMS.out
      case rel =>
        refine ⟨n + 1, HN1.out, rfl, HIV.out, ⟨ao', kn', kk', rfl⟩, ?_, HB'.out⟩
        rw [HWS.out]
        exact HO'.out
    · have hk0 : ¬ (k : Int) < 64 := by omega
      obtain rfl : n = 16 := by omega
      clear hk hnl hn
      go_wp2_with fail
      go_loopg [3, 5] 48 (fun gg v iv wr => ∃ n : Nat, 16 ≤ n ∧ n ≤ 64 ∧ gg = 64 - n ∧ iv = .int .i64 (n : Int) ∧ (∃ ao kn kk, v = .slice ao kn kk) ∧ wr.ownsRow w.heap.size 34 1 v n (u32s (ws b n)) ∧ Below w.heap.size w wr)
      case atStart => exact ⟨16, by omega, by omega, rfl, rfl, ⟨_, _, _, rfl⟩, HO.out, HBL.out⟩
      case round =>
        clear HO HBL
        obtain ⟨n, hn, hn2, rfl, rfl, ⟨ao, kn, kk, rfl⟩, hown, hbel⟩ := hrel
        obtain ⟨g, kc, hv, hg, hc⟩ := own_u32 hown (ws_len b n) (by omega)
        obtain ⟨rfl, rfl, rfl⟩ : ao = some ⟨g, 0, none⟩ ∧ n = kn ∧ kk = kc := by simpa [eq_comm] using hv
        have HO := hid hown
        have HBL := hid hbel
        clear hown hbel hv
        by_cases hnl : n < 64
        · have hk0 : (n : Int) < 64 := by omega
          have e15 : IntKind.i64.wrap ((n : Int) - 15) = ((n - 15 : Nat) : Int) := by rw [IntKind.wrap_i64]; omega
          have e2 : IntKind.i64.wrap ((n : Int) - 2) = ((n - 2 : Nat) : Int) := by rw [IntKind.wrap_i64]; omega
          have e16 : IntKind.i64.wrap ((n : Int) - 16) = ((n - 16 : Nat) : Int) := by rw [IntKind.wrap_i64]; omega
          have e7 : IntKind.i64.wrap ((n : Int) - 7) = ((n - 7 : Nat) : Int) := by rw [IntKind.wrap_i64]; omega
          have l15 : ((n - 15 : Nat) : Int) < (n : Int) := by omega
          have l2 : ((n - 2 : Nat) : Int) < (n : Int) := by omega
          have l16 : ((n - 16 : Nat) : Int) < (n : Int) := by omega
          have l7 : ((n - 7 : Nat) : Int) < (n : Int) := by omega
          have c15 := hc (n - 15) (by omega)
          have c2 := hc (n - 2) (by omega)
          have c16 := hc (n - 16) (by omega)
          have c7 := hc (n - 7) (by omega)
          have HWS : Hid (u32s (ws b (n + 1)) = u32s (ws b n) ++ [.int .u32 (nx (ws b n) n)]) := by apply hid; rw [ws, if_neg (by omega)]; simp
          have HM1 : Hid (n + 1 ≤ maxLen ∧ (n + 1) * 4 ≤ 140737488355328) := by apply hid; unfold maxLen; omega
          have HMS : Hid (64 - (n + 1) < 64 - n) := by apply hid; omega
          have HN1 : Hid (16 ≤ n + 1 ∧ n + 1 ≤ 64) := by apply hid; omega
          have HIV : Hid ((.int .i64 ((n : Int) + 1) : Value) = .int .i64 ((n + 1 : Nat) : Int)) := by apply hid; simp
          unfold nx at HWS
          generalize n - 15 = n15 at *
          generalize n - 2 = n2 at *
          generalize n - 16 = n16 at *
          generalize n - 7 = n7 at *
          generalize (ws b n).getD n15 0 = x15 at *
          generalize (ws b n).getD n2 0 = x2 at *
          generalize (ws b n).getD n16 0 = x16 at *
          generalize (ws b n).getD n7 0 = x7 at *
          obtain ⟨i0, hi, hz0, hz1, hz2⟩ := info_parts Tryd.info34
          have HLT : Hid (w.heap.size ≤ wr.heap.size) := hid HBL.out.size
          clear hn hn2 hnl hc
          go_wp2_with fail
          go_quiet (fail)
          go_wp2_with fail
          refine (rturn_any x15 7 _ (by decide)).mono ?_
          rintro e w1 ⟨rfl, m, rfl⟩
          go_wp2_with fail
          refine (rturn_any x15 18 _ (by decide)).mono ?_
          rintro e w1 ⟨rfl, m, rfl⟩
          go_wp2_with fail
          refine (rturn_any x2 17 _ (by decide)).mono ?_
          rintro e w1 ⟨rfl, m, rfl⟩
          go_wp2_with fail
          refine (rturn_any x2 19 _ (by decide)).mono ?_
          rintro e w1 ⟨rfl, m, rfl⟩
          go_wp2_with fail
          go_region_law (refine step_append_mine rfl (.tmp 76) (.tmp 92) 40 rfl 34 i0 _ 1 4 Tryd.underlying40 hi hz0 hz1 hz2 rfl (by decide) w.heap.size (.slice (some ⟨g, 0, none⟩) n kk) n (u32s (ws b n)) rfl (ownsRow_same HO.out (fun j hj => Below.heap_alloc wr _ j hj)) ⟨wr.heap.size, 0, none⟩ 1 1 [_] rfl rfl (cell_one_new _ _ _) (by intro u hu; simp at hu; subst hu; rfl) HM1.out.1 HM1.out.2 (by have := HLT.out; simp; omega) ?_; intro v' w' hown hgrow; obtain ⟨ao', kn', kk', rfl⟩ := own_slice hown; have HB' := hid (below_grown' (w := wr.drewN _) (below_drewN HBL.out _) (ownsRow_same HO.out (fun _ _ => rfl)) hgrow); have HO' := hid hown; clear hown hgrow)
          all_goals
            go_wp2_with fail
            go_roundg (64 - (n + 1))
            case measure => exact HMS.out
            case rel =>
              refine ⟨n + 1, HN1.out.1, HN1.out.2, rfl, HIV.out, ⟨ao', kn', kk', rfl⟩, ?_, HB'.out⟩
              rw [HWS.out]
              exact HO'.out
        · have hk0 : ¬ (n : Int) < 64 := by omega
          obtain rfl : n = 64 := by omega
          clear hnl hn hn2
          go_wp2_with fail
          go_ret
          exact ⟨_, rfl, HO.out, HBL.out⟩
end Go.Proofs.YtkeppcpplkdkaaaDoor
