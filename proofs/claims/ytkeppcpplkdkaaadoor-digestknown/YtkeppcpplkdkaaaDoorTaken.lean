/- A block is taken in, as the document says it. -/
import Derived.Test.YtkeppcpplkdkaaaDoorWords
namespace Go.Proofs.YtkeppcpplkdkaaaDoor
open Go.RowKit

set_option maxHeartbeats 4000000 in
set_option maxRecDepth 100000 in
theorem consts_any (w : World) : Calls Tryd.prog 22 #[] w fun en w' => en = .returned (.slice (some ⟨w.heap.size, 0, none⟩) 64 64) ∧ w' = w.alloc (.cells (u32s kc).toArray 34) := by
  go_enter Tryd.func22, Tryd.ntmps22
  go_wp2_with fail
  go_ret
  exact ⟨rfl, rfl⟩

set_option maxHeartbeats 4000000 in
set_option maxRecDepth 100000 in
theorem taken_any (w : World) (lb bb bo bc cap : Nat) (b : Bs) (hb : At w bb bo b) (hl : b.length = 64) (s : S8) (h8 : Eight w lb s) :
    Calls Tryd.prog 16 #[.slice (some ⟨lb, 0, none⟩) 8 cap, .slice (some ⟨bb, bo, none⟩) 64 bc] w fun en w' =>
      ∃ lb', en = .returned (.slice (some ⟨lb', 0, none⟩) 8 8) ∧ Eight w' lb' (tk s b) ∧ Below w.heap.size w w' := by
  have HB := hid hb
  have HE := hid h8
  clear hb h8
  go_enter Tryd.func16, Tryd.ntmps16
  go_wp2_with fail
  refine (consts_any _).mono ?_
  rintro e w1 ⟨rfl, hw1⟩
  have hbl : Below w.heap.size w w1 := by rw [hw1]; exact below_alloc_self' w _
  have hkb : w1.heap[w.heap.size]? = some (.cells (u32s kc).toArray 34 (0, 0)) := by rw [hw1]; exact heap_alloc_new w _
  have HBL := hid hbl
  have HKB := hid hkb
  clear hbl hkb hw1
  go_wp2_with fail
  refine (words_any b _ bb bo bc (HB.out.below HBL.out) hl).mono ?_
  rintro e w2 ⟨v, rfl, hown, hb2⟩
  obtain ⟨g, kk, rfl, hg, hc⟩ := own_u32 hown (ws_len b 64) (by omega)
  have hbw : Below w.heap.size w w2 := HBL.out.trans (hb2.mono HBL.out.size)
  have hkb : w2.heap[w.heap.size]? = some (.cells (u32s kc).toArray 34 (0, 0)) := (hb2.block _ (lt_of_block HKB.out)).trans HKB.out
  have HE2 := hid (HE.out.below hbw)
  obtain ⟨_, d0, d1, d2, d3, d4, d5, d6, d7⟩ := HE2.out
  have HC := hid hc
  have HKC : Hid (∀ i, i < 64 → w2.cell? ⟨w.heap.size, i, none⟩ = some (.int .u32 (kc.getD i 0))) := by
    apply hid; intro i hi; rw [cell_of_heap hkb]; have : kc.length = 64 := rfl; simp [show i < kc.length by omega]
  have HBW := hid hbw
  clear hc hkb hbw hb2 hown HBL HKB HE
  go_wp2_with fail
  go_quiet (fail)
  go_wp2_with fail
  go_loopg [7, 8, 9, 10, 11, 12, 13, 14, 15] 64 (fun gg va vb vc vd ve vf vg vh vt wr => ∃ n : Nat, ∃ a1 b1 c1 e1 f1 g1 h1 i1 : Int, n ≤ 64 ∧ gg = 64 - n ∧ vt = .int .i64 (n : Int) ∧ va = .int .u32 a1 ∧ vb = .int .u32 b1 ∧ vc = .int .u32 c1 ∧ vd = .int .u32 e1 ∧ ve = .int .u32 f1 ∧ vf = .int .u32 g1 ∧ vg = .int .u32 h1 ∧ vh = .int .u32 i1 ∧ (⟨a1, b1, c1, e1, f1, g1, h1, i1⟩ : S8) = rds (ws b 64) s n ∧ ∃ m, wr = w2.drewN m)
  case atStart => exact ⟨0, _, _, _, _, _, _, _, _, by omega, rfl, rfl, rfl, rfl, rfl, rfl, rfl, rfl, rfl, rfl, rfl, _, rfl⟩
  case round =>
    obtain ⟨n, a1, b1, c1, e1, f1, g1, h1, i1, hn, rfl, rfl, rfl, rfl, rfl, rfl, rfl, rfl, rfl, rfl, hst, hS⟩ := hrel
    have HS := hid hS
    have HST := hid hst
    clear hS hst
    by_cases hnl : n < 64
    · have hn' : (n : Int) < 64 := by omega
      have k0 : wr.cell? ⟨w.heap.size, n, none⟩ = some (.int .u32 (kc.getD n 0)) := by obtain ⟨m, rfl⟩ := HS.out; exact HKC.out n hnl
      have k1 : wr.cell? ⟨g, n, none⟩ = some (.int .u32 ((ws b 64).getD n 0)) := by obtain ⟨m, rfl⟩ := HS.out; exact HC.out n hnl
      have HMS : Hid (64 - (n + 1) < 64 - n) := by apply hid; omega
      have HN1 : Hid (n + 1 ≤ 64) := by apply hid; omega
      have HIV : Hid ((.int .i64 ((n : Int) + 1) : Value) = .int .i64 ((n + 1 : Nat) : Int)) := by apply hid; simp
      have HRD : Hid (rds (ws b 64) s (n + 1) = rnd (kc.getD n 0) ((ws b 64).getD n 0) ⟨a1, b1, c1, e1, f1, g1, h1, i1⟩) := by apply hid; rw [rds, HST.out]
      generalize kc.getD n 0 = kk0 at k0 HRD
      generalize (ws b 64).getD n 0 = ww0 at k1 HRD
      clear hnl hn HST
      go_wp2_with fail
      go_quiet (first | (go_at_call 24; exact Calls.quiet_of (rturn_int _ _ _ (by decide) (by decide))))
      go_wp2_with fail
      obtain ⟨x0, hx0⟩ : ∃ x0, x0 = xr kk0 ww0 f1 g1 h1 i1 := ⟨_, rfl⟩
      have HX0 := hid hx0
      unfold xr at hx0
      rw [← hx0]
      clear hx0
      refine (rturn_int _ _ _ (by decide) (by decide)).mono ?_
      rintro e w3 ⟨rfl, m3, rfl⟩
      go_wp2_with fail
      refine (rturn_int _ _ _ (by decide) (by decide)).mono ?_
      rintro e w3 ⟨rfl, m4, rfl⟩
      go_wp2_with fail
      refine (rturn_int _ _ _ (by decide) (by decide)).mono ?_
      rintro e w3 ⟨rfl, m5, rfl⟩
      go_wp2_with fail
      go_roundg (64 - (n + 1))
      case measure => exact HMS.out
      case rel =>
        refine ⟨n + 1, _, _, _, _, _, _, _, _, HN1.out, rfl, HIV.out, rfl, rfl, rfl, rfl, rfl, rfl, rfl, rfl, ?_, drew2 HS.out _⟩
        have ex := HX0.out
        subst ex
        rw [HRD.out]
        rfl
    · have hn' : ¬ (n : Int) < 64 := by omega
      obtain rfl : n = 64 := by omega
      have HE3 : Hid (Eight wr lb s) := by apply hid; obtain ⟨m, rfl⟩ := HS.out; exact HE2.out.below (below_drewN (Below.refl _ _) _)
      have HBR : Hid (Below w.heap.size w wr) := by apply hid; obtain ⟨m, rfl⟩ := HS.out; exact below_drewN HBW.out _
      clear d0 d1 d2 d3 d4 d5 d6 d7
      obtain ⟨hlt3, d0, d1, d2, d3, d4, d5, d6, d7⟩ := HE3.out
      have HTK : Hid (tk s b = addS s ⟨a1, b1, c1, e1, f1, g1, h1, i1⟩) := by apply hid; rw [tk, HST.out]
      clear hn hnl
      go_wp2_with fail
      go_region_held3 (fun wx => wx.cell? ⟨lb, 0, none⟩ = some (.int .u32 s.a) ∧ wx.cell? ⟨lb, 1, none⟩ = some (.int .u32 s.b) ∧ wx.cell? ⟨lb, 2, none⟩ = some (.int .u32 s.c) ∧ wx.cell? ⟨lb, 3, none⟩ = some (.int .u32 s.d) ∧ wx.cell? ⟨lb, 4, none⟩ = some (.int .u32 s.e) ∧ wx.cell? ⟨lb, 5, none⟩ = some (.int .u32 s.f) ∧ wx.cell? ⟨lb, 6, none⟩ = some (.int .u32 s.g) ∧ wx.cell? ⟨lb, 7, none⟩ = some (.int .u32 s.h)) (first | exact HE3.out.all | exact (HE3.out.below (below_alloc_self' wr _)).all | exact (HE3.out.below (below_alloc_drew wr _)).all) (fail)
      all_goals
        go_wp2_with fail
        go_ret
        refine ⟨wr.heap.size, rfl, ?_, ?_⟩
        · rw [HTK.out]
          refine eight_of_heap (t := 34) ?_
          simp only [← IntKind.wrap_u32]
          exact heap_alloc_new wr _
        · exact HBR.out.trans ((below_alloc_drew wr _).mono HBR.out.size)
end Go.Proofs.YtkeppcpplkdkaaaDoor
