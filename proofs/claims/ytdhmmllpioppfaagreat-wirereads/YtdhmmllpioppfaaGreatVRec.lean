/- Records. -/
import Derived.Test.YtdhmmllpioppfaaGreatVRo
namespace Go.Proofs.YtdhmmllpioppfaaGreat.V
open Go.RowKit

/-- what Records answers -/
abbrev recorded (ao : Option Addr) (cap : Nat) (s : List Rec × Nat) : Ending := .returned (.tuple #[.slice ao s.1.length cap, .int .i64 (s.2 : Int)])
theorem one_slice (a : Option Addr) (n c : Nat) : (Value.slice a n c).oneCell' = true := rfl

set_option maxRecDepth 100000 in
set_option maxHeartbeats 4000000 in
theorem records_any (w : World) (v : Value) (b : Bs) (hb : Sl w v b) (hbm : b.length ≤ 140737488355328) :
    Calls Tryz.prog 65 #[v] w fun e w' => ∃ ao cap, e = recorded ao cap (recsB b) ∧ Ro w.heap.size w' (.slice ao (recsB b).1.length cap) (recsB b).1 ∧ Below w.heap.size w w' := by
  obtain ⟨ao, cap, rfl⟩ := hb.shape
  have HB := hid hb
  obtain ⟨A, hA⟩ : ∃ A, A = recsB b := ⟨_, rfl⟩
  rw [← hA]
  have HA := hid hA
  clear hb hA
  by_cases hbig : 32768 < b.length
  · have HAE : Hid (A = ([], 3)) := hid (by rw [HA.out]; unfold recsB; rw [if_pos hbig])
    have hbig' : (32768 : Int) < (b.length : Int) := by omega
    generalize b.length = m at *
    go_enter Tryz.func65, Tryz.ntmps65
    go_wp2_with fail
    go_ret2
    refine ⟨none, 0, ?_⟩
    rw [HAE.out]
    exact ⟨rfl, Ro.nil _ _, Below.refl _ _⟩
  · have HAE : Hid (A = recsGo b.length [] b) := hid (by rw [HA.out]; unfold recsB; rw [if_neg hbig])
    have hbig' : ¬ (32768 : Int) < (b.length : Int) := by omega
    obtain ⟨m, hm⟩ : ∃ m, m = b.length := ⟨_, rfl⟩
    have HM := hid hm
    rw [← hm] at hbig hbig' hbm HB ⊢
    clear hm HA
    go_enter Tryz.func65, Tryz.ntmps65
    go_wp2_with fail
    go_loopg [0, 4, 5, 6, 7] m (fun gg v0 v4 v5 v6 v7 wr => ∃ (L : List Rec) (c : Bs) (al : Option Addr) (cl : Nat) (ab : Option Addr) (cb : Nat), gg = c.length ∧ c.length ≤ m ∧ L.length ≤ 64 ∧ v0 = .slice ab c.length cb ∧ v4 = .slice al L.length cl ∧ Sl w (.slice ab c.length cb) c ∧ Ro w.heap.size wr (.slice al L.length cl) L ∧ A = recsGo c.length L c ∧ Below w.heap.size w wr)
    case atStart => exact ⟨[], b, none, 0, ao, cap, HM.out, by rw [HM.out]; exact Nat.le_refl _, by simp, by rw [← HM.out], rfl, by rw [← HM.out]; exact HB.out, Ro.nil _ _, HAE.out, Below.refl _ _⟩
    case round =>
      obtain ⟨L, c, al, cl, ab, cb, rfl, hcm, hL64, rfl, rfl, hsl, hro, hgo, hbel⟩ := hrel
      have HSL := hid hsl
      have HRO := hid hro
      have HGO := hid hgo
      have HBE := hid hbel
      clear hsl hro hgo hbel HAE HB
      by_cases hc : c = []
      · subst hc
        have HAE : Hid (A = (L, 0)) := hid (by rw [HGO.out]; rfl)
        generalize hn : L.length = n at *
        have HN := hid hn
        clear hn
        go_wp2_with fail
        go_ret2
        refine ⟨al, cl, ?_⟩
        rw [HAE.out]
        simp only [recorded, HN.out]
        exact ⟨rfl, HRO.out, HBE.out⟩
      · have hpos := List.length_pos_iff.2 hc
        have HGO2 := hid (HGO.out.trans (recs_step hc))
        have HNX := hid (next_any wr (.slice al L.length cl) (.slice ab c.length cb) L c HRO.out.rcs (HSL.out.below HBE.out) (by omega) (by omega))
        generalize hnb : nextB L c = nb at *
        have HNB := hid hnb
        obtain ⟨⟨rt, rb⟩, x, e⟩ := nb
        simp only at *
        obtain ⟨q, hq⟩ : ∃ q, q = c.length := ⟨_, rfl⟩
        rw [← hq] at HNX hpos hcm ⊢
        have HQ := hid hq
        obtain ⟨n, hn⟩ : ∃ n, n = L.length := ⟨_, rfl⟩
        rw [← hn] at HNX hL64 HRO ⊢
        have HN := hid hn
        have hpos' : (0 : Int) < (q : Int) := by omega
        rw [← HQ.out] at HSL
        clear hc hq hn hnb HGO
        by_cases he : e = 0
        · subst he
          rw [if_neg (by simp)] at HGO2
          have hsh := next_short HNB.out
          rw [← HQ.out, ← HN.out] at hsh
          go_wp2_with fail
          refine HNX.out.mono ?_
          rintro e w1 ⟨ab1, cb1, ar1, cr1, rfl, ho1, hs1, hb1⟩
          simp only at ho1 hs1 ⊢
          obtain ⟨rbl, hrbl⟩ : ∃ k, k = rb.length := ⟨_, rfl⟩
          obtain ⟨xl, hxl⟩ : ∃ k, k = x.length := ⟨_, rfl⟩
          rw [← hxl] at hs1 hsh HGO2 ⊢
          rw [← hrbl] at ho1 ⊢
          have HRBL := hid hrbl
          have HXL := hid hxl
          have hsz := HBE.out.size
          have HB1 := hid (HBE.out.trans (hb1.mono HBE.out.size))
          have hal := (Below.refl w1.heap.size w1).alloc (Nat.le_refl _) (.cells #[.int .u64 (rt : Int), .slice ab1 rbl cb1] 43)
          have HB2 := hid (HB1.out.alloc HB1.out.size (.cells #[.int .u64 (rt : Int), .slice ab1 rbl cb1] 43))
          have hro2 : Ro w.heap.size (w1.alloc (.cells #[.int .u64 (rt : Int), .slice ab1 rbl cb1] 43)) (.slice al n cl) L := (HRO.out.below hb1).below hal
          have how2 : (w1.alloc (.cells #[.int .u64 (rt : Int), .slice ab1 rbl cb1] 43)).ownsRow w.heap.size 5 1 (.slice ab1 rbl cb1) rb.length (bcs rb) := by
            rw [← HRBL.out]
            exact (own_low ho1 (by omega)).alloc _
          have HS3 : Hid (Sl w (.slice ar1 xl cr1) x) := hid (hs1 w HSL.out)
          obtain ⟨ao3, cap3, w3, hrun, hro3, hb3⟩ := append_rec (t := rt) hro2 how2 (one_slice _ _ _) (by rw [← HN.out]; omega) HB2.out.size
          have hsz2 : (w1.alloc (.cells #[.int .u64 (rt : Int), .slice ab1 rbl cb1] 43)).heap.size = w1.heap.size + 1 := by simp
          rw [← HN.out] at hrun hro3
          rw [hsz2] at hrun
          have HRUN := hid hrun
          have HRO3 := hid hro3
          have HB3 := hid (HB2.out.trans hb3)
          clear hrun hro3 hb3 hro2 how2 ho1 hs1 hb1 hal hrbl hxl hsz2
          go_wp2_with (first | (at_builtin; refine wpList_append_run rfl (.tmp 24) (.tmp 26) 25 rfl (.slice al n cl) (.slice (some ⟨w1.heap.size + 1, 0, none⟩) 1 1) (.slice ao3 (n + 1) cap3) w3 rfl rfl HRUN.out ?_) | fail)
          go_roundg xl
          case measure => have := HQ.out; omega
          case rel =>
            refine ⟨L ++ [(rt, rb)], x, ao3, cap3, ar1, cr1, HXL.out, by rw [← HXL.out]; omega, by simp [← HN.out]; omega, by rw [← HXL.out], by simp [HN.out], by rw [← HXL.out]; exact HS3.out, ?_, by rw [HGO2.out, HXL.out], HB3.out⟩
            have h3 := HRO3.out
            rw [HN.out] at h3
            simpa using h3
        · rw [if_pos he] at HGO2
          have he' : ((e : Int) == 0) = false := by simpa using he
          go_wp2_with fail
          refine HNX.out.mono ?_
          rintro e1 w1 ⟨ab1, cb1, ar1, cr1, rfl, ho1, hs1, hb1⟩
          have HB1 := hid (HBE.out.trans (hb1.mono HBE.out.size))
          clear ho1 hs1 hb1
          generalize rb.length = rbl at *
          generalize x.length = xl at *
          go_wp2_with fail
          go_ret2
          refine ⟨none, 0, ?_⟩
          rw [HGO2.out]
          exact ⟨rfl, Ro.nil _ _, HB1.out.alloc HB1.out.size _⟩
end Go.Proofs.YtdhmmllpioppfaaGreat.V
