/- The law WireCut. -/
import Derived.Test.YtdhmmllpioppfaaWSizeB
import Derived.Test.YtdhmmllpioppfaaWCutM
import Derived.Test.YtdhmmllpioppfaaWWork
namespace Go.Proofs.Ytdhmmllpioppfaa.V
open Go.RowKit

theorem enc_ok {m : Msg} {c : Bs} (h : encR m = (c, 0)) : mayB m = true ∧ c = msgB m ∧ c.length ≤ 32768 := by
  unfold encR at h
  split at h
  · cases h
  · rename_i hm
    split at h
    · cases h
    · cases h
      exact ⟨by simpa using hm, rfl, by omega⟩
set_option maxRecDepth 100000 in
set_option maxHeartbeats 16000000 in
theorem cut_main (w : World) (nv tv mv : Value) (m : Msg) (k0 : Int) (h : Ms w nv tv mv m) (hl : MLen m) (hf : MFit m) (hlt : ∀ t ∈ m.ts, t.length ≤ 140737488355328) :
    Calls Try.prog 4 #[Mv m.k m.ch nv tv m.tx mv, .int .i64 k0] w fun e w' => e = .returned (.bool true) ∧ Below w.heap.size w w' := by
  obtain ⟨an, cn, rfl, _⟩ := h.ns
  obtain ⟨at', ct, rfl, _⟩ := h.ts
  obtain ⟨am, cm, rfl⟩ := h.mo.shape
  have HSZ := hid (fun W (hb : Below w.heap.size w W) => msize_small W _ _ _ m (h.below hb) hl hlt)
  have HWK := hid (fun W => works_any W)
  have hms' : Ms w (.slice an m.ns.length cn) (.slice at' m.ts.length ct) (.slice none 0 0) { m with mo := [] } := ⟨h.ns, h.ts, Rcs.nil w⟩
  have hml' : MLen { m with mo := [] } := ⟨hl.k, hl.ns, hl.ts, hl.ch, hl.tx, ⟨by simp, fun i hi => by simp at hi⟩⟩
  have hmf' : MFit { m with mo := [] } := ⟨hf.k, hf.ns, fun _ h => by cases h⟩
  have HEN := hid (fun W (hb : Below w.heap.size w W) => enc_any W _ _ _ { m with mo := [] } (hms'.below hb) hml')
  have HB0 := hid ((Below.refl w.heap.size w).alloc (Nat.le_refl _) (.cells #[.int .u16 (m.k : Int), St m.ch, .slice an m.ns.length cn, .slice at' m.ts.length ct, St m.tx, .slice am m.mo.length cm] 27))
  obtain ⟨c, ec, hce⟩ : ∃ c e, encR { m with mo := [] } = (c, e) := ⟨_, _, rfl⟩
  have HEC : Hid (ec = 0 → (m.ts.map List.length).sum ≤ 4000 → c.length ≤ 32000 ∧ 0 < c.length ∧ (∀ k, k < c.length → decR (c.take k) = (noM, 80)) ∧ decR (c ++ [1]) = (noM, 80)) := hid (fun h0 hsm => by
    subst h0
    obtain ⟨e1, e2, e3⟩ := enc_ok hce
    have e4 := msg_small e1 rfl hsm
    rw [← e2] at e4
    refine ⟨e4, by rw [e2]; exact msg_pos _, fun k hk => ?_, ?_⟩
    · exact dec_none (by rw [e2]; exact cut_no e1 hmf' rfl (by rw [← e2]; exact hk)) (by rw [List.length_take]; omega)
    · exact dec_none (by rw [e2]; exact more_no e1 hmf' rfl) (by simp; omega))
  rw [hce] at HEN
  clear h hl hf hlt hms' hml' hmf' hce
  go_enter Try.func4, Try.ntmps4
  go_wp2_with fail
  refine (HSZ.out _ HB0.out).mono ?_
  rintro e w1 ⟨⟨r, rfl, hrs⟩, hb1⟩
  have HRS := hid hrs
  have HX1 := hid (box_at hb1)
  have HB1 := hid (box_below hb1)
  clear hb1 hrs HSZ HB0
  by_cases hr : r ≤ 4000
  rotate_left
  · have hr1 : (4000 : Int) < (r : Int) := by omega
    go_wp2_with fail
    refine (HWK.out _).mono ?_
    rintro e w2 ⟨rfl, hb2⟩
    have HB2 := hid (two_low HB1.out hb2)
    clear hb2
    go_wp2_with fail
    go_ret
    exact ⟨rfl, HB2.out⟩
  have hr1 : ¬ (4000 : Int) < (r : Int) := by omega
  have HSM := hid (HRS.out hr)
  have f5 : w1.frozen? ⟨w.heap.size, 5, none⟩ = false := frozen_of_heap HX1.out 5
  have z5 : w1.cell? ⟨w.heap.size, 5, none⟩ = some (.slice am m.mo.length cm) := (cell_of_heap HX1.out 5).trans rfl
  have hx2 : (w1.setCell ⟨w.heap.size, 5, none⟩ (.slice none 0 0)).heap[w.heap.size]? = some (.cells #[.int .u16 (m.k : Int), St m.ch, .slice an m.ns.length cn, .slice at' m.ts.length ct, St m.tx, .slice none 0 0] 27 (0, 0)) := by rw [heap_setCell_same HX1.out]; rfl
  have HX2 := hid hx2
  have HB2 : Hid (Below w.heap.size w (w1.setCell ⟨w.heap.size, 5, none⟩ (.slice none 0 0))) := hid (set1_below HB1.out (Nat.le_refl _) 5 _)
  have d0 : (w1.setCell ⟨w.heap.size, 5, none⟩ (.slice none 0 0)).cell? ⟨w.heap.size, 0, none⟩ = some (.int .u16 (m.k : Int)) := (cell_of_heap hx2 0).trans rfl
  have d1 : (w1.setCell ⟨w.heap.size, 5, none⟩ (.slice none 0 0)).cell? ⟨w.heap.size, 1, none⟩ = some (St m.ch) := (cell_of_heap hx2 1).trans rfl
  have d2 : (w1.setCell ⟨w.heap.size, 5, none⟩ (.slice none 0 0)).cell? ⟨w.heap.size, 2, none⟩ = some (.slice an m.ns.length cn) := (cell_of_heap hx2 2).trans rfl
  have d3 : (w1.setCell ⟨w.heap.size, 5, none⟩ (.slice none 0 0)).cell? ⟨w.heap.size, 3, none⟩ = some (.slice at' m.ts.length ct) := (cell_of_heap hx2 3).trans rfl
  have d4 : (w1.setCell ⟨w.heap.size, 5, none⟩ (.slice none 0 0)).cell? ⟨w.heap.size, 4, none⟩ = some (St m.tx) := (cell_of_heap hx2 4).trans rfl
  have d5 : (w1.setCell ⟨w.heap.size, 5, none⟩ (.slice none 0 0)).cell? ⟨w.heap.size, 5, none⟩ = some (.slice none 0 0) := (cell_of_heap hx2 5).trans rfl
  have HEN2 := hid (HEN.out _ HB2.out)
  clear hx2 HEN
  go_wp2_with fail
  refine HEN2.out.mono ?_
  rintro e w2 ⟨ao, cap, rfl, hown, hb2⟩
  have HSC : Hid (Sl w2 (.slice ao c.length cap) c) := hid (Sl.own hown rfl)
  have HB3 := hid (two_low HB2.out hb2)
  clear hown hb2 HEN2 d0 d1 d2 d3 d4 d5 f5 z5 HX2 HB2
  by_cases he : ec = 0
  rotate_left
  · have he1 : ((ec : Int) == 0) = false := by simpa using he
    have he2 : ¬ (ec : Int) = 0 := by omega
    go_wp2_with fail
    refine (HWK.out _).mono ?_
    rintro e w3 ⟨rfl, hb3⟩
    have HB4 := hid (two_low HB3.out hb3)
    clear hb3
    go_wp2_with fail
    go_ret
    exact ⟨rfl, HB4.out⟩
  subst he
  obtain ⟨hcl, hc0, hct, hcm⟩ := HEC.out rfl HSM.out
  have HCT := hid hct
  have HCM := hid hcm
  have HCL := hid hcl
  clear hct hcm HEC HSM
  obtain ⟨q, hq⟩ : ∃ q, q = c.length := ⟨_, rfl⟩
  have HQ := hid hq
  rw [← hq] at hcl hc0 HSC ⊢
  clear hq
  have hq0 : ((q : Int) == 0) = false := by simpa using (by omega : q ≠ 0)
  have hq1 : ¬ (q : Int) = 0 := by omega
  obtain ⟨a, ha⟩ : ∃ a : Nat, IntKind.u64.wrap k0 = (a : Int) := by
    have h1 : (0 : Int) ≤ IntKind.u64.wrap k0 := by rw [IntKind.wrap_u64]; omega
    exact ⟨(IntKind.u64.wrap k0).toNat, by omega⟩
  have hu2 : IntKind.u64.wrap (q : Int) = (q : Int) := by rw [IntKind.wrap_u64]; omega
  obtain ⟨kk, hkk⟩ : ∃ kk : Nat, kk = a % q := ⟨_, rfl⟩
  have hkq : kk < q := by rw [hkk]; exact Nat.mod_lt _ hc0
  have htm : ((a : Int)).tmod (q : Int) = (kk : Int) := by
    rw [hkk, Int.tmod_eq_emod_of_nonneg (by omega)]
    exact (Int.natCast_emod a q).symm
  clear hkk
  obtain ⟨hr1', hx1⟩ := HSC.out.takeRun kk (by rw [← HQ.out]; omega) HQ.out
  have HD1 := hid (dec_any w2 (.slice ao kk cap) (c.take kk) hx1 (by rw [List.length_take]; have := HCL.out; omega))
  rw [HCT.out kk (by rw [← HQ.out]; exact hkq)] at HD1
  clear hx1 HCT
  have hkc : (kk : Int) < 32768 := by omega
  go_wp2_with fail
  refine HD1.out.mono ?_
  rintro e w3 ⟨nv3, tv3, mv3, rfl, hmo, hb3⟩
  obtain ⟨an3, cn3, rfl⟩ := own_slice hmo.ns
  obtain ⟨at3, ct3, rfl⟩ := own_slice hmo.ts
  obtain ⟨am3, cm3, rfl⟩ := hmo.mo.shape
  have hba : Below w3.heap.size w3 (w3.alloc (.cells #[.int .u16 (noM.k : Int), St noM.ch, .slice an3 noM.ns.length cn3, .slice at3 noM.ts.length ct3, St noM.tx, .slice am3 noM.mo.length cm3] 27)) := (Below.refl _ _).alloc (Nat.le_refl _) _
  have HB4 := hid (two_low HB3.out (two_low hb3 hba))
  have hs4 := HSC.out.below (two_low hb3 hba)
  obtain ⟨a1, c1, w5, hrun1, hown1, hg1⟩ := append_bytes (own_none (w3.alloc (.cells #[.int .u16 (noM.k : Int), St noM.ch, .slice an3 noM.ns.length cn3, .slice at3 noM.ts.length ct3, St noM.tx, .slice am3 noM.mo.length cm3] 27)) (w3.alloc (.cells #[.int .u16 (noM.k : Int), St noM.ch, .slice an3 noM.ns.length cn3, .slice at3 noM.ts.length ct3, St noM.tx, .slice am3 noM.mo.length cm3] 27)).heap.size) hs4 (by have := HCL.out; simp; omega) (Nat.le_refl _)
  rw [List.nil_append, ← HQ.out] at hrun1 hown1
  have HB5 : Hid (Below w.heap.size w w5) := hid (HB4.out.grown hg1 HB4.out.size (fun k h => by cases h))
  have hsz5 := hg1.size
  have hown1a := hown1.alloc (.cells #[.int .u8 1] 5)
  obtain ⟨a2, c2, w6, hrun2, hown2, hg2⟩ := append_bytes (by rw [← HQ.out]; exact hown1a) (sl_new w5 [1]) (by have := HCL.out; simp; omega) (Nat.le_trans hsz5 (by simp))
  have hl1 : (c ++ [1]).length = q + 1 := by rw [HQ.out]; simp
  have HB6 : Hid (Below w.heap.size w w6) := hid ((HB5.out.alloc HB5.out.size (.cells #[.int .u8 1] 5)).grown hg2 (by have := HB5.out.size; simp; omega) (fun k h => by have := (hown1a.lt k h).1; have := HB4.out.size; omega))
  have HD2 := hid (dec_any w6 (.slice a2 (c ++ [1]).length c2) (c ++ [1]) (Sl.own hown2 rfl) (by have := HCL.out; simp; omega))
  rw [HCM.out, hl1] at HD2
  rw [hl1] at hrun2
  have HR1 := hid hrun1
  have HR2 : Hid (∀ ty, (Builtin.append_ #[28, 28] ty #[.slice a1 q c1, .slice (some ⟨w5.heap.size, 0, none⟩) 1 1]).run Try.prog (w5.alloc (.cells #[.int .u8 1] 5)) = .ok (.slice a2 (q + 1) c2) w6) := hid hrun2
  clear hmo hb3 hba hs4 hrun1 hown1 hg1 hsz5 hown1a hrun2 hown2 hg2 hl1 HD1 HCM HCL
  go_wp2_with (first | (at_builtin; refine wpList_append_run rfl (.tmp 43) (.tmp 44) 28 rfl (.slice none 0 0) (.slice ao q cap) (.slice a1 q c1) w5 rfl rfl HR1.out ?_) | (at_builtin; refine wpList_append_run rfl (.tmp 46) (.tmp 47) 28 rfl (.slice a1 q c1) (.slice (some ⟨w5.heap.size, 0, none⟩) 1 1) (.slice a2 (q + 1) c2) w6 rfl rfl HR2.out ?_) | (go_at_call 9; refine HD2.out.mono ?_; rintro e w7 ⟨nv7, tv7, mv7, rfl, hmo7, hb7⟩; obtain ⟨an7, cn7, rfl⟩ := own_slice hmo7.ns; obtain ⟨at7, ct7, rfl⟩ := own_slice hmo7.ts; obtain ⟨am7, cm7, rfl⟩ := hmo7.mo.shape; have HB7 := hid (two_low HB6.out hb7); clear hmo7 hb7) | (go_at_call 7; refine (HWK.out _).mono ?_; rintro e w9 ⟨rfl, hb9⟩; have HB9 := hid (two_low (HB7.out.alloc HB7.out.size _) hb9); clear hb9))
  go_ret
  exact ⟨rfl, HB9.out⟩
end Go.Proofs.Ytdhmmllpioppfaa.V
