/- The words of letters. -/
import Derived.Test.YtelfogdcijmenaaDoorTab
import Derived.Deep.OwnRows
import Derived.Deep.RegionWith
import Derived.Deep.RegionHeld3
import Derived.Deep.Cut
namespace Go.Proofs.YtelfogdcijmenaaDoor
open Go.RowKit

theorem make_n (n : Nat) (hn : n ≤ 1000000000) (W : World) : (Instr.makeSlice 22 (.int .i64 (n : Int)) (.int .i64 (n : Int))).run Tryd.prog W = .ok (.slice (some ⟨W.heap.size, 0, none⟩) n n) (W.alloc (.cells (bcs (List.replicate n 0)).toArray 5)) := by
  have h := run_make_row' (P := Tryd.prog) 22 5 (.int .u8 0) 1 Tryd.underlying22 Tryd.info5 rfl .i64 .i64 n (by omega) (by omega) W
  rw [h]
  congr 3
  have e : (madeCells #[.int .u8 0] n).toList = bcs (List.replicate n 0) := by rw [toList_madeCells_one]; simp [Lib.byteCells]
  rw [← e, Array.toArray_toList]
theorem store_new {z T : List Value} (hz : z.length = T.length) (h1 : ∀ v ∈ T, v.oneCell' = true) (W : World) : (storeCells ⟨W.heap.size, 0, none⟩ T).run Tryd.prog (W.alloc (.cells z.toArray 62)) = .ok () (W.alloc (.cells T.toArray 62)) := by
  have h := run_storeCells_at Tryd.prog W.heap.size 0 62 T 0 z.toArray (W.alloc (.cells z.toArray 62)) (heap_alloc_new W _) (by simp [hz]) h1
  rw [World.setRow_alloc_new] at h
  simpa [← hz] using h
theorem store_at {z T : List Value} (hz : z.length = T.length) (h1 : ∀ v ∈ T, v.oneCell' = true) {W : World} {g : Nat} (h : W.heap[g]? = some (.cells z.toArray 62 (0, 0))) : (storeCells ⟨g, 0, none⟩ T).run Tryd.prog W = .ok () (W.setRow g T.toArray) := by
  have h := run_storeCells_at Tryd.prog g 0 62 T 0 z.toArray W h (by simp [hz]) h1
  simpa [← hz] using h
/-- the words' row and the table lie there -/
structure Rdy (w : World) (gw gf : Nat) (R T : List Value) (W : World) : Prop where
  hw : W.heap[gw]? = some (.cells R.toArray 5 (0, 0))
  hf : W.heap[gf]? = some (.cells T.toArray 62 (0, 0))
  lw : w.heap.size ≤ gw
  bel : Below w.heap.size w W
theorem drew_heap (w : World) : w.drew.heap = w.heap := rfl
theorem q1_of {w w2 : World} {o : Obj} {z T : List Value} (hz : z.length = T.length) (h1 : ∀ v ∈ T, v.oneCell' = true) (hb : Below ((w.alloc o).alloc (.cells z.toArray 62)).drew.heap.size ((w.alloc o).alloc (.cells z.toArray 62)).drew w2) : (storeCells ⟨w.heap.size + 1, 0, none⟩ T).run Tryd.prog w2 = .ok () (w2.setRow (w.heap.size + 1) T.toArray) := by
  have hs : (w.alloc o).heap.size = w.heap.size + 1 := by simp
  have hn := heap_alloc_new (w.alloc o) (.cells z.toArray 62)
  rw [hs] at hn
  exact store_at hz h1 ((hb.block _ (lt_of_block hn)).trans hn)
theorem q2_of {w w2 : World} {o : Obj} {z T : List Value} (hz : z.length = T.length) (h1 : ∀ v ∈ T, v.oneCell' = true) (hb : Below ((w.alloc (.cells z.toArray 62)).alloc o).drew.heap.size ((w.alloc (.cells z.toArray 62)).alloc o).drew w2) : (storeCells ⟨w.heap.size, 0, none⟩ T).run Tryd.prog w2 = .ok () (w2.setRow w.heap.size T.toArray) := by
  have hn := (Below.heap_alloc (w.alloc (.cells z.toArray 62)) o w.heap.size (by simp)).trans (heap_alloc_new w (.cells z.toArray 62))
  exact store_at hz h1 ((hb.block _ (lt_of_block hn)).trans hn)
theorem q3_of {w w2 : World} {z T : List Value} (hz : z.length = T.length) (h1 : ∀ v ∈ T, v.oneCell' = true) (hb : Below (w.alloc (.cells z.toArray 62)).drew.heap.size (w.alloc (.cells z.toArray 62)).drew w2) (o : Obj) : (storeCells ⟨w.heap.size, 0, none⟩ T).run Tryd.prog (w2.alloc o) = .ok () ((w2.alloc o).setRow w.heap.size T.toArray) := by
  have hn := heap_alloc_new w (.cells z.toArray 62)
  have hn2 := (hb.block _ (lt_of_block hn)).trans hn
  exact store_at hz h1 ((Below.heap_alloc w2 o _ (lt_of_block hn2)).trans hn2)
theorem q4_of {z T : List Value} (hz : z.length = T.length) (h1 : ∀ v ∈ T, v.oneCell' = true) (W : World) (o : Obj) : (storeCells ⟨W.heap.size + 1, 0, none⟩ T).run Tryd.prog ((W.alloc o).alloc (.cells z.toArray 62)) = .ok () ((W.alloc o).alloc (.cells T.toArray 62)) := by
  have h := store_new hz h1 (W.alloc o)
  have hs : (W.alloc o).heap.size = W.heap.size + 1 := by simp
  rw [hs] at h
  exact h
theorem q5_of {z T : List Value} (hz : z.length = T.length) (h1 : ∀ v ∈ T, v.oneCell' = true) (W : World) (o : Obj) : (storeCells ⟨W.heap.size, 0, none⟩ T).run Tryd.prog ((W.alloc (.cells z.toArray 62)).alloc o) = .ok () (((W.alloc (.cells z.toArray 62)).alloc o).setRow W.heap.size T.toArray) :=
  store_at hz h1 ((Below.heap_alloc (W.alloc (.cells z.toArray 62)) o W.heap.size (by simp)).trans (heap_alloc_new W (.cells z.toArray 62)))
theorem below_drew {B : Nat} {w0 w : World} (h : Below B w0 w.drew) : Below B w0 w := ⟨h.os, h.tape, h.output, h.size, h.block⟩
theorem drew_below {w w2 : World} (h : Below w.drew.heap.size w.drew w2) : Below w.heap.size w w2 := ⟨h.os, h.tape, h.output, h.size, h.block⟩
theorem rdy1 {w w2 : World} {R T : List Value} (hb : Below (w.alloc (.cells R.toArray 5)).drew.heap.size (w.alloc (.cells R.toArray 5)).drew w2) : Rdy w w.heap.size w2.heap.size R T (w2.alloc (.cells T.toArray 62)) := by
  have h0 := drew_below hb
  have hn := heap_alloc_new w (.cells R.toArray 5)
  have h1 := (h0.block _ (lt_of_block hn)).trans hn
  have hbb := two_below ((Below.refl w.heap.size w).alloc (Nat.le_refl _) (.cells R.toArray 5)) h0
  exact ⟨(Below.heap_alloc w2 _ _ (lt_of_block h1)).trans h1, heap_alloc_new w2 _, Nat.le_refl _, hbb.alloc hbb.size _⟩
theorem rdy2 {w w2 : World} {R T : List Value} (hb : Below w.drew.heap.size w.drew w2) : Rdy w w2.heap.size (w2.heap.size + 1) R T ((w2.alloc (.cells R.toArray 5)).alloc (.cells T.toArray 62)) := by
  have h0 := drew_below hb
  have hs : (w2.alloc (.cells R.toArray 5)).heap.size = w2.heap.size + 1 := by simp
  have hn := heap_alloc_new (w2.alloc (.cells R.toArray 5)) (.cells T.toArray 62)
  rw [hs] at hn
  have hbb := h0.alloc h0.size (.cells R.toArray 5)
  exact ⟨(Below.heap_alloc _ _ _ (by simp)).trans (heap_alloc_new w2 _), hn, h0.size, hbb.alloc hbb.size _⟩
theorem rdy3 {w w2 : World} {R T z : List Value} (hb : Below w.drew.heap.size w.drew w2) : Rdy w (w2.heap.size + 1) w2.heap.size R T (((w2.alloc (.cells z.toArray 62)).alloc (.cells R.toArray 5)).setRow w2.heap.size T.toArray) := by
  have h0 := drew_below hb
  have hs : (w2.alloc (.cells z.toArray 62)).heap.size = w2.heap.size + 1 := by simp
  have hn := heap_alloc_new (w2.alloc (.cells z.toArray 62)) (.cells R.toArray 5)
  rw [hs] at hn
  have hbb := h0.alloc h0.size (.cells z.toArray 62)
  exact ⟨(setRow_ne (by omega)).trans hn, setRow_same ((Below.heap_alloc (w2.alloc (.cells z.toArray 62)) (.cells R.toArray 5) _ (by simp)).trans (heap_alloc_new w2 _)), by have := h0.size; omega, below_setRow (hbb.alloc hbb.size _) h0.size⟩
theorem rdy4 {w w2 : World} {R T z : List Value} (hb : Below ((w.alloc (.cells R.toArray 5)).alloc (.cells z.toArray 62)).drew.heap.size ((w.alloc (.cells R.toArray 5)).alloc (.cells z.toArray 62)).drew w2) : Rdy w w.heap.size (w.heap.size + 1) R T (w2.setRow (w.heap.size + 1) T.toArray) := by
  have h0 := drew_below hb
  have hs : (w.alloc (.cells R.toArray 5)).heap.size = w.heap.size + 1 := by simp
  have hn := heap_alloc_new (w.alloc (.cells R.toArray 5)) (.cells z.toArray 62)
  rw [hs] at hn
  have hn0 := (Below.heap_alloc (w.alloc (.cells R.toArray 5)) (.cells z.toArray 62) w.heap.size (by simp)).trans (heap_alloc_new w _)
  have hbb := two_below (((Below.refl w.heap.size w).alloc (Nat.le_refl _) (.cells R.toArray 5)).alloc (by simp) (.cells z.toArray 62)) h0
  exact ⟨(setRow_ne (by omega)).trans ((h0.block _ (lt_of_block hn0)).trans hn0), setRow_same ((h0.block _ (lt_of_block hn)).trans hn), Nat.le_refl _, below_setRow hbb (by omega)⟩
theorem rdy5 {w w2 : World} {R T z : List Value} (hb : Below ((w.alloc (.cells z.toArray 62)).alloc (.cells R.toArray 5)).drew.heap.size ((w.alloc (.cells z.toArray 62)).alloc (.cells R.toArray 5)).drew w2) : Rdy w (w.heap.size + 1) w.heap.size R T (w2.setRow w.heap.size T.toArray) := by
  have h0 := drew_below hb
  have hs : (w.alloc (.cells z.toArray 62)).heap.size = w.heap.size + 1 := by simp
  have hn := heap_alloc_new (w.alloc (.cells z.toArray 62)) (.cells R.toArray 5)
  rw [hs] at hn
  have hn0 := (Below.heap_alloc (w.alloc (.cells z.toArray 62)) (.cells R.toArray 5) w.heap.size (by simp)).trans (heap_alloc_new w _)
  have hbb := two_below (((Below.refl w.heap.size w).alloc (Nat.le_refl _) (.cells z.toArray 62)).alloc (by simp) (.cells R.toArray 5)) h0
  exact ⟨(setRow_ne (by omega)).trans ((h0.block _ (lt_of_block hn)).trans hn), setRow_same ((h0.block _ (lt_of_block hn0)).trans hn0), by omega, below_setRow hbb (Nat.le_refl _)⟩
theorem rdy6 {w w2 : World} {R T z : List Value} (hb : Below (w.alloc (.cells z.toArray 62)).drew.heap.size (w.alloc (.cells z.toArray 62)).drew w2) : Rdy w w2.heap.size w.heap.size R T ((w2.alloc (.cells R.toArray 5)).setRow w.heap.size T.toArray) := by
  have h0 := drew_below hb
  have hn := heap_alloc_new w (.cells z.toArray 62)
  have h1 := (h0.block _ (lt_of_block hn)).trans hn
  have hbb := two_below ((Below.refl w.heap.size w).alloc (Nat.le_refl _) (.cells z.toArray 62)) h0
  have hlt := lt_of_block h1
  exact ⟨(setRow_ne (by omega)).trans (heap_alloc_new w2 _), setRow_same ((Below.heap_alloc w2 _ _ hlt).trans h1), hbb.size, below_setRow (hbb.alloc hbb.size _) (Nat.le_refl _)⟩
theorem bcs_cell1 (l : Bs) : ∀ v ∈ bcs l, v.oneCell' = true := by
  intro v hv
  simp [Lib.byteCells] at hv
  obtain ⟨_, _, rfl⟩ := hv
  rfl
set_option maxRecDepth 100000 in
set_option maxHeartbeats 4000000 in
theorem wof_any (s : Bs) (w : World) (hm : s.length ≤ 1000000) : Calls Tryd.prog 37 #[St s] w fun e w' => ∃ ao cap, e = .returned (.slice ao s.length cap) ∧ w'.ownsRow w.heap.size 5 1 (.slice ao s.length cap) s.length (bcs (s.map wordOf)) ∧ Below w.heap.size w w' := by
  have hs := st_size s
  obtain ⟨n, hn⟩ : ∃ n, n = s.length := ⟨_, rfl⟩
  rw [← hn] at hs hm ⊢
  have HN := hid hn
  clear hn
  have hmk := make_n n (by omega)
  have HT := hid tab_any
  have hz := zero62
  obtain ⟨z0, hz0⟩ : ∃ z, z = fillK 0 := ⟨_, rfl⟩
  rw [← hz0] at hz
  have hzl : z0.length = 256 := by rw [hz0]; exact fill_len 0 (by omega)
  obtain ⟨T, hT⟩ : ∃ T, T = bcs (tabK 32) := ⟨_, rfl⟩
  rw [← hT] at HT
  clear hz0
  have hTl : T.length = 256 := by rw [hT, bcs_len, tab_len]
  have hst := store_new (z := bcs z0) (T := T) (by rw [bcs_len, hTl]; exact hzl) (by rw [hT]; exact bcs_cell1 _)
  have HTL := hid hTl
  have HZT : Hid ((bcs z0).length = T.length) := hid (by rw [bcs_len, hTl]; exact hzl)
  have HT1 : Hid (∀ v ∈ T, v.oneCell' = true) := hid (by rw [hT]; exact bcs_cell1 _)
  clear hTl hzl
  have HTT := hid hT
  clear hT
  obtain ⟨R, hR⟩ : ∃ R, R = bcs (List.replicate n 0) := ⟨_, rfl⟩
  rw [← hR] at hmk
  have HR := hid hR
  clear hR
  go_enter Tryd.func37, Tryd.ntmps37
  go_wp2_with fail
  go_cut [3, 4] from 6 (fun v3 v4 wc => ∃ gw gf, v3 = .slice (some ⟨gw, 0, none⟩) n n ∧ v4 = .pointer (some ⟨gf, 0, none⟩) ∧ Rdy w gw gf R T wc)
  case first =>
    have q4 := q4_of HZT.out HT1.out
    have q5 := q5_of HZT.out HT1.out
    go_region_with (first | (go_at_call 49; refine (HT.out _).mono ?_; rintro e w2 ⟨rfl, hb2⟩; (first | (have q1 := q1_of HZT.out HT1.out hb2) | (have q2 := q2_of HZT.out HT1.out hb2) | (have q3 := q3_of HZT.out HT1.out hb2) | skip); have HB2 := hid hb2; clear hb2))
    all_goals
      go_wp2_with fail
      go_meet
      case rel => first | exact ⟨_, _, rfl, rfl, rdy1 HB2.out⟩ | exact ⟨_, _, rfl, rfl, rdy2 HB2.out⟩ | exact ⟨_, _, rfl, rfl, rdy3 HB2.out⟩ | exact ⟨_, _, rfl, rfl, rdy4 HB2.out⟩ | exact ⟨_, _, rfl, rfl, rdy5 HB2.out⟩ | exact ⟨_, _, rfl, rfl, rdy6 HB2.out⟩
  case rest =>
    obtain ⟨gw, gf, rfl, rfl, hr⟩ := hcut
    have HLT : Hid (T.length = 256) := HTL
    have HRR := HR
    clear hz hst hmk
    have hgl := hr.lw
    have hne : gw ≠ gf := fun e => by
      have h1 := hr.hw
      rw [e, hr.hf] at h1
      cases h1
    have HRD := hid hr
    clear hr
    go_wp2_with fail
    go_loopg [5, 12] n (fun gg v5 v12 wr => ∃ i : Nat, i ≤ n ∧ gg = n - i ∧ v12 = .int .i64 (i : Int) ∧ wr.heap[gw]? = some (.cells (bcs ((s.take i).map wordOf ++ List.replicate (n - i) 0)).toArray 5 (0, 0)) ∧ wr.heap[gf]? = some (.cells T.toArray 62 (0, 0)) ∧ Below w.heap.size w wr)
    case atStart => exact ⟨0, by omega, by omega, rfl, by have h1 := HRD.out.hw; rw [HRR.out] at h1; exact h1, HRD.out.hf, HRD.out.bel⟩
    case round =>
      obtain ⟨i, hi, rfl, rfl, h0, h1, hbel⟩ := hrel
      clear HRD
      by_cases hin : i < n
      · have hi1 : (i : Int) < (n : Int) := by omega
        have his : i < s.length := by rw [← HN.out]; exact hin
        have hget : (⟨s.toArray⟩ : ByteArray)[i]'(by rw [hs]; exact hin) = s[i] := rfl
        have HMT := hid (map_take_succ wordOf s i his)
        generalize s[i] = x at *
        have hx8 := x.toNat_lt
        have hc1 : wr.cell? ⟨gf, x.toNat, none⟩ = some (By (wordOf x)) := by
          rw [HTT.out] at h1
          rw [← tab_get x]
          exact blk_cell h1 _
        have hlen : ((s.take i).map wordOf ++ List.replicate (n - i) 0).length = n := by simp; omega
        have hc0 := blk_cell h0 (by rw [hlen]; exact hin)
        generalize ((s.take i).map wordOf ++ List.replicate (n - i) 0)[i]'(by rw [hlen]; exact hin) = old at hc0
        have hfz := frozen_of_heap h0 i
        have hset := blk_set h0 i (wordOf x)
        have hsl : ((s.take i).map wordOf ++ List.replicate (n - i) 0).set i (wordOf x) = (s.take (i + 1)).map wordOf ++ List.replicate (n - (i + 1)) 0 := by
          rw [HMT.out, List.set_append_right _ _ (by simp; omega)]
          have e : n - i = (n - (i + 1)) + 1 := by omega
          have e2 : i - ((s.take i).map wordOf).length = 0 := by simp; omega
          rw [e2, e, List.replicate_succ, List.set_cons_zero, List.append_assoc]
          rfl
        rw [hsl] at hset
        have HSET := hid hset
        have HS1 : Hid ((wr.setCell ⟨gw, i, none⟩ (By (wordOf x))).heap[gf]? = some (.cells T.toArray 62 (0, 0))) := hid (by rw [Below.heap_setCell _ _ _ _ (fun e => hne e.symm)]; exact h1)
        have HBE := hid (below_set hbel hgl i (By (wordOf x)))
        generalize wordOf x = y at *
        have hx256 : (x.toNat : Int) < 256 := by omega
        clear h0 h1 hbel hset hsl hlen
        go_wp2_with fail
        go_roundg (n - (i + 1))
        case measure => omega
        case rel => exact ⟨i + 1, by omega, rfl, by go_num, HSET.out, HS1.out, HBE.out⟩
      · have hi1 : ¬ (i : Int) < (n : Int) := by omega
        have hie : i = n := by omega
        subst hie
        rw [Nat.sub_self, List.replicate_zero, List.append_nil, List.take_of_length_le (by rw [← HN.out]; exact Nat.le_refl _)] at h0
        have H0 := hid h0
        have HBE := hid hbel
        clear h0 h1 hbel
        go_wp2_with fail
        go_ret
        refine ⟨some ⟨gw, 0, none⟩, i, rfl, ⟨by rw [bcs_len, List.length_map, ← HN.out, Nat.mul_one], Or.inr ⟨gw, i, _, rfl, hgl, H0.out, Nat.le_refl _, by unfold maxLen; omega, ?_, ?_⟩⟩, HBE.out⟩
        · rw [List.size_toArray, bcs_len, List.length_map, ← HN.out, Nat.mul_one]
        · rw [Nat.mul_one]
          exact List.take_of_length_le (by rw [bcs_len, List.length_map, ← HN.out]; exact Nat.le_refl _)
end Go.Proofs.YtelfogdcijmenaaDoor
