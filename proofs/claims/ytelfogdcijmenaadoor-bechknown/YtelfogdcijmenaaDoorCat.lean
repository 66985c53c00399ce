/- slices.Concat of rows of bytes. -/
import Derived.Test.YtelfogdcijmenaaDoorHas
import Derived.Test.YtelfogdcijmenaaDoorLib
namespace Go.Proofs.YtelfogdcijmenaaDoor
open Go.RowKit

theorem own_none (w : World) (B : Nat) : w.ownsRow B 5 1 (.slice none 0 0) 0 (bcs []) := World.ownsRow_nil _ _ _ _
theorem below_drewN {B : Nat} {w0 w : World} (h : Below B w0 w) (n : Nat) : Below B w0 (w.drewN n) := ⟨h.os, h.tape, h.output, h.size, h.block⟩
theorem two_below {w0 w1 w2 : World} (h : Below w0.heap.size w0 w1) (k : Below w1.heap.size w1 w2) : Below w0.heap.size w0 w2 := h.trans (k.mono h.size)
theorem grow_nil (n : Nat) (w : World) (hn : n ≤ 140737488355328) : Calls Tryd.prog 47 #[.slice none 0 0, .int .i64 (n : Int)] w fun e w' => ∃ ao cap, e = .returned (.slice ao 0 cap) ∧ w'.ownsRow w.heap.size 5 1 (.slice ao 0 cap) 0 (bcs []) ∧ Below w.heap.size w w' := by
  by_cases h0 : n = 0
  · subst h0
    refine (Any8.slices_Grow_room Tryd.growB none 0 0 0 w (Nat.le_refl _) (by omega) (by omega) (Nat.le_refl _)).mono ?_
    rintro e w1 ⟨rfl, rfl⟩
    exact ⟨none, 0, rfl, own_none _ _, Below.refl _ _⟩
  · obtain ⟨i0, hi0, hz0, hz1, hz2⟩ := info_get Tryd.info5
    refine (Any8.slices_Grow_grow Tryd.growB i0 (.int .u8 0) hi0 hz0 (by omega) none 0 0 n [] w (Nat.le_refl _) (by omega) (by rw [hz2]; omega) (by omega) (by simp) (fun _ => rfl) (fun a h => by cases h)).mono ?_
    rintro e w1 ⟨rfl, rfl⟩
    have e5 : Tryd.growB_ren.t 25 = 5 := rfl
    rw [e5]
    have hge := grownCap_ge w (0 + n) 0 5
    have hle := grownCap_le_maxLen w (0 + n) 0 5 (by unfold maxLen; omega)
    generalize grownCap w (0 + n) 0 5 = c at *
    refine ⟨_, _, rfl, World.ownsRow_made w.drew _ _ (Nat.le_refl _) hle ?_, ?_⟩
    · simp [Builtin.zeroCells, Value.cells]
      omega
    · have h1 : Below w.heap.size w w.drew := below_drewN (Below.refl _ _) 1
      exact h1.alloc (Nat.le_refl _) _

/-- rows of bytes lie there, in a row -/
def Sls (w : World) (v : Value) (L : List Bs) : Prop :=
  ∃ g cap, v = .slice (some ⟨g, 0, none⟩) L.length cap ∧ L.length ≤ cap ∧ g < w.heap.size ∧ ∀ i (h : i < L.length), ∃ ao c, w.cell? ⟨g, i, none⟩ = some (.slice ao L[i].length c) ∧ Sl w (.slice ao L[i].length c) L[i]
theorem flat_take (L : List Bs) (i : Nat) (h : i < L.length) : (L.take (i + 1)).flatten = (L.take i).flatten ++ L[i] := by
  have e : L.take (i + 1) = L.take i ++ [L[i]] := by rw [List.take_add_one, List.getElem?_eq_getElem h]; rfl
  rw [e, List.flatten_append]
  simp
theorem flat_le (L : List Bs) (i : Nat) : (L.take i).flatten.length ≤ L.flatten.length := by
  conv => rhs; rw [← List.take_append_drop i L, List.flatten_append, List.length_append]
  omega
theorem flat_len {L : List Bs} {i : Nat} (h : i < L.length) : ((L.take i).flatten).length + (L[i]).length = ((L.take (i + 1)).flatten).length := by
  rw [flat_take L i h, List.length_append]

set_option maxRecDepth 100000 in
set_option maxHeartbeats 4000000 in
theorem cat_any (w : World) (v : Value) (L : List Bs) (hL : Sls w v L) (hm : L.flatten.length ≤ 140737488355328) (hn : L.length ≤ 1000000) :
    Calls Tryd.prog 24 #[v] w fun e w' => ∃ ao cap, e = .returned (.slice ao L.flatten.length cap) ∧ w'.ownsRow w.heap.size 5 1 (.slice ao L.flatten.length cap) L.flatten.length (bcs L.flatten) ∧ Below w.heap.size w w' := by
  obtain ⟨g, cap, rfl, hcap, hg, hc⟩ := hL
  have HC := hid hc
  obtain ⟨F, hF⟩ : ∃ F, F = L.flatten := ⟨_, rfl⟩
  rw [← hF] at hm ⊢
  have HF := hid hF
  have HFL := hid (fun i => flat_le L i)
  rw [← hF] at HFL
  obtain ⟨n, hn'⟩ : ∃ n, n = L.length := ⟨_, rfl⟩
  rw [← hn'] at hn hcap ⊢
  have HN := hid hn'
  clear hc hF hn'
  go_enter Tryd.func24, Tryd.ntmps24
  go_wp2_with fail
  go_loop [3, 5, 11] (fun v3 v5 v11 => ∃ k : Nat, k ≤ n ∧ v11 = .int .i64 (k : Int) ∧ ∃ z : Nat, v3 = .int .i64 (z : Int) ∧ Hid (z = ((L.take k).flatten).length)) (fun _ _ v11 => n - (intOf v11).toNat)
  case atStart => exact ⟨0, by omega, rfl, 0, rfl, hid rfl⟩
  case round =>
    obtain ⟨k, hk, rfl, z, rfl, hz⟩ := hrel
    have hzm : z ≤ 140737488355328 := by rw [hz.out]; exact Nat.le_trans (HFL.out k) hm
    by_cases hkn : k < n
    · have hk1 : (k : Int) < (n : Int) := by omega
      have hkL : k < L.length := by rw [← HN.out]; exact hkn
      obtain ⟨ai, ci, hcell, _⟩ := HC.out k hkL
      have HLE := hid (flat_len hkL)
      have hle2 := HFL.out (k + 1)
      generalize L[k].length = m at *
      have hsum : z + m ≤ 140737488355328 := by have h1 := HLE.out; have h2 := hz.out; omega
      have hw : IntKind.i64.wrap ((z : Int) + (m : Int)) = ((z + m : Nat) : Int) := by rw [IntKind.wrap_i64]; omega
      have hnn : ¬ ((z + m : Nat) : Int) < 0 := by omega
      have HZ := hz
      clear hz hle2
      go_wp2_with fail
      go_round
      case rel => exact ⟨k + 1, by omega, by go_num, z + m, by go_num, hid (by have h1 := HLE.out; have h2 := HZ.out; omega)⟩
      case measure => simp [intOf]; omega
    · have hk1 : ¬ (k : Int) < (n : Int) := by omega
      have hzF : Hid (z = F.length) := hid (by rw [hz.out, List.take_of_length_le (by rw [← HN.out]; omega), HF.out])
      clear hz
      go_wp2_with fail
      refine (grow_nil z w hzm).mono ?_
      rintro e w1 ⟨a1, c1, rfl, ho1, hb1⟩
      have HO1 := hid ho1
      have HB1 := hid hb1
      clear ho1 hb1
      go_wp2_with fail
      go_loopg [6, 8, 27] n (fun gg v6 v8 v27 wr => ∃ (i : Nat) (ar : Option Addr) (cr : Nat) (T : Bs), i ≤ n ∧ gg = n - i ∧ v27 = .int .i64 (i : Int) ∧ v6 = .slice ar T.length cr ∧ Hid (T = (L.take i).flatten) ∧ wr.ownsRow w.heap.size 5 1 (.slice ar T.length cr) T.length (bcs T) ∧ Below w.heap.size w wr)
      case atStart => exact ⟨0, a1, c1, [], by omega, by omega, rfl, rfl, hid rfl, HO1.out, HB1.out⟩
      case round =>
        obtain ⟨i, ar, cr, T, hi, rfl, rfl, rfl, hT, how, hbel⟩ := hrel
        have HO := hid how
        have HBE := hid hbel
        clear how hbel HO1 HB1
        have hTm : T.length ≤ 140737488355328 := by rw [hT.out]; exact Nat.le_trans (HFL.out i) hm
        by_cases hin : i < n
        · have hi1 : (i : Int) < (n : Int) := by omega
          have hiL : i < L.length := by rw [← HN.out]; exact hin
          obtain ⟨ai, ci, hcell, hsl⟩ := HC.out i hiL
          have hcell' : wr.cell? ⟨g, i, none⟩ = some (.slice ai L[i].length ci) := by rw [← hcell]; exact World.cell?_of_block (HBE.out.block g hg)
          have HLE := hid (flat_len hiL)
          have HFT := hid (flat_take L i hiL)
          have hle2 := HFL.out (i + 1)
          have hsl' := hsl.below HBE.out
          generalize L[i] = x at *
          have hTx : T.length + x.length ≤ 140737488355328 := by have h1 := HLE.out; rw [← hT.out] at h1; omega
          obtain ⟨a2, c2, w2, hrun, hown, hgr⟩ := append_bytes HO.out hsl' hTx HBE.out.size
          have HRUN := hid hrun
          have HO2 := hid hown
          have HB2 := hid (HBE.out.grown hgr HBE.out.size (fun b h => (HO.out.lt b h).1))
          clear hcell hsl hsl' hle2 hrun hown hgr HO
          obtain ⟨tl, htl⟩ : ∃ tl, tl = T.length := ⟨_, rfl⟩
          obtain ⟨xl, hxl⟩ : ∃ xl, xl = x.length := ⟨_, rfl⟩
          rw [← htl, ← hxl] at HRUN
          rw [← htl]
          rw [← hxl] at hcell'
          rw [← htl] at hTm
          have HTL := hid htl
          clear htl hxl hTx
          obtain ⟨tx, htx⟩ : ∃ tx, tx = (T ++ x).length := ⟨_, rfl⟩
          rw [← htx] at HRUN HO2
          have HTX := hid htx
          clear htx
          go_wp2_with (first | (at_builtin; refine wpList_append_run rfl _ _ 22 rfl _ _ (.slice a2 tx c2) w2 rfl rfl HRUN.out ?_) | fail)
          go_roundg (n - (i + 1))
          case measure => omega
          case rel => exact ⟨i + 1, a2, c2, T ++ x, by omega, rfl, by go_num, by rw [← HTX.out], hid (by rw [HFT.out, hT.out]), by rw [← HTX.out]; exact HO2.out, HB2.out⟩
        · have hi1 : ¬ (i : Int) < (n : Int) := by omega
          have hTF : Hid (T = F) := hid (by rw [hT.out, List.take_of_length_le (by rw [← HN.out]; omega), HF.out])
          clear hT
          obtain rfl := hTF.out
          generalize hT : T.length = tl at *
          go_wp2_with fail
          go_ret
          exact ⟨ar, cr, rfl, HO.out, HBE.out⟩
end Go.Proofs.YtelfogdcijmenaaDoor
