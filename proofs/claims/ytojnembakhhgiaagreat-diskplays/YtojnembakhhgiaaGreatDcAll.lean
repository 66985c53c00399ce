import Derived.Test.YtojnembakhhgiaaGreatNaAll
import Derived.Test.YtojnembakhhgiaaGreatRmAll
import Derived.Deep.QuietTactic
import Derived.BigQuiet
import Derived.Sort.Walk0
import Derived.Deep.AppendSrc
import Derived.Test.YtojnembakhhgiaaGreatRY
/- A name put into a sorted row of names. -/
namespace Go.Proofs.YtojnembakhhgiaaGreat
open Go.RowKit

def insB (L : List Bs) (a : Nat) (x : Bs) : List Bs := L.take a ++ [x] ++ L.drop a
theorem insB_perm (L : List Bs) (a : Nat) (x : Bs) : (insB L a x).Perm (L ++ [x]) := by
  unfold insB
  have h1 : (L.take a ++ [x] ++ L.drop a).Perm (L.take a ++ (L.drop a ++ [x])) := by
    rw [List.append_assoc]
    exact List.Perm.append_left _ List.perm_append_comm
  rw [← List.append_assoc, List.take_append_drop] at h1
  exact h1
theorem insB_len (L : List Bs) (a : Nat) (x : Bs) : (insB L a x).length = L.length + 1 := by
  have := (insB_perm L a x).length_eq
  simpa using this
theorem insB_pair {L : List Bs} (hs : L.Pairwise (fun a b => decide (a ≤ b) = true)) {a : Nat} {x : Bs} (h1 : ∀ j (hj : j < L.length), a ≤ j → decide (x ≤ L[j]) = true) (h2 : ∀ h : a - 1 < L.length, 0 < a → decide (L[a - 1] ≤ x) = true) (ha : a ≤ L.length) : (insB L a x).Pairwise (fun a b => decide (a ≤ b) = true) := by
  have hg := List.pairwise_iff_getElem.1 hs
  have hlo : ∀ y ∈ L.take a, decide (y ≤ x) = true := fun y hy => by
    obtain ⟨k, hk, rfl⟩ := List.mem_take_iff_getElem.1 hy
    have hka : k < a := by omega
    have hkl : k < L.length := by omega
    by_cases e : k = a - 1
    · subst e
      exact h2 hkl (by omega)
    · exact bs_trans _ _ _ (hg k (a - 1) hkl (by omega) (by omega)) (h2 (by omega) (by omega))
  have hhi : ∀ y ∈ L.drop a, decide (x ≤ y) = true := fun y hy => by
    obtain ⟨k, hk, rfl⟩ := List.getElem_of_mem hy
    rw [List.getElem_drop]
    exact h1 _ _ (by omega)
  unfold insB
  rw [List.append_assoc, List.pairwise_append]
  refine ⟨hs.sublist (List.take_sublist _ _), ?_, fun y hy z hz => ?_⟩
  · rw [List.singleton_append, List.pairwise_cons]
    exact ⟨hhi, hs.sublist (List.drop_sublist _ _)⟩
  · rw [List.singleton_append] at hz
    rcases List.mem_cons.1 hz with e | e
    · subst e
      exact hlo y hy
    · exact bs_trans _ _ _ (hlo y hy) (hhi z e)
/-- some texts behind a row of one's own -/
theorem tx_part {W : World} {base : Nat} {v : Value} {M : List Bs} (h : W.ownsRow base 9 1 v M.length (M.map fun b => St b)) (Z : List Bs) (ad : Addr) (c : Nat) (hs : ∀ j u, (Z.map fun b => St b)[j]? = some u → W.cell? (ad.add j) = some u) (hl : M.length + Z.length ≤ 1000000) (hb : base ≤ W.heap.size) :
    ∃ v' w', (∀ ty, (Builtin.append_ #[41, 41] ty #[v, .slice (some ad) Z.length c]).run Tryz.prog W = .ok v' w') ∧ w'.ownsRow base 9 1 v' (M ++ Z).length ((M ++ Z).map fun b => St b) ∧ W.grownBy w' v.ownBlock := by
  obtain ⟨i0, hi, hz0, hz1, hz2⟩ := info_get info9
  obtain ⟨v', w', h1, h2, h3, _⟩ := run_append_own_at (P := Tryz.prog) W base 41 41 9 i0 _ 1 16 Tryz.underlying41 hi hz0 hz1 hz2 rfl (by decide) v M.length (M.map fun b => St b) h ad Z.length c (Z.map fun b => St b) (by simp) hs (tx_one Z) (by unfold maxLen; omega) (by omega) hb
  exact ⟨v', w', fun ty => h1, by simpa using h2, h3⟩
/-- grown in memory that came later -/
theorem grown_below {w W w' : World} {v : Value} {e n : Nat} {xs : List Value} (hB : Below w.heap.size w W) (h : W.ownsRow w.heap.size 9 e v n xs) (hg : W.grownBy w' v.ownBlock) : Below w.heap.size w w' :=
  ⟨hg.os.trans hB.os, hg.tape.trans hB.tape, hg.output.trans hB.output, Nat.le_trans hB.size hg.size, fun k hk => (hg.block k (Nat.lt_of_lt_of_le hk hB.size) (fun e => by have := (own_ge h e.symm).1; omega)).trans (hB.block k hk)⟩
/-- the three pieces laid one behind another -/
theorem ins_run {w : World} {g cap : Nat} {L : List Bs} (h : Tx w (.slice (some ⟨g, 0, none⟩) L.length cap) L) (h0 : 0 < L.length) (a : Nat) (ha : a ≤ L.length) (x : Bs) (hl : L.length ≤ 1000) :
    ∃ a1 c1 w1 a2 c2 w2, (∀ ty c, (Builtin.append_ #[41, 41] ty #[.slice none 0 0, .slice (some ⟨g, 0, none⟩) a c]).run Tryz.prog w = .ok (.slice a1 a c1) w1)
      ∧ Below w.heap.size w w1 ∧ (∀ ty, (Builtin.append_ #[41, 41] ty #[.slice a1 a c1, .slice (some ⟨w1.heap.size, 0, none⟩) 1 1]).run Tryz.prog (w1.alloc (.cells #[St x] 9)) = .ok (.slice a2 (a + 1) c2) w2)
      ∧ Below w.heap.size w w2 ∧ ∀ ad c, (ad = ⟨g, a, none⟩ ∨ L.length = a) → ∃ a3 c3 w3, (∀ ty, (Builtin.append_ #[41, 41] ty #[.slice a2 (a + 1) c2, .slice (some ad) (L.length - a) c]).run Tryz.prog w2 = .ok (.slice a3 (L.length + 1) c3) w3)
        ∧ Tx w3 (.slice a3 (L.length + 1) c3) (insB L a x) ∧ Below w.heap.size w w3 := by
  obtain ⟨g', cap', e1, _, hcell⟩ := h.at' h0
  cases e1
  have hT : (L.take a).length = a := by simp; omega
  have hD : (L.drop a).length = L.length - a := by simp
  have hsA : ∀ j u, ((L.take a).map fun b => St b)[j]? = some u → w.cell? ((⟨g, 0, none⟩ : Addr).add j) = some u := fun j u hu => by
    have hj : j < a := by have := (List.getElem?_eq_some_iff.1 hu).1; rw [List.length_map, hT] at this; exact this
    rw [Addr.add_mid, Nat.zero_add, (hcell j (by omega)).1, ← hu]
    simp [hj, show j < L.length by omega]
  obtain ⟨v1, w1, r1, o1, g1⟩ := tx_part (W := w) (base := w.heap.size) (v := .slice none 0 0) (M := []) (World.ownsRow_nil _ _ _ _) (L.take a) ⟨g, 0, none⟩ cap hsA (by simp; omega) (Nat.le_refl _)
  have r1' : ∀ ty c, (Builtin.append_ #[41, 41] ty #[.slice none 0 0, .slice (some ⟨g, 0, none⟩) a c]).run Tryz.prog w = .ok v1 w1 := fun ty c => by
    have := r1 ty
    rw [hT] at this
    exact this
  rw [List.nil_append] at o1
  have B1 : Below w.heap.size w w1 := ⟨g1.os, g1.tape, g1.output, g1.size, fun k hk => g1.block k hk (fun e => by cases e)⟩
  obtain ⟨a1, c1, e1⟩ := row_shape2 o1
  obtain ⟨v2, w2, r2, o2, g2⟩ := tx_more x o1 (by omega) B1.size
  have B2 := grown_below B1 o1 g2
  obtain ⟨a2, c2, e2⟩ := row_shape2 o2
  have hL2 : (L.take a ++ [x]).length = a + 1 := by simp; omega
  rw [hT] at e1
  rw [hL2] at e2
  subst e1
  subst e2
  refine ⟨a1, c1, w1, a2, c2, w2, r1', B1, r2, B2, fun ad c had => ?_⟩
  have hsB : ∀ j u, ((L.drop a).map fun b => St b)[j]? = some u → w2.cell? (ad.add j) = some u := fun j u hu => by
    have hj : j < L.length - a := by have := (List.getElem?_eq_some_iff.1 hu).1; rw [List.length_map, hD] at this; exact this
    rcases had with e | e
    · subst e
      have h1 := (hcell (a + j) (by omega)).1
      rw [Addr.add_mid, World.cell?_of_block (B2.block g (World.block_lt_of_cell? w ⟨g, a + j, none⟩ h1)), h1, ← hu]
      simp [show a + j < L.length by omega]
    · omega
  obtain ⟨v3, w3, r3, o3, g3⟩ := tx_part o2 (L.drop a) ad c hsB (by rw [hL2, hD]; omega) B2.size
  have B3 := grown_below B2 o2 g3
  obtain ⟨a3, c3, e3⟩ := row_shape2 o3
  have hL3 : (L.take a ++ [x] ++ L.drop a).length = L.length + 1 := insB_len L a x
  rw [hL3] at e3
  subst e3
  refine ⟨a3, c3, w3, fun ty => by rw [← hD]; exact r3 ty, ?_, B3⟩
  have : w3.ownsRow 0 9 1 (.slice a3 (L.length + 1) c3) (insB L a x).length ((insB L a x).map fun b => St b) := ⟨o3.1, o3.2.imp id (fun ⟨g, cap, cur, h1, _, h3⟩ => ⟨g, cap, cur, h1, Nat.zero_le _, h3⟩)⟩
  exact this
end Go.Proofs.YtojnembakhhgiaaGreat

/- The document's Names. -/
namespace Go.Proofs.YtojnembakhhgiaaGreat
open Go.RowKit

theorem below_drewN {B : Nat} {w0 w : World} (h : Below B w0 w) (n : Nat) : Below B w0 (w.drewN n) := ⟨h.os, h.tape, h.output, h.size, h.block⟩
theorem gt_yes {y x : Bs} (h : (!Op.bytesLess y x && !y == x) = true) : decide (x ≤ y) = true := by
  rw [bytesLess_eq] at h
  simp at h
  simpa using h.1
theorem gt_no {y x : Bs} (h : (!Op.bytesLess y x && !y == x) = false) : decide (y ≤ x) = true := by
  rw [bytesLess_eq] at h
  simp only [decide_eq_true_eq]
  by_cases e : y = x
  · subst e
    exact Std.le_refl y
  · have h2 : y < x := by
      simp [e] at h
      exact h
    exact Std.le_of_lt h2
/-- what Names tells -/
def Nmd (w : World) (s : Ds) (e : Ending) (w' : World) : Prop := ∃ a c, e = .returned (.slice a (namesD s).length c) ∧ Tx w' (.slice a (namesD s).length c) (namesD s) ∧ Below w.heap.size w w'
set_option maxHeartbeats 4000000 in
set_option maxRecDepth 100000 in
theorem rnames_any (w : World) (q : Nat) (s : Ds) (fv ov : Value) (ss : List Value) (h : Rv w q s fv ov ss) : Calls Tryz.prog 37 #[.pointer (some ⟨q, 0, none⟩)] w (Nmd w s) := by
  obtain ⟨i0, k0, hb, _⟩ := h.blk
  have hfew := h.ok.few
  obtain ⟨ao, cap, hfv⟩ := row_shape h.fil
  obtain ⟨n, hn⟩ : ∃ n, n = s.files.length := ⟨_, rfl⟩
  have c0 : w.cell? ⟨q, 0, none⟩ = some (.slice ao n cap) := by rw [hn, ← hfv]; exact (cell_of_heap hb 0).trans rfl
  have c8 : w.cell? ⟨q, 8, none⟩ = some (.bool s.off) := (cell_of_heap hb 8).trans rfl
  have HH := hid h
  have HFV := hid hfv
  have HN := hid hn
  have HNB : Hid (n ≤ 256) := hid (by omega)
  have HQL : Hid (q < w.heap.size) := hid (lt_of_block hb)
  clear h hb hfew hfv hn
  cases hof : s.off with
  | true =>
    rw [hof] at c8
    have HF : Hid (Nmd w s (.returned (.slice none 0 0)) w) := hid (by
      have e : namesD s = [] := by unfold namesD; rw [if_pos hof]
      unfold Nmd
      rw [e]
      exact ⟨none, 0, rfl, World.ownsRow_nil _ _ _ _, Below.refl _ _⟩)
    clear hof
    by_cases hn0 : n = 0
    · subst hn0
      go_enter Tryz.func37, Tryz.ntmps37
      go_wp2_with fail
      refine wp_loop_rounds 1 ?_
      rw [rounds_succ]
      go_wp2_with fail
      go_ret
      exact HF.out
    · have hn1 : (0 : Int) < (n : Int) := by omega
      go_enter Tryz.func37, Tryz.ntmps37
      go_wp2_with fail
      refine wp_loop_rounds 1 ?_
      rw [rounds_succ]
      go_wp2_with fail
      go_ret
      exact HF.out
  | false =>
    rw [hof] at c8
    have HOF := hid hof
    have HCC : Hid (∀ W, Below w.heap.size w W → W.cell? ⟨q, 0, none⟩ = some (.slice ao n cap) ∧ W.cell? ⟨q, 8, none⟩ = some (.bool false)) := hid (fun W hB => ⟨by rw [← c0]; exact World.cell?_of_block (hB.block q HQL.out), by rw [← c8]; exact World.cell?_of_block (hB.block q HQL.out)⟩)
    clear hof
    go_enter Tryz.func37, Tryz.ntmps37
    go_wp2_with fail
    go_loopg [3, 4, 5, 6] n (fun gg vl vi _va _vm wr => ∃ (i : Nat) (L : List Bs) (a : Option Addr) (c : Nat), gg = n - i ∧ i ≤ n ∧ vi = .int .i64 (i : Int) ∧ vl = .slice a i c ∧ Tx wr (.slice a i c) L ∧ (i = 0 → a = none ∧ c = 0) ∧ L.Perm ((s.files.map Df.name).take i) ∧ L.Pairwise (fun a b => decide (a ≤ b) = true) ∧ Below w.heap.size w wr)
    case atStart => exact ⟨0, [], none, 0, rfl, Nat.zero_le _, rfl, rfl, World.ownsRow_nil _ _ _ _, fun _ => ⟨rfl, rfl⟩, List.Perm.nil, List.Pairwise.nil, Below.refl _ _⟩
    case round =>
      obtain ⟨i, L, al, cl, rfl, hi, rfl, rfl, htx, hz, hpm, hpw, hbel⟩ := hrel
      obtain ⟨d0, d8⟩ := HCC.out wr hbel
      clear c0 c8
      have hLi : L.length = i := by
        have := hpm.length_eq
        rw [List.length_take, List.length_map] at this
        have h2 := HN.out
        omega
      by_cases hil : i < n
      · have hjs : i < s.files.length := by have := HN.out; omega
        have hzl : (s.files.zip ss).length = s.files.length := by rw [List.length_zip, HH.out.len]; omega
        have hrow : w.ownsRow 0 92 3 fv (s.files.zip ss).length ((s.files.zip ss).flatMap fun x => fc x.1 x.2) := by rw [hzl]; exact HH.out.fil
        obtain ⟨g, cap', hv, _, hcell⟩ := row_cells fc_len hrow (by omega)
        rw [hzl] at hv
        have ha : ao = some ⟨g, 0, none⟩ := by
          have h1 := HFV.out
          rw [hv] at h1
          cases h1
          rfl
        subst ha
        have hc1 := hcell i (by omega) 1 (by omega)
        rw [List.getElem_zip] at hc1
        obtain ⟨nm, hnm⟩ : ∃ nm, nm = (s.files[i]'hjs).name := ⟨_, rfl⟩
        have cw : w.cell? ⟨g, i * 3 + 1, none⟩ = some (St nm) := by rw [hc1, hnm]; rfl
        have HNC : Hid (∀ W, Below w.heap.size w W → W.cell? ⟨g, i * 3 + 1, none⟩ = some (St nm)) := hid (fun W hB => by rw [← cw]; exact World.cell?_of_block (hB.block g (World.block_lt_of_cell? w ⟨g, i * 3 + 1, none⟩ cw)))
        have hiw : IntKind.i64.wrap ((i : Int) + 1) = ((i + 1 : Nat) : Int) := by rw [IntKind.wrap_i64]; have := HNB.out; omega
        have hi0 : (0 : Int) ≤ (i : Int) := Int.natCast_nonneg _
        have hi1 : (i : Int) < (n : Int) := by omega
        have HNX : Hid (∀ a : Nat, ((s.files.map Df.name).take (i + 1)) = (s.files.map Df.name).take i ++ [nm]) := hid (fun _ => by
          rw [List.take_add_one, hnm]
          simp [hjs])
        have c1 := HNC.out wr hbel
        have HTX := hid htx
        have HPM := hid hpm
        have HPW := hid hpw
        have HBE := hid hbel
        have HIL : Hid (i < n) := hid hil
        have HLI := hid hLi
        clear hcell hc1 hrow hv hzl hnm cw htx hpm hpw hbel hi hil hLi hjs
        by_cases hiz : i = 0
        · subst hiz
          obtain ⟨rfl, rfl⟩ := hz rfl
          have hL0 : L = [] := List.eq_nil_of_length_eq_zero HLI.out
          subst hL0
          have HR1 : Hid (∀ W ty, (Builtin.append_ #[41, 41] ty #[.slice none 0 0, .slice none 0 0]).run Tryz.prog W = .ok (.slice none 0 0) W) := hid (fun W ty => by kernel_rfl)
          have HXN : Hid (∀ W, Below wr.heap.size wr W → ∃ q2 z2 w2, (∀ ty, (Builtin.append_ #[41, 41] ty #[.slice none 0 0, .slice (some ⟨W.heap.size, 0, none⟩) 1 1]).run Tryz.prog (W.alloc (.cells #[St nm] 9)) = .ok (.slice (some q2) 1 z2) w2) ∧ (∀ ty, (Builtin.append_ #[41, 41] ty #[.slice (some q2) 1 z2, .slice none 0 0]).run Tryz.prog w2 = .ok (.slice (some q2) 1 z2) w2) ∧ Tx w2 (.slice (some q2) 1 z2) [nm] ∧ Below wr.heap.size wr w2) := hid (fun W hW => by
            obtain ⟨v2, w2, r2, o2, g2⟩ := tx_more (W := W) (base := W.heap.size) (v := .slice none 0 0) (l := []) nm (World.ownsRow_nil _ _ _ _) (by simp) (Nat.le_refl _)
            have o2' : w2.ownsRow 0 9 1 v2 [nm].length ([nm].map fun b => St b) := ⟨o2.1, o2.2.imp id (fun ⟨g, cap, cur, h1, _, h3⟩ => ⟨g, cap, cur, h1, Nat.zero_le _, h3⟩)⟩
            obtain ⟨g2', c2, rfl, hc2, _⟩ := (show Tx w2 v2 [nm] from o2').at' (by simp)
            obtain ⟨i9, hi9, _⟩ := info_get info9
            refine ⟨_, _, w2, r2, fun ty => (run_append_room_src (P := Tryz.prog) w2 41 41 ty 9 i9 Tryz.underlying41 hi9 g2' 0 1 c2 (.slice none 0 0) 0 [] (Src.ofNil w2 Tryz.underlying41 0) hc2 (fun j hj => absurd hj (by simp)) (fun j hj => absurd hj (by simp))).trans rfl, o2', ⟨g2.os.trans hW.os, g2.tape.trans hW.tape, g2.output.trans hW.output, Nat.le_trans hW.size g2.size, fun k hk => (g2.block k (Nat.lt_of_lt_of_le hk hW.size) (fun e => by cases e)).trans (hW.block k hk)⟩⟩)
          have hz0 : ((0 : Nat) : Int) = 0 := rfl
          rw [hz0] at *
          go_wp2_with fail
          refine wp_loop_rounds 1 ?_
          rw [rounds_succ]
          go_wp2_with fail
          go_quiet (fail)
          generalize hwd : World.drewN _ _ = wd
          have hbd : Below wr.heap.size wr wd := hwd ▸ below_drewN (Below.refl _ _) _
          clear hwd
          obtain ⟨q2, z2, w2, r2, r3, t3, B3⟩ := HXN.out wd hbd
          have hbW : Below w.heap.size w wd := below_comp HBE.out hbd
          have e0 := (HCC.out wd hbW).1
          have e1 := HNC.out wd hbW
          have HR2 := hid r2
          have HR3 := hid r3
          have HFIN : Hid (Tx w2 (.slice (some q2) 1 z2) [nm] ∧ [nm].Perm ((s.files.map Df.name).take (0 + 1)) ∧ [nm].Pairwise (fun a b => decide (a ≤ b) = true) ∧ Below w.heap.size w w2) := hid ⟨t3, by
            rw [HNX.out 0]
            exact List.Perm.refl _, List.pairwise_singleton _ _, below_comp HBE.out B3⟩
          clear r2 r3 t3 B3 hbd hbW d0 d8 c1
          go_wp2_with (first | (at_builtin; refine wpList_append_run rfl (.tmp 45) (.tmp 48) 41 rfl (.slice none 0 0) (.slice none 0 0) (.slice none 0 0) wd rfl rfl (HR1.out wd) ?_) | (at_builtin; refine wpList_append_run rfl (.tmp 50) (.tmp 59) 41 rfl (.slice none 0 0) (.slice (some ⟨wd.heap.size, 0, none⟩) 1 1) (.slice (some q2) 1 z2) w2 rfl rfl HR2.out ?_) | (at_builtin; refine wpList_append_run rfl (.tmp 61) (.tmp 64) 41 rfl (.slice (some q2) 1 z2) (.slice none 0 0) (.slice (some q2) 1 z2) w2 rfl rfl HR3.out ?_) | fail)
          go_roundg (n - (0 + 1))
          case measure => have := HIL.out; omega
          case rel => exact ⟨0 + 1, [nm], some q2, z2, rfl, HIL.out, rfl, rfl, HFIN.out.1, fun h => absurd h (by omega), HFIN.out.2.1, HFIN.out.2.2.1, HFIN.out.2.2.2⟩
        · go_wp2_with fail
          obtain ⟨wi, hwi⟩ : ∃ wi, wi = wr := ⟨_, rfl⟩
          subst hwi
          have hi8 : 0 < L.length := by have := HLI.out; omega
          obtain ⟨gl, cl', el, hcl, hLc⟩ := (show Tx wi (.slice al i cl) L from HTX.out).at' hi8
          have hal : al = some ⟨gl, 0, none⟩ := by cases el; rfl
          have HLC := hid hLc
          have HCL : Hid (i ≤ cl) := hid (by cases el; have := HLI.out; omega)
          have HHX : Hid (∀ W, Below wi.heap.size wi W → Below w.heap.size w W) := hid (fun W hW => ⟨hW.os.trans HBE.out.os, hW.tape.trans HBE.out.tape, hW.output.trans HBE.out.output, Nat.le_trans HBE.out.size hW.size, fun z hz => (hW.block z (Nat.lt_of_lt_of_le hz HBE.out.size)).trans (HBE.out.block z hz)⟩)
          clear hLc hcl el hi8 d0 d8 c1
          subst hal
          go_loopg [5] i (fun gg va w2 => ∃ a : Nat, gg = a ∧ a ≤ i ∧ va = .int .i64 (a : Int) ∧ (∀ j (hj : j < L.length), a ≤ j → decide (nm ≤ L[j]) = true) ∧ Below wi.heap.size wi w2)
          case atStart => exact ⟨i, rfl, Nat.le_refl _, rfl, fun j hj hij => (by have := HLI.out; omega), Below.refl _ _⟩
          case round =>
            obtain ⟨a, hgg, hai, rfl, hhi, hb2⟩ := hrel
            have hgg := hgg.symm
            subst hgg
            by_cases ha0 : a = 0
            · subst ha0
              have HAI : Hid (0 ≤ i) := hid (Nat.zero_le _)
              have HHI := hid hhi
              have HB2 := hid hb2
              have HLOW : Hid (∀ h : 0 - 1 < L.length, 0 < 0 → decide (L[0 - 1] ≤ nm) = true) := hid (fun _ h => absurd h (by omega))
              clear hai hhi hb2
              have hz0 : ((0 : Nat) : Int) = 0 := rfl
              go_wp2_with fail
              go_quiet (fail)
              generalize hwd : World.drewN _ _ = wd
              have hbd : Below wi.heap.size wi wd := hwd ▸ below_drewN HB2.out _
              clear hwd
              have HBD := hid (HHX.out wd hbd)
              have htd : Tx wd (.slice (some ⟨gl, 0, none⟩) L.length cl) L := by
                have := (show Tx wi (.slice (some ⟨gl, 0, none⟩) i cl) L from HTX.out)
                rw [← HLI.out] at this
                exact ownsRow_same this (fun k hk => hbd.block k (this.lt k hk).2)
              obtain ⟨q1, z1, w1, q2, z2, w2, r1, B1, r2, B2, r3⟩ := ins_run htd (by have := HLI.out; omega) 0 (Nat.zero_le _) nm (by have := HLI.out; have := HNB.out; have := HIL.out; omega)
              rw [HLI.out] at r3
              have HR1 : Hid (∀ ty, (Builtin.append_ #[41, 41] ty #[.slice none 0 0, .slice (some ⟨gl, 0, none⟩) 0 cl]).run Tryz.prog wd = .ok (.slice q1 0 z1) w1) := hid (fun ty => r1 ty cl)
              have HR2 := hid r2
              have e0 := (HCC.out w1 (below_comp HBD.out B1)).1
              have e1 := HNC.out w1 (below_comp HBD.out B1)
              have hcl5 : (i : Int) ≤ (cl : Int) := by have := HCL.out; omega
              have hcl6 : i ≤ cl := HCL.out
              have hcl7 : ¬ cl = 0 := by omega
              have hcl8 : (0 : Int) ≤ (cl : Int) := Int.natCast_nonneg _
              obtain ⟨q3, z3, w3, r4, t4, B4⟩ := r3 ⟨gl, 0, none⟩ cl (.inl rfl)
              rw [Nat.sub_zero] at r4
              have HR3 := hid r4
              have HFIN : Hid (Tx w3 (.slice q3 (i + 1) z3) (insB L 0 nm) ∧ (insB L 0 nm).Perm ((s.files.map Df.name).take (i + 1)) ∧ (insB L 0 nm).Pairwise (fun a b => decide (a ≤ b) = true) ∧ Below w.heap.size w w3) := hid ⟨t4, by
                rw [HNX.out 0]
                exact (insB_perm L 0 nm).trans (HPM.out.append_right _), insB_pair HPW.out HHI.out HLOW.out (Nat.zero_le _), below_comp HBD.out B4⟩
              clear r1 r2 r3 r4 t4 B1 B2 B4 htd hbd
              go_wp2_with (first | (at_builtin; refine wpList_append_run rfl (.tmp 45) (.tmp 48) 41 rfl (.slice none 0 0) (.slice (some ⟨gl, 0, none⟩) 0 cl) (.slice q1 0 z1) w1 rfl rfl HR1.out ?_) | (at_builtin; refine wpList_append_run rfl (.tmp 50) (.tmp 59) 41 rfl (.slice q1 0 z1) (.slice (some ⟨w1.heap.size, 0, none⟩) 1 1) (.slice q2 (0 + 1) z2) w2 rfl rfl HR2.out ?_) | (at_builtin; refine wpList_append_run rfl (.tmp 61) (.tmp 64) 41 rfl (.slice q2 (0 + 1) z2) (.slice (some ⟨gl, 0, none⟩) i cl) (.slice q3 (i + 1) z3) w3 rfl rfl HR3.out ?_) | fail)
              go_roundg (n - (i + 1))
              case measure => have := HIL.out; omega
              case rel => exact ⟨i + 1, insB L 0 nm, q3, z3, rfl, HIL.out, rfl, rfl, HFIN.out.1, fun h => absurd h (by omega), HFIN.out.2.1, HFIN.out.2.2.1, HFIN.out.2.2.2⟩
            · have haL : a - 1 < L.length := by have := HLI.out; omega
              obtain ⟨y, hy⟩ : ∃ y, y = L[a - 1]'haL := ⟨_, rfl⟩
              have cy : wr.cell? ⟨gl, a - 1, none⟩ = some (St y) := by
                have h1 := (HLC.out (a - 1) haL).1
                rw [hy, ← h1]
                exact World.cell?_of_block (hb2.block gl (World.block_lt_of_cell? wi ⟨gl, a - 1, none⟩ h1))
              obtain ⟨d0, _⟩ := HCC.out _ (HHX.out _ hb2)
              have c1 := HNC.out _ (HHX.out _ hb2)
              have haw : IntKind.i64.wrap ((a : Int) - 1) = ((a - 1 : Nat) : Int) := by rw [IntKind.wrap_i64]; have := HNB.out; have := HIL.out; omega
              have ha1 : (0 : Int) < (a : Int) := by omega
              have ha1n : 0 < a := by omega
              have ha1d : decide (0 < a) = true := decide_eq_true (by omega)
              have ha2n : a - 1 < i := by omega
              have ha2 : ((a - 1 : Nat) : Int) < (i : Int) := by omega
              have ha3 : (0 : Int) ≤ ((a - 1 : Nat) : Int) := Int.natCast_nonneg _
              have HAI := hid hai
              have HHI := hid hhi
              have HB2 := hid hb2
              have HY := hid hy
              clear hai hhi hb2 hy
              cases hbl : (!Op.bytesLess y nm && !y == nm) with
              | true =>
                have HGT := hid (gt_yes hbl)
                go_wp2_with fail
                go_quiet (fail)
                generalize hwd : World.drewN _ _ = wd
                have HBD : Hid (Below wi.heap.size wi wd) := hid (hwd ▸ below_drewN HB2.out _)
                clear hwd
                go_wp2_with fail
                go_roundg (a - 1)
                case measure => omega
                case rel => exact ⟨a - 1, rfl, by have := HAI.out; omega, rfl, fun j hj haj => (by
                  by_cases e : j = a - 1
                  · subst e
                    have := HGT.out
                    rw [HY.out] at this
                    exact this
                  · exact HHI.out j hj (by omega)), HBD.out⟩
              | false =>
                have HLOW : Hid (∀ h : a - 1 < L.length, 0 < a → decide (L[a - 1] ≤ nm) = true) := hid (fun _ _ => by
                  have := gt_no hbl
                  rw [HY.out] at this
                  exact this)
                go_wp2_with fail
                go_quiet (fail)
                generalize hwd : World.drewN _ _ = wd
                have hbd : Below wi.heap.size wi wd := hwd ▸ below_drewN HB2.out _
                clear hwd
                have HBD := hid (HHX.out wd hbd)
                have htd : Tx wd (.slice (some ⟨gl, 0, none⟩) L.length cl) L := by
                  have := (show Tx wi (.slice (some ⟨gl, 0, none⟩) i cl) L from HTX.out)
                  rw [← HLI.out] at this
                  exact ownsRow_same this (fun k hk => hbd.block k (this.lt k hk).2)
                obtain ⟨q1, z1, w1, q2, z2, w2, r1, B1, r2, B2, r3⟩ := ins_run htd (by have := HLI.out; omega) a (by have := HLI.out; have := HAI.out; omega) nm (by have := HLI.out; have := HNB.out; have := HIL.out; omega)
                rw [HLI.out] at r3
                have HR1 : Hid (∀ ty, (Builtin.append_ #[41, 41] ty #[.slice none 0 0, .slice (some ⟨gl, 0, none⟩) a cl]).run Tryz.prog wd = .ok (.slice q1 a z1) w1) := hid (fun ty => r1 ty cl)
                have HR2 := hid r2
                have e0 := (HCC.out w1 (below_comp HBD.out B1)).1
                have e1 := HNC.out w1 (below_comp HBD.out B1)
                have hcl1 : (a : Int) ≤ (cl : Int) := by have := HAI.out; have := HCL.out; omega
                have hcl2 : a ≤ cl := by have := HAI.out; have := HCL.out; omega
                have hcl3 : (a : Int) ≤ (i : Int) := by have := HAI.out; omega
                have hcl4 : a ≤ i := HAI.out
                have hcl5 : (i : Int) ≤ (cl : Int) := by have := HCL.out; omega
                have hcl6 : i ≤ cl := HCL.out
                have hcl7 : (0 : Int) ≤ (a : Int) := Int.natCast_nonneg _
                have HNEW : Hid (∀ q3 z3 w3, Tx w3 (.slice q3 (i + 1) z3) (insB L a nm) → Below wd.heap.size wd w3 → Tx w3 (.slice q3 (i + 1) z3) (insB L a nm) ∧ (insB L a nm).Perm ((s.files.map Df.name).take (i + 1)) ∧ (insB L a nm).Pairwise (fun a b => decide (a ≤ b) = true) ∧ Below w.heap.size w w3) := hid (fun q3 z3 w3 ht hb => ⟨ht, by
                  rw [HNX.out 0]
                  exact (insB_perm L a nm).trans (HPM.out.append_right _), insB_pair HPW.out HHI.out HLOW.out (by have := HLI.out; omega), below_comp HBD.out hb⟩)
                clear r1 r2 B1 B2 htd hbd
                by_cases hce : cl = a
                · have hia : i = a := by omega
                  obtain ⟨q3, z3, w3, r4, t4, B4⟩ := r3 ⟨gl, 0, none⟩ 0 (.inr hia)
                  rw [show i - a = 0 by omega] at r4
                  have HR3 := hid r4
                  have HFIN := hid (HNEW.out q3 z3 w3 t4 B4)
                  clear r3 r4 t4 B4 HNEW
                  subst hce
                  subst hia
                  go_wp2_with (first | (at_builtin; refine wpList_append_run rfl (.tmp 45) (.tmp 48) 41 rfl (.slice none 0 0) (.slice (some ⟨gl, 0, none⟩) i i) (.slice q1 i z1) w1 rfl rfl HR1.out ?_) | (at_builtin; refine wpList_append_run rfl (.tmp 50) (.tmp 59) 41 rfl (.slice q1 i z1) (.slice (some ⟨w1.heap.size, 0, none⟩) 1 1) (.slice q2 (i + 1) z2) w2 rfl rfl HR2.out ?_) | (at_builtin; refine wpList_append_run rfl (.tmp 61) (.tmp 64) 41 rfl (.slice q2 (i + 1) z2) (.slice (some ⟨gl, 0, none⟩) 0 0) (.slice q3 (i + 1) z3) w3 rfl rfl HR3.out ?_) | fail)
                  go_roundg (n - (i + 1))
                  case measure => have := HIL.out; omega
                  case rel => exact ⟨i + 1, insB L i nm, q3, z3, rfl, HIL.out, rfl, rfl, HFIN.out.1, fun h => absurd h (by omega), HFIN.out.2.1, HFIN.out.2.2.1, HFIN.out.2.2.2⟩
                · obtain ⟨q3, z3, w3, r4, t4, B4⟩ := r3 ⟨gl, a, none⟩ (cl - a) (.inl rfl)
                  have HR3 := hid r4
                  have HFIN := hid (HNEW.out q3 z3 w3 t4 B4)
                  clear r3 r4 t4 B4 HNEW
                  go_wp2_with (first | (at_builtin; refine wpList_append_run rfl (.tmp 45) (.tmp 48) 41 rfl (.slice none 0 0) (.slice (some ⟨gl, 0, none⟩) a cl) (.slice q1 a z1) w1 rfl rfl HR1.out ?_) | (at_builtin; refine wpList_append_run rfl (.tmp 50) (.tmp 59) 41 rfl (.slice q1 a z1) (.slice (some ⟨w1.heap.size, 0, none⟩) 1 1) (.slice q2 (a + 1) z2) w2 rfl rfl HR2.out ?_) | (at_builtin; refine wpList_append_run rfl (.tmp 61) (.tmp 64) 41 rfl (.slice q2 (a + 1) z2) (.slice (some ⟨gl, a, none⟩) (i - a) (cl - a)) (.slice q3 (i + 1) z3) w3 rfl rfl HR3.out ?_) | fail)
                  go_roundg (n - (i + 1))
                  case measure => have := HIL.out; omega
                  case rel => exact ⟨i + 1, insB L a nm, q3, z3, rfl, HIL.out, rfl, rfl, HFIN.out.1, fun h => absurd h (by omega), HFIN.out.2.1, HFIN.out.2.2.1, HFIN.out.2.2.2⟩
      · have hie : i = n := by omega
        subst hie
        have hin : ¬ (i : Int) < (i : Int) := by omega
        have HF : Hid (Nmd w s (.returned (.slice al i cl)) wr) := hid (by
          have e : namesD s = L := by
            unfold namesD
            rw [if_neg (by rw [HOF.out]; decide)]
            refine sorted_of_perm ?_ hpw
            have h2 := hpm
            rw [List.take_of_length_le (by rw [List.length_map, ← HN.out]; exact Nat.le_refl _)] at h2
            exact h2.symm
          unfold Nmd
          rw [e, hLi]
          exact ⟨al, cl, rfl, htx, hbel⟩)
        clear htx hpm hpw hbel hz hLi hi hil
        go_wp2_with fail
        go_ret
        exact HF.out
end Go.Proofs.YtojnembakhhgiaaGreat

/- The document's disk copied. -/
namespace Go.Proofs.YtojnembakhhgiaaGreat
open Go.RowKit

theorem row_base {w : World} {base e size n : Nat} {v : Value} {xs : List Value} (h : w.ownsRow base e size v n xs) : w.ownsRow 0 e size v n xs :=
  ⟨h.1, h.2.imp id (fun ⟨g, cap, cur, h1, _, h3⟩ => ⟨g, cap, cur, h1, Nat.zero_le _, h3⟩)⟩
theorem row_new {w : World} {base e size n : Nat} {v : Value} {xs : List Value} (h : w.ownsRow base e size v n xs) : ∀ k ∈ ob v, base ≤ k := fun k hk => (h.lt k (mem_ob.1 hk)).1
theorem row_src {w : World} {e size g cap n : Nat} {xs : List Value} (h : w.ownsRow 0 e size (.slice (some ⟨g, 0, none⟩) n cap) n xs) : ∀ j u, xs[j]? = some u → w.cell? ((⟨g, 0, none⟩ : Addr).add j) = some u := fun j u hu => by
  rw [Addr.add_mid, Nat.zero_add]
  rcases h.2 with ⟨h1, _⟩ | ⟨g', cap', cur, h1, h2, h3, h4, h5, h6, h7⟩
  · cases h1
  · cases h1
    have hj : j < xs.length := (List.getElem?_eq_some_iff.1 hu).1
    rw [h.1] at hj
    rw [cell_of_heap h3, ← Array.getElem?_toList, ← hu, ← h7, List.getElem?_take, if_pos hj]
/-- a row copied behind nothing -/
theorem row_copy {w : World} {v : Value} {t e size bytes n : Nat} {i : TypeInfo} {z : Value} {xs : List Value} (ht : Tryz.prog.underlying t = some (.slice e)) (hi : Tryz.prog.info? e = some i) (hz : i.zero = some z) (hs : i.size = size) (hb : i.bytes = bytes) (hzs : z.cells.size = size) (hsz : 0 < size)
    (hnil : ∀ ty, (Builtin.append_ #[t, t] ty #[.slice none 0 0, .slice none 0 0]).run Tryz.prog w = .ok (.slice none 0 0) w) (h : w.ownsRow 0 e size v n xs) (h1 : ∀ u ∈ xs, u.oneCell' = true) (hn : n ≤ 1000000) (hby : n * bytes ≤ 140737488355328) :
    ∃ v' w', (∀ ty, (Builtin.append_ #[t, t] ty #[.slice none 0 0, v]).run Tryz.prog w = .ok v' w') ∧ w'.ownsRow w.heap.size e size v' n xs ∧ Below w.heap.size w w' := by
  rcases id h.2 with ⟨e1, e2⟩ | ⟨g, cap, _, e1, _⟩
  · subst e1
    refine ⟨.slice none 0 0, w, hnil, ?_, Below.refl _ _⟩
    have h0 := h.1
    subst e2
    have hx : xs = [] := List.eq_nil_of_length_eq_zero (by simpa using h0)
    subst hx
    exact World.ownsRow_nil _ _ _ _
  · subst e1
    obtain ⟨v', w', h4, h5, h6, _⟩ := run_append_own_at (P := Tryz.prog) w w.heap.size t t e i z size bytes ht hi hz hs hb hzs hsz (.slice none 0 0) 0 [] (World.ownsRow_nil _ _ _ _) ⟨g, 0, none⟩ n cap xs h.1 (row_src h) h1 (by simp only [maxLen]; omega) (by simpa using hby) (Nat.le_refl _)
    exact ⟨v', w', fun ty => h4, by simpa using h5, ⟨h6.os, h6.tape, h6.output, h6.size, fun k hk => h6.block k hk (fun e => by cases e)⟩⟩
theorem files_copy {w : World} {v : Value} {l : List (Df × Value)} (h : w.ownsRow 0 92 3 v l.length (fcs l)) (ho : ∀ x ∈ l, x.2.oneCell' = true) (hl : l.length ≤ 1000000) : ∃ v' w', (∀ ty, (Builtin.append_ #[57, 57] ty #[.slice none 0 0, v]).run Tryz.prog w = .ok v' w') ∧ w'.ownsRow w.heap.size 92 3 v' l.length (fcs l) ∧ Below w.heap.size w w' := by
  obtain ⟨i0, hi, hz0, hz1, hz2⟩ := info_get info87
  exact row_copy Tryz.underlying57 hi hz0 hz1 hz2 rfl (by decide) (fun _ => by kernel_rfl) h (fun u hu => by
    unfold fcs at hu
    obtain ⟨x, hx, hu⟩ := List.mem_flatMap.1 hu
    exact fc_one x.1 (ho x hx) u hu) hl (by omega)
theorem opens_copy {w : World} {v : Value} {l : List Dw} (h : w.ownsRow 0 95 3 v l.length (ocs l)) (hl : l.length ≤ 1000000) : ∃ v' w', (∀ ty, (Builtin.append_ #[58, 58] ty #[.slice none 0 0, v]).run Tryz.prog w = .ok v' w') ∧ w'.ownsRow w.heap.size 95 3 v' l.length (ocs l) ∧ Below w.heap.size w w' := by
  obtain ⟨i0, hi, hz0, hz1, hz2⟩ := info_get info90
  exact row_copy Tryz.underlying58 hi hz0 hz1 hz2 rfl (by decide) (fun _ => by kernel_rfl) h (fun u hu => by
    unfold ocs at hu
    obtain ⟨x, _, hu⟩ := List.mem_flatMap.1 hu
    exact oc_one x u hu) hl (by omega)
/-- what a copy is -/
def Rd (w : World) (s : Ds) (ss : List Value) (e : Ending) (w' : World) : Prop := ∃ c fv ov, e = .returned (.pointer (some ⟨c, 0, none⟩)) ∧ Rv w' c s fv ov ss ∧ Below w.heap.size w w' ∧ ∀ g ∈ Rm c fv ov, w.heap.size ≤ g
set_option maxHeartbeats 4000000 in
set_option maxRecDepth 100000 in
theorem rcopy_any (w : World) (q : Nat) (s : Ds) (fv ov : Value) (ss : List Value) (h : Rv w q s fv ov ss) (hl : s.files.length ≤ 1000000 ∧ s.opn.length ≤ 1000000) : Calls Tryz.prog 9 #[.pointer (some ⟨q, 0, none⟩)] w (Rd w s ss) := by
  obtain ⟨a0, cap0, rfl⟩ := row_shape h.fil
  obtain ⟨a1, cap1, rfl⟩ := row_shape h.opn
  obtain ⟨fn, hfn⟩ : ∃ fn, fn = s.files.length := ⟨_, rfl⟩
  obtain ⟨on, hon⟩ : ∃ on, on = s.opn.length := ⟨_, rfl⟩
  rw [← hfn, ← hon] at h
  obtain ⟨fv, hfv⟩ : ∃ fv, fv = Value.slice a0 fn cap0 := ⟨_, rfl⟩
  obtain ⟨ov, hov⟩ : ∃ ov, ov = Value.slice a1 on cap1 := ⟨_, rfl⟩
  rw [← hfv, ← hov] at h
  obtain ⟨ki, kk, hblk, hset, hki, hkk⟩ := h.blk
  obtain ⟨w1, hw1⟩ : ∃ w1, w1 = w.alloc (.cells #[fv, ov, .int .i64 (s.next : Int), .int .i64 (s.quota : Int), .int .i64 (s.steps : Int), .bool s.set, .int .i64 (ki : Int), .int .u64 (kk : Int), .bool s.off] 60) := ⟨_, rfl⟩
  have B1 : Below w.heap.size w w1 := hw1 ▸ (Below.refl _ _).alloc (Nat.le_refl _) _
  have z1 : w1.heap.size = w.heap.size + 1 := by rw [hw1]; simp
  have b1 : w1.heap[w.heap.size]? = some (.cells #[fv, ov, .int .i64 (s.next : Int), .int .i64 (s.quota : Int), .int .i64 (s.steps : Int), .bool s.set, .int .i64 (ki : Int), .int .u64 (kk : Int), .bool s.off] 60 (0, 0)) := by rw [hw1, heap_alloc_new]
  have h1 := h.low B1
  have hzl : (s.files.zip ss).length = s.files.length := by rw [List.length_zip, h.len]; omega
  obtain ⟨v2, w2, r2, o2, B2⟩ := files_copy (w := w1) (v := fv) (l := s.files.zip ss) (by rw [hzl]; exact h1.fil) (fun x hx => tx_one_cell (h.set x hx)) (by rw [hzl]; exact hl.1)
  obtain ⟨v3, w3, r3, o3, B3⟩ := opens_copy (w := w2) (v := ov) (l := s.opn) (h1.low B2).opn hl.2
  have c0 : w.cell? ⟨q, 0, none⟩ = some fv := (cell_of_heap hblk 0).trans rfl
  have c1 : w.cell? ⟨q, 1, none⟩ = some ov := (cell_of_heap hblk 1).trans rfl
  have c2 : w.cell? ⟨q, 2, none⟩ = some (.int .i64 (s.next : Int)) := (cell_of_heap hblk 2).trans rfl
  have c3 : w.cell? ⟨q, 3, none⟩ = some (.int .i64 (s.quota : Int)) := (cell_of_heap hblk 3).trans rfl
  have c4 : w.cell? ⟨q, 4, none⟩ = some (.int .i64 (s.steps : Int)) := (cell_of_heap hblk 4).trans rfl
  have c5 : w.cell? ⟨q, 5, none⟩ = some (.bool s.set) := (cell_of_heap hblk 5).trans rfl
  have c6 : w.cell? ⟨q, 6, none⟩ = some (.int .i64 (ki : Int)) := (cell_of_heap hblk 6).trans rfl
  have c7 : w.cell? ⟨q, 7, none⟩ = some (.int .u64 (kk : Int)) := (cell_of_heap hblk 7).trans rfl
  have c8 : w.cell? ⟨q, 8, none⟩ = some (.bool s.off) := (cell_of_heap hblk 8).trans rfl
  have e0 : w1.cell? ⟨q, 0, none⟩ = some fv := by rw [← c0]; exact World.cell?_of_block (B1.block q (lt_of_block hblk))
  have e1 : w2.cell? ⟨q, 1, none⟩ = some ov := by rw [← c1]; exact World.cell?_of_block ((B2.block q (by rw [z1]; have := lt_of_block hblk; omega)).trans (B1.block q (lt_of_block hblk)))
  have hb3 : w3.heap[w.heap.size]? = some (.cells #[fv, ov, .int .i64 (s.next : Int), .int .i64 (s.quota : Int), .int .i64 (s.steps : Int), .bool s.set, .int .i64 (ki : Int), .int .u64 (kk : Int), .bool s.off] 60 (0, 0)) := ((B3.block _ (by have := B2.size; omega)).trans (B2.block _ (by omega))).trans b1
  obtain ⟨a2, cap2, rfl⟩ := row_shape2 o2
  obtain ⟨a3, cap3, rfl⟩ := row_shape2 o3
  obtain ⟨n2, hn2⟩ : ∃ n2, n2 = (s.files.zip ss).length := ⟨_, rfl⟩
  obtain ⟨n3, hn3⟩ : ∃ n3, n3 = s.opn.length := ⟨_, rfl⟩
  rw [← hn2] at r2
  rw [← hn3] at r3
  have d0 : w3.cell? ⟨w.heap.size, 0, none⟩ = some fv := (cell_of_heap hb3 0).trans rfl
  have d1 : w3.cell? ⟨w.heap.size, 1, none⟩ = some ov := (cell_of_heap hb3 1).trans rfl
  have df := fun o => frozen_of_heap hb3 o
  have HF : Hid (Rd w s ss (.returned (.pointer (some ⟨w.heap.size, 0, none⟩))) ((w3.setCell ⟨w.heap.size, 0, none⟩ (.slice a2 n2 cap2)).setCell ⟨w.heap.size, 1, none⟩ (.slice a3 n3 cap3))) := hid (by
    rw [hn2, hn3]
    have hBw : Below w.heap.size w w3 := below_comp B1 (below_comp B2 B3)
    have n0 := row_new o2
    have n1 := row_new o3
    have l2 : ∀ g ∈ ob (Value.slice a2 (s.files.zip ss).length cap2), g < w2.heap.size := fun g hg => (o2.lt g (mem_ob.1 hg)).2
    have hne : ∀ g, g ≠ w.heap.size → ((w3.setCell ⟨w.heap.size, 0, none⟩ (.slice a2 (s.files.zip ss).length cap2)).setCell ⟨w.heap.size, 1, none⟩ (.slice a3 s.opn.length cap3)).heap[g]? = w3.heap[g]? := fun g hg => by rw [Below.heap_setCell _ _ _ _ hg, Below.heap_setCell _ _ _ _ hg]
    have hnew : ∀ g ∈ Rm w.heap.size (.slice a2 (s.files.zip ss).length cap2) (.slice a3 s.opn.length cap3), w.heap.size ≤ g := fun g hg => by
      unfold Rm at hg
      simp only [List.mem_cons, List.mem_append] at hg
      rcases hg with e | e | e
      · omega
      · have := n0 g e; omega
      · have := n1 g e; have := B2.size; omega
    have hBf : Below w.heap.size w ((w3.setCell ⟨w.heap.size, 0, none⟩ (.slice a2 (s.files.zip ss).length cap2)).setCell ⟨w.heap.size, 1, none⟩ (.slice a3 s.opn.length cap3)) := (hBw.setCell (Nat.le_refl _) _).setCell (Nat.le_refl _) _
    refine ⟨_, _, _, rfl, ⟨⟨ki, kk, ?_, hset, hki, hkk⟩, h.len, ?_, fun x hx => ?_, ?_, ⟨fun e => ?_, fun e => ?_, fun g e1 e2 => ?_⟩, fun v hv g hg e => ?_, h.ok, h.off, h.small⟩, hBf, hnew⟩
    · rw [heap_setCell_same (heap_setCell_same hb3 0 _) 1 _]
      rfl
    · have hh := row_base o2
      rw [hzl] at hh ⊢
      exact ownsRow_same hh (fun g hg => by
        have h1 := l2 g (mem_ob.2 (by rw [hzl]; exact hg))
        have h2 := n0 g (mem_ob.2 (by rw [hzl]; exact hg))
        rw [← hzl, hne g (by omega)]
        exact B3.block g h1)
    · exact ownsRow_same (h.set x hx) (fun g hg => hBf.block g ((h.set x hx).lt g hg).2)
    · exact ownsRow_same (row_base o3) (fun g hg => hne g (by have := n1 g (mem_ob.2 hg); have := B2.size; omega))
    · have := n0 _ e; omega
    · have := n1 _ e; have := B2.size; omega
    · have := l2 g e1; have := n1 g e2; omega
    · have h1 := hnew g e
      have h2 := h.lt (g := g) (List.mem_append_right _ (List.mem_flatMap.2 ⟨v, hv, hg⟩))
      omega)
  have HR2 := hid r2
  have HR3 := hid r3
  have HB3 := hid hb3
  clear r2 r3 hb3 hblk h
  clear h1 o2 o3 B1 B2 B3 hzl b1 hset hki hkk z1
  clear hfn hon hl hn2 hn3 HB3
  subst hw1 hfv hov
  go_enter Tryz.func9, Tryz.ntmps9
  go_wp2_with (first | (at_builtin; first | refine wpList_append_run rfl _ _ 57 rfl _ _ (.slice a2 n2 cap2) w2 rfl rfl HR2.out ?_ | refine wpList_append_run rfl _ _ 58 rfl _ _ (.slice a3 n3 cap3) w3 rfl rfl HR3.out ?_) | fail)
  go_ret
  exact HF.out
end Go.Proofs.YtojnembakhhgiaaGreat
