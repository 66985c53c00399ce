/- The document's disk: Write, the walk. -/
import Derived.Test.YtojnembakhhgiaaGreatRxAll
namespace Go.Proofs.YtojnembakhhgiaaGreat
open Go.RowKit

theorem load57 {w : World} {b o : Nat} {v : Value} (h : w.cell? ⟨b, o, none⟩ = some v) : (Instr.loadAt 58 (.pointer (some ⟨b, o, none⟩))).run Tryz.prog w = .ok v w := by go_simp
def gw0 : Oper := { dst := some 36, op := Go.Op.move (Go.Operand.tmp 2), type := 3, pos := "ref.go:182", after := #[], guard := none }
def gw1 : Oper := { dst := some 37, op := Go.Op.move (Go.Operand.tmp 10), type := 3, pos := "ref.go:182", after := #[], guard := none }
def gw2 : Oper := { dst := some 38, op := Go.Op.binOp Go.BinOp.eql 3 (Go.Operand.tmp 36) (Go.Operand.tmp 37) 3, type := 4, pos := "ref.go:182", after := #[{ on := 0, ground := Go.Ground.data }, { on := 1, ground := Go.Ground.data }], guard := none }
def gw3 : Oper := { dst := some 39, op := Go.Op.move (Go.Operand.tmp 38), type := 4, pos := "ref.go:182", after := #[{ on := 2, ground := Go.Ground.data }], guard := none }
def gw4 : Oper := { dst := some 40, op := Go.Op.move (Go.Operand.tmp 0), type := 26, pos := "ref.go:182", after := #[{ on := 3, ground := Go.Ground.guard }], guard := some (3, true) }
def gw5 : Oper := { dst := some 41, op := Go.Op.call { callee := Go.Callee.value (Go.Operand.func 38), args := #[Go.Operand.tmp 40], argTypes := #[26] }, type := 3, pos := "ref.go:182", after := #[{ on := 4, ground := Go.Ground.data }, { on := 3, ground := Go.Ground.chain }, { on := 3, ground := Go.Ground.guard }], guard := some (3, true) }
def gw6 : Oper := { dst := some 42, op := Go.Op.move (Go.Operand.tmp 0), type := 26, pos := "ref.go:182", after := #[{ on := 3, ground := Go.Ground.guard }], guard := some (3, true) }
def gw7 : Oper := { dst := some 43, op := Go.Op.nilCheck (Go.Operand.tmp 42), type := 0, pos := "ref.go:182", after := #[{ on := 6, ground := Go.Ground.data }, { on := 3, ground := Go.Ground.guard }], guard := some (3, true) }
def gw8 : Oper := { dst := some 44, op := Go.Op.fieldAddr 60 (Go.Operand.tmp 43) 3, type := 0, pos := "ref.go:182", after := #[{ on := 7, ground := Go.Ground.data }, { on := 3, ground := Go.Ground.guard }], guard := some (3, true) }
def gw9 : Oper := { dst := some 45, op := Go.Op.load 3 (Go.Operand.tmp 44), type := 3, pos := "ref.go:182", after := #[{ on := 8, ground := Go.Ground.data }, { on := 3, ground := Go.Ground.guard }], guard := some (3, true) }
def gw10 : Oper := { dst := some 46, op := Go.Op.binOp Go.BinOp.geq 3 (Go.Operand.tmp 41) (Go.Operand.tmp 45) 3, type := 4, pos := "ref.go:182", after := #[{ on := 5, ground := Go.Ground.data }, { on := 9, ground := Go.Ground.data }, { on := 3, ground := Go.Ground.guard }], guard := some (3, true) }
def gw11 : Oper := { dst := some 47, op := Go.Op.pick (Go.Operand.tmp 39) (Go.Operand.tmp 46) (Go.Operand.const (Go.Value.bool false)), type := 4, pos := "ref.go:182", after := #[{ on := 3, ground := Go.Ground.data }, { on := 10, ground := Go.Ground.data }], guard := none }
def gw12 : Oper := { dst := some 35, op := Go.Op.assign (Go.Operand.tmp 47), type := 4, pos := "ref.go:182", after := #[{ on := 11, ground := Go.Ground.data }, { on := 5, ground := Go.Ground.chain }], guard := none }
def wx0 : Oper := { dst := some 52, op := Go.Op.move (Go.Operand.tmp 0), type := 26, pos := "ref.go:187", after := #[], guard := none }
def wx1 : Oper := { dst := some 53, op := Go.Op.move (Go.Operand.tmp 0), type := 26, pos := "ref.go:187", after := #[], guard := none }
def wx2 : Oper := { dst := some 54, op := Go.Op.nilCheck (Go.Operand.tmp 53), type := 0, pos := "ref.go:187", after := #[{ on := 1, ground := Go.Ground.data }], guard := none }
def wx3 : Oper := { dst := some 55, op := Go.Op.fieldAddr 60 (Go.Operand.tmp 54) 1, type := 0, pos := "ref.go:187", after := #[{ on := 2, ground := Go.Ground.data }], guard := none }
def wx4 : Oper := { dst := some 56, op := Go.Op.load 58 (Go.Operand.tmp 55), type := 58, pos := "ref.go:187", after := #[{ on := 3, ground := Go.Ground.data }], guard := none }
def wx5 : Oper := { dst := some 57, op := Go.Op.move (Go.Operand.tmp 0), type := 26, pos := "ref.go:187", after := #[], guard := none }
def wx6 : Oper := { dst := some 58, op := Go.Op.nilCheck (Go.Operand.tmp 57), type := 0, pos := "ref.go:187", after := #[{ on := 5, ground := Go.Ground.data }], guard := none }
def wx7 : Oper := { dst := some 59, op := Go.Op.fieldAddr 60 (Go.Operand.tmp 58) 0, type := 0, pos := "ref.go:187", after := #[{ on := 6, ground := Go.Ground.data }], guard := none }
def wx8 : Oper := { dst := some 60, op := Go.Op.load 57 (Go.Operand.tmp 59), type := 57, pos := "ref.go:187", after := #[{ on := 7, ground := Go.Ground.data }], guard := none }
def wx9 : Oper := { dst := some 61, op := Go.Op.move (Go.Operand.tmp 9), type := 3, pos := "ref.go:187", after := #[], guard := none }
def wx10 : Oper := { dst := some 62, op := Go.Op.indexAddr 57 (Go.Operand.tmp 60) (Go.Operand.tmp 61), type := 0, pos := "ref.go:187", after := #[{ on := 8, ground := Go.Ground.data }, { on := 9, ground := Go.Ground.data }], guard := none }
def wx11 : Oper := { dst := some 63, op := Go.Op.fieldAddr 92 (Go.Operand.tmp 62) 0, type := 0, pos := "ref.go:187", after := #[{ on := 10, ground := Go.Ground.data }], guard := none }
def wx12 : Oper := { dst := some 64, op := Go.Op.load 3 (Go.Operand.tmp 63), type := 3, pos := "ref.go:187", after := #[{ on := 11, ground := Go.Ground.data }], guard := none }
def wx13 : Oper := { dst := some 65, op := Go.Op.move (Go.Operand.tmp 2), type := 3, pos := "ref.go:187", after := #[], guard := none }
def wx14 : Oper := { dst := some 66, op := Go.Op.move (Go.Operand.tmp 3), type := 47, pos := "ref.go:187", after := #[], guard := none }
def wx15 : Oper := { dst := some 67, op := Go.Op.convert 47 9 (Go.Operand.tmp 66), type := 9, pos := "ref.go:187", after := #[{ on := 14, ground := Go.Ground.data }], guard := none }
def wx16 : Oper := { dst := some 68, op := Go.Op.move (Go.Operand.tmp 3), type := 47, pos := "ref.go:187", after := #[], guard := none }
def wx17 : Oper := { dst := some 69, op := Go.Op.call { callee := Go.Callee.builtin Go.Builtin.len, args := #[Go.Operand.tmp 68], argTypes := #[47] }, type := 3, pos := "ref.go:187", after := #[{ on := 16, ground := Go.Ground.data }], guard := none }
def wx18 : Oper := { dst := some 70, op := Go.Op.binOp Go.BinOp.sub 3 (Go.Operand.const (Go.Value.int Go.IntKind.i64 256)) (Go.Operand.tmp 69) 3, type := 3, pos := "ref.go:187", after := #[{ on := 17, ground := Go.Ground.data }], guard := none }
def wx19 : Oper := { dst := some 71, op := Go.Op.makeSlice 47 (Go.Operand.tmp 70) (Go.Operand.tmp 70), type := 47, pos := "ref.go:187", after := #[{ on := 18, ground := Go.Ground.data }, { on := 18, ground := Go.Ground.data }], guard := none }
def wx20 : Oper := { dst := some 72, op := Go.Op.convert 47 9 (Go.Operand.tmp 71), type := 9, pos := "ref.go:187", after := #[{ on := 19, ground := Go.Ground.data }], guard := none }
def wx21 : Oper := { dst := some 73, op := Go.Op.binOp Go.BinOp.add 9 (Go.Operand.tmp 67) (Go.Operand.tmp 72) 9, type := 9, pos := "ref.go:187", after := #[{ on := 15, ground := Go.Ground.data }, { on := 20, ground := Go.Ground.data }], guard := none }
def wx22 : Oper := { dst := some 74, op := Go.Op.build 95 #[(0, Go.Operand.tmp 64), (1, Go.Operand.tmp 65), (2, Go.Operand.tmp 73)], type := 95, pos := "ref.go:187", after := #[{ on := 12, ground := Go.Ground.data }, { on := 13, ground := Go.Ground.data }, { on := 21, ground := Go.Ground.data }], guard := none }
def wx23 : Oper := { dst := some 75, op := Go.Op.buildSlice 58 1 #[(0, Go.Operand.tmp 74)], type := 58, pos := "ref.go:187", after := #[{ on := 22, ground := Go.Ground.data }], guard := none }
def wx24 : Oper := { dst := some 76, op := Go.Op.call { callee := Go.Callee.builtin Go.Builtin.append, args := #[Go.Operand.tmp 56, Go.Operand.tmp 75], argTypes := #[58, 58] }, type := 58, pos := "ref.go:187", after := #[{ on := 4, ground := Go.Ground.data }, { on := 23, ground := Go.Ground.data }], guard := none }
def wx25 : Oper := { dst := some 77, op := Go.Op.nilCheck (Go.Operand.tmp 52), type := 0, pos := "ref.go:187", after := #[{ on := 0, ground := Go.Ground.data }, { on := 0, ground := Go.Ground.phase }, { on := 1, ground := Go.Ground.phase }, { on := 2, ground := Go.Ground.phase }, { on := 3, ground := Go.Ground.phase }, { on := 4, ground := Go.Ground.phase }, { on := 5, ground := Go.Ground.phase }, { on := 6, ground := Go.Ground.phase }, { on := 7, ground := Go.Ground.phase }, { on := 8, ground := Go.Ground.phase }, { on := 9, ground := Go.Ground.phase }, { on := 10, ground := Go.Ground.phase }, { on := 11, ground := Go.Ground.phase }, { on := 12, ground := Go.Ground.phase }, { on := 13, ground := Go.Ground.phase }, { on := 14, ground := Go.Ground.phase }, { on := 15, ground := Go.Ground.phase }, { on := 16, ground := Go.Ground.phase }, { on := 17, ground := Go.Ground.phase }, { on := 18, ground := Go.Ground.phase }, { on := 19, ground := Go.Ground.phase }, { on := 20, ground := Go.Ground.phase }, { on := 21, ground := Go.Ground.phase }, { on := 22, ground := Go.Ground.phase }, { on := 23, ground := Go.Ground.phase }, { on := 24, ground := Go.Ground.phase }], guard := none }
def wx26 : Oper := { dst := some 78, op := Go.Op.fieldAddr 60 (Go.Operand.tmp 77) 1, type := 0, pos := "ref.go:187", after := #[{ on := 25, ground := Go.Ground.data }, { on := 0, ground := Go.Ground.phase }, { on := 1, ground := Go.Ground.phase }, { on := 2, ground := Go.Ground.phase }, { on := 3, ground := Go.Ground.phase }, { on := 4, ground := Go.Ground.phase }, { on := 5, ground := Go.Ground.phase }, { on := 6, ground := Go.Ground.phase }, { on := 7, ground := Go.Ground.phase }, { on := 8, ground := Go.Ground.phase }, { on := 9, ground := Go.Ground.phase }, { on := 10, ground := Go.Ground.phase }, { on := 11, ground := Go.Ground.phase }, { on := 12, ground := Go.Ground.phase }, { on := 13, ground := Go.Ground.phase }, { on := 14, ground := Go.Ground.phase }, { on := 15, ground := Go.Ground.phase }, { on := 16, ground := Go.Ground.phase }, { on := 17, ground := Go.Ground.phase }, { on := 18, ground := Go.Ground.phase }, { on := 19, ground := Go.Ground.phase }, { on := 20, ground := Go.Ground.phase }, { on := 21, ground := Go.Ground.phase }, { on := 22, ground := Go.Ground.phase }, { on := 23, ground := Go.Ground.phase }, { on := 24, ground := Go.Ground.phase }], guard := none }
def wx27 : Oper := { dst := none, op := Go.Op.store 58 (Go.Operand.tmp 78) (Go.Operand.tmp 76), type := 0, pos := "ref.go:187", after := #[{ on := 26, ground := Go.Ground.data }, { on := 24, ground := Go.Ground.data }, { on := 24, ground := Go.Ground.chain }, { on := 0, ground := Go.Ground.phase }, { on := 1, ground := Go.Ground.phase }, { on := 2, ground := Go.Ground.phase }, { on := 3, ground := Go.Ground.phase }, { on := 4, ground := Go.Ground.phase }, { on := 5, ground := Go.Ground.phase }, { on := 6, ground := Go.Ground.phase }, { on := 7, ground := Go.Ground.phase }, { on := 8, ground := Go.Ground.phase }, { on := 9, ground := Go.Ground.phase }, { on := 10, ground := Go.Ground.phase }, { on := 11, ground := Go.Ground.phase }, { on := 12, ground := Go.Ground.phase }, { on := 13, ground := Go.Ground.phase }, { on := 14, ground := Go.Ground.phase }, { on := 15, ground := Go.Ground.phase }, { on := 16, ground := Go.Ground.phase }, { on := 17, ground := Go.Ground.phase }, { on := 18, ground := Go.Ground.phase }, { on := 19, ground := Go.Ground.phase }, { on := 20, ground := Go.Ground.phase }, { on := 21, ground := Go.Ground.phase }, { on := 22, ground := Go.Ground.phase }, { on := 23, ground := Go.Ground.phase }, { on := 24, ground := Go.Ground.phase }], guard := none }

set_option maxRecDepth 100000 in
set_option maxHeartbeats 8000000 in
theorem rwrite_any (w : World) (q : Nat) (s : Ds) (fv ov : Value) (ss : List Value) (h : Rv w q s fv ov ss) (hst : s.steps + 1 < 1000000) (hqu : usedN s ≤ s.quota) (t : Bs) (n : Int) (ab : Option Addr) (cb : Nat) (b : Bs) (hbl : b.length ≤ 1000000) (hbr : ∀ W' : World, (∀ k, k < w.heap.size → k ∉ Rm q fv ov → W'.heap[k]? = w.heap[k]?) → Br W' (.slice ab b.length cb) b) :
    Calls Tryz.prog 28 #[.pointer (some ⟨q, 0, none⟩), St t, .int .i64 n, .slice ab b.length cb] w fun e w' => e = .returned (.int .i64 ((writeD s t n b).1 : Int)) ∧ Rleft w q fv ov ss (writeD s t n b).2 w' := by
  obtain ⟨i0, k0, hb, _⟩ := h.blk
  have c8 : w.cell? ⟨q, 8, none⟩ = some (.bool s.off) := (cell_of_heap hb 8).trans rfl
  have HFI := hid (rfind_any w q s fv ov ss h t)
  have HST : Hid (Rleft w q fv ov ss s w) := hid (Rleft.stay h (Below.refl _ _))
  have HLO : Hid (∀ W, Below w.heap.size w W → Rleft w q fv ov ss s W) := hid (fun W hW => Rleft.stay h hW)
  obtain ⟨R, hR⟩ : ∃ R, R = writeD s t n b := ⟨_, rfl⟩
  rw [← hR]
  have hok2 := write_ok h.ok t n b
  rw [← hR] at hok2
  cases ho : s.off with
  | true =>
    rw [ho] at c8
    have HRE : Hid (R = (7, s)) := hid (by rw [hR]; unfold writeD; rw [if_pos ho])
    clear h hb hR hok2 hqu
    go_enter Tryz.func28, Tryz.ntmps28
    go_wp2_with fail
    go_ret
    rw [HRE.out]
    exact ⟨rfl, HST.out⟩
  | false =>
    rw [ho] at c8
    cases hf : findF s t with
    | none =>
      rw [fidx_none hf] at HFI
      have HRE : Hid (R = (91, s)) := hid (by rw [hR]; unfold writeD; rw [if_neg (by rw [ho]; decide), hf])
      clear h hb hR hf hok2 hqu
      go_enter Tryz.func28, Tryz.ntmps28
      go_wp2_with fail
      refine HFI.out.mono ?_
      rintro e w1 ⟨rfl, hw⟩
      subst hw
      go_wp2_with fail
      go_ret
      rw [HRE.out]
      exact ⟨rfl, HST.out⟩
    | some f =>
      obtain ⟨ix, hix, hfx, hfe⟩ := fidx_some hf
      rw [hfx] at HFI
      have hi0 : ¬ (ix : Int) < 0 := by omega
      obtain ⟨m, hm⟩ : ∃ m, m = (pagesOf s f).length := ⟨_, rfl⟩
      obtain ⟨qu, hqv⟩ : ∃ qu, qu = s.quota := ⟨_, rfl⟩
      obtain ⟨us, hus⟩ : ∃ us, us = usedN s := ⟨_, rfl⟩
      have hR1 : R = if 256 < b.length then (2, s) else if n < 0 ∨ (m : Int) < n then (92, s) else if n = (m : Int) ∧ qu ≤ us then (93, s) else doD s fun s' => addO s' ⟨s.steps, f.no, n.toNat, pageB b⟩ := by
        rw [hR]
        unfold writeD
        rw [if_neg (by rw [ho]; decide), hf, hm, hqv, hus]
        rfl
      by_cases h256 : 256 < b.length
      · have HRE : Hid (R = (2, s)) := hid (by rw [hR1, if_pos h256])
        have hl1 : (256 : Int) < (b.length : Int) := by omega
        generalize b.length = bl at *
        clear h hb hR hR1 hf hfx hfe hix hok2 hqu h256 hm hqv hus
        go_enter Tryz.func28, Tryz.ntmps28
        go_wp2_with fail
        refine HFI.out.mono ?_
        rintro e w1 ⟨rfl, hw⟩
        subst hw
        go_wp2_with fail
        go_ret
        rw [HRE.out]
        exact ⟨rfl, HST.out⟩
      · rw [if_neg h256] at hR1
        have hl1 : ¬ (256 : Int) < (b.length : Int) := by omega
        have HPG : Hid (Calls Tryz.prog 60 #[.pointer (some ⟨q, 0, none⟩), .int .i64 (ix : Int)] w fun e w' => ∃ ao c, e = .returned (.slice ao m c) ∧ w'.cell? ⟨q, 3, none⟩ = some (.int .i64 (qu : Int)) ∧ Below w.heap.size w w') := hid (by
          refine (rpages_any w q s fv ov ss h hqu ix hix).mono ?_
          rintro e w' ⟨v, he, ht, hB, hg⟩
          rw [hfe] at ht
          obtain ⟨ao, c, hv2⟩ := row_shape ht
          subst hv2
          rw [← hm] at he
          exact ⟨ao, c, he, by rw [hqv]; exact (cell_of_heap ((hB.block q (lt_of_block hb)).trans hb) 3).trans rfl, hB⟩)
        by_cases hp : n < 0 ∨ (m : Int) < n
        · have HRE : Hid (R = (92, s)) := hid (by rw [hR1, if_pos hp])
          clear h hb hR hR1 hf hfx hfe hix hok2 hqu h256 hm hqv hus
          rcases hp with hp | hp
          · generalize b.length = bl at *
            go_enter Tryz.func28, Tryz.ntmps28
            go_wp2_with fail
            refine HFI.out.mono ?_
            rintro e w1 ⟨rfl, hw⟩
            subst hw
            go_wp2_with fail
            refine HPG.out.mono ?_
            rintro e w2 ⟨ao, c, rfl, d3, hb2⟩
            have HB2 := hid hb2
            clear hb2
            go_wp2_with fail
            go_ret
            rw [HRE.out]
            exact ⟨rfl, HLO.out _ HB2.out⟩
          · have hp2 : ¬ n < 0 := by omega
            generalize b.length = bl at *
            go_enter Tryz.func28, Tryz.ntmps28
            go_wp2_with fail
            refine HFI.out.mono ?_
            rintro e w1 ⟨rfl, hw⟩
            subst hw
            go_wp2_with fail
            refine HPG.out.mono ?_
            rintro e w2 ⟨ao, c, rfl, d3, hb2⟩
            have HB2 := hid hb2
            clear hb2
            go_wp2_with fail
            go_ret
            rw [HRE.out]
            exact ⟨rfl, HLO.out _ HB2.out⟩
        · rw [if_neg hp] at hR1
          have hp1 : ¬ n < 0 := fun e => hp (.inl e)
          have hp2 : ¬ (m : Int) < n := fun e => hp (.inr e)
          have HUS : Hid (∀ w2, Below w.heap.size w w2 → Calls Tryz.prog 38 #[.pointer (some ⟨q, 0, none⟩)] w2.drew fun e w' => ∃ v, e = .returned v ∧ v = .int .i64 (us : Int) ∧ Below w2.heap.size w2.drew w') := hid (fun w2 hB => by
            have h2 : Rv w2.drew q s fv ov ss := (h.low hB).same (fun _ _ => rfl)
            refine (rused_any w2.drew q s fv ov ss h2 hqu).mono ?_
            rintro e w' ⟨he, hb⟩
            exact ⟨_, he, by rw [hus], hb⟩)
          have HQ3 : Hid (∀ w2 w3, Below w.heap.size w w2 → Below w2.heap.size w2.drew w3 → w3.cell? ⟨q, 3, none⟩ = some (.int .i64 (qu : Int))) := hid (fun w2 w3 hB hB3 => by
            have hql := lt_of_block hb
            have hb3 := (hB3.block q (Nat.lt_of_lt_of_le hql hB.size)).trans ((hB.block q hql).trans hb)
            rw [hqv]
            exact (cell_of_heap hb3 3).trans rfl)
          by_cases hq93 : n = (m : Int) ∧ qu ≤ us
          · have HRE : Hid (R = (93, s)) := hid (by rw [hR1, if_pos hq93])
            obtain ⟨hnm, hle⟩ := hq93
            have hle2 : (qu : Int) ≤ (us : Int) := by omega
            have HLE : Hid (∀ w2 w3, Below w.heap.size w w2 → Below w2.heap.size w2.drew w3 → Rleft w q fv ov ss s w3) := hid (fun w2 w3 h1 h2 => HLO.out w3 ⟨h2.os.trans h1.os, h2.tape.trans h1.tape, h2.output.trans h1.output, Nat.le_trans h1.size h2.size, fun k hk => (h2.block k (Nat.lt_of_lt_of_le hk h1.size)).trans (h1.block k hk)⟩)
            clear h hb hR hR1 hf hfx hfe hix hok2 hqu h256 hm hqv hus hp hle hp1 hp2
            subst hnm
            generalize b.length = bl at *
            go_enter Tryz.func28, Tryz.ntmps28
            go_wp2_with fail
            refine HFI.out.mono ?_
            rintro e w1 ⟨rfl, hw⟩
            subst hw
            go_wp2_with fail
            refine HPG.out.mono ?_
            rintro e w2 ⟨ao, c, rfl, d3, hb2⟩
            have HB2 := hid hb2
            have HUS := hid (HUS.out w2 hb2)
            have HQ3 := hid (fun w3 => HQ3.out w2 w3 hb2)
            clear hb2
            go_wp2_with fail
            have hs0 : (fun W : World => W.cell? ⟨q, 3, none⟩ = some (.int .i64 (qu : Int))) w2.drew := d3
            refine wp_region_held (S := fun W : World => W.cell? ⟨q, 3, none⟩ = some (.int .i64 (qu : Int))) (by kernel_rfl) ?_
            refine wpAnyH_take (i := 0) (oi := gw0) (v := .int .i64 (m : Int)) rfl (by kernel_rfl) (by kernel_rfl) (by kernel_rfl) (fun _ _ _ h => h) (y_all rfl (fun _ => rfl)) hs0 ?_
            refine wpAnyH_take (i := 1) (oi := gw1) (v := .int .i64 (m : Int)) rfl (by kernel_rfl) (by kernel_rfl) (by kernel_rfl) (fun _ _ _ h => h) (y_all rfl (fun _ => rfl)) hs0 ?_
            simp only [Act.put, gw0, gw1, List.setIfInBounds_toArray, List.set_cons_zero, List.set_cons_succ]
            refine wpAnyH_take (i := 2) (oi := gw2) (v := .bool true) rfl (by kernel_rfl) (by kernel_rfl) (by kernel_rfl) (fun _ _ _ h => h) (y_all rfl (fun _ => by simp only [gw2]; go_simp)) hs0 ?_
            simp only [Act.put, gw2, List.setIfInBounds_toArray, List.set_cons_zero, List.set_cons_succ]
            refine wpAnyH_take (i := 3) (oi := gw3) (v := .bool true) rfl (by kernel_rfl) (by kernel_rfl) (by kernel_rfl) (fun _ _ _ h => h) (y_all rfl (fun _ => rfl)) hs0 ?_
            simp only [Act.put, gw3, List.setIfInBounds_toArray, List.set_cons_zero, List.set_cons_succ]
            refine wpAnyH_take (i := 4) (oi := gw4) (v := .pointer (some ⟨q, 0, none⟩)) rfl (by kernel_rfl) (by kernel_rfl) (by kernel_rfl) (fun _ _ _ h => h) (g_all (by rfl) (fun _ => rfl)) hs0 ?_
            refine wpAnyH_take (i := 6) (oi := gw6) (v := .pointer (some ⟨q, 0, none⟩)) rfl (by kernel_rfl) (by kernel_rfl) (by kernel_rfl) (fun _ _ _ h => h) (g_all (by rfl) (fun _ => rfl)) hs0 ?_
            simp only [Act.put, gw4, gw6, List.setIfInBounds_toArray, List.set_cons_zero, List.set_cons_succ]
            refine wpAnyH_take (i := 7) (oi := gw7) (v := .pointer (some ⟨q, 0, none⟩)) rfl (by kernel_rfl) (by kernel_rfl) (by kernel_rfl) (fun _ _ _ h => h) (g_all (by rfl) (fun _ => rfl)) hs0 ?_
            simp only [Act.put, gw7, List.setIfInBounds_toArray, List.set_cons_zero, List.set_cons_succ]
            refine wpAnyH_take (i := 8) (oi := gw8) (v := .pointer (some ⟨q, 3, none⟩)) rfl (by kernel_rfl) (by kernel_rfl) (by kernel_rfl) (fun _ _ _ h => h) (g_all (by rfl) (fun _ => by simp only [gw8]; go_simp)) hs0 ?_
            simp only [Act.put, gw8, List.setIfInBounds_toArray, List.set_cons_zero, List.set_cons_succ]
            refine wpAnyH_take (i := 9) (oi := gw9) (v := .int .i64 (qu : Int)) rfl (by kernel_rfl) (by kernel_rfl) (by kernel_rfl) (fun _ _ _ h => h) (g_load (by rfl) 3 (.tmp 44) rfl q 3 rfl (fun w hw => load3 hw)) hs0 ?_
            simp only [Act.put, gw9, List.setIfInBounds_toArray, List.set_cons_zero, List.set_cons_succ]
            refine wpAnyH_all (rs := [5]) (by kernel_rfl) (by simp) (all1 ?_)
            refine g_call (o := gw5) (f := 38) (args := #[.pointer (some ⟨q, 0, none⟩)]) (R := fun v w' => v = .int .i64 (us : Int) ∧ Below w2.heap.size w2.drew w') rfl (by rfl) (by simp only [gw5]; go_simp) HUS.out ?_
            rintro v w3 ⟨rfl, hb3⟩
            have hs0 := HQ3.out w3 hb3
            have HB3 := hid hb3
            clear hb3
            refine ⟨hs0, ?_⟩
            simp only [Act.put, gw5, List.setIfInBounds_toArray, List.set_cons_zero, List.set_cons_succ]
            refine wpAnyH_take (i := 10) (oi := gw10) (v := .bool true) rfl (by kernel_rfl) (by kernel_rfl) (by kernel_rfl) (fun _ _ _ h => h) (g_all (by rfl) (fun _ => by simp only [gw10]; go_simp)) hs0 ?_
            simp only [Act.put, gw10, List.setIfInBounds_toArray, List.set_cons_zero, List.set_cons_succ]
            refine wpAnyH_take (i := 11) (oi := gw11) (v := .bool true) rfl (by kernel_rfl) (by kernel_rfl) (by kernel_rfl) (fun _ _ _ h => h) (y_all rfl (fun _ => by simp only [gw11]; go_simp)) hs0 ?_
            simp only [Act.put, gw11, List.setIfInBounds_toArray, List.set_cons_zero, List.set_cons_succ]
            refine wpAnyH_take (i := 12) (oi := gw12) (v := .bool true) rfl (by kernel_rfl) (by kernel_rfl) (by kernel_rfl) (fun _ _ _ h => h) (y_all rfl (fun _ => rfl)) hs0 ?_
            refine wpAnyH_done (by kernel_rfl) ?_ _
            simp only [Act.put, gw12, List.setIfInBounds_toArray, List.set_cons_zero, List.set_cons_succ]
            clear hs0
            go_wp2_with fail
            go_ret
            rw [HRE.out]
            exact ⟨rfl, HLE.out _ _ HB2.out HB3.out⟩
          · rw [if_neg hq93] at hR1
            obtain ⟨pn, hpn⟩ : ∃ pn : Nat, n = (pn : Int) := ⟨n.toNat, by omega⟩
            subst hpn
            have hR2 : R = doD s fun s' => addO s' ⟨s.steps, f.no, pn, pageB b⟩ := hR1
            have HRW : Hid (∀ W, Below w.heap.size w W → Rv W q s fv ov ss) := hid (fun W hW => h.low hW)
            have HBB : Hid (∀ w2 w3, Below w.heap.size w w2 → Below w2.heap.size w2.drew w3 → Below w.heap.size w w3) := hid (fun w2 w3 h1 h2 => ⟨h2.os.trans h1.os, h2.tape.trans h1.tape, h2.output.trans h1.output, Nat.le_trans h1.size h2.size, fun k hk => (h2.block k (Nat.lt_of_lt_of_le hk h1.size)).trans (h1.block k hk)⟩)
            cases hs : stepD s with
            | none =>
              have HRE : Hid (R = (7, offD s)) := hid (by rw [hR2]; unfold doD; rw [hs])
              have HSP : Hid (∀ W, Below w.heap.size w W → Calls Tryz.prog 59 #[.pointer (some ⟨q, 0, none⟩)] W fun e w' => e = .returned (.bool false) ∧ Rleft w q fv ov ss (offD s) w') := hid (fun W hW => by
                refine (rstep_no W q s fv ov ss (HRW.out W hW) hs).mono ?_
                rintro e w' ⟨he, h1, h2⟩
                exact ⟨he, fv, ov, ss, h1, (below_kf hW).trans (h2.more (G := Rm q fv ov) (fun g hg => by simp at hg; simp [Rm, hg])) (fun g hg => .inl hg), fun g hg => .inl hg⟩)
              by_cases hnm : pn = m
              · have hle : ¬ (qu : Int) ≤ (us : Int) := by omega
                have hle3 : us < qu := by omega
                subst hnm
                generalize b.length = bl at *
                clear h hb hR hR1 hR2 hf hfx hfe hix hok2 hqu h256 hm hqv hus hp hq93 hs HRW
                go_enter Tryz.func28, Tryz.ntmps28
                go_wp2_with fail
                refine HFI.out.mono ?_
                rintro e w1 ⟨rfl, hw⟩
                subst hw
                go_wp2_with fail
                refine HPG.out.mono ?_
                rintro e w2 ⟨ao, c, rfl, d3, hb2⟩
                have HB2 := hid hb2
                have HUS := hid (HUS.out w2 hb2)
                have HQ3 := hid (fun w3 => HQ3.out w2 w3 hb2)
                clear hb2
                go_wp2_with fail
                have hs0 : (fun W : World => W.cell? ⟨q, 3, none⟩ = some (.int .i64 (qu : Int))) w2.drew := d3
                refine wp_region_held (S := fun W : World => W.cell? ⟨q, 3, none⟩ = some (.int .i64 (qu : Int))) (by kernel_rfl) ?_
                refine wpAnyH_take (i := 0) (oi := gw0) (v := .int .i64 (pn : Int)) rfl (by kernel_rfl) (by kernel_rfl) (by kernel_rfl) (fun _ _ _ h => h) (y_all rfl (fun _ => rfl)) hs0 ?_
                refine wpAnyH_take (i := 1) (oi := gw1) (v := .int .i64 (pn : Int)) rfl (by kernel_rfl) (by kernel_rfl) (by kernel_rfl) (fun _ _ _ h => h) (y_all rfl (fun _ => rfl)) hs0 ?_
                simp only [Act.put, gw0, gw1, List.setIfInBounds_toArray, List.set_cons_zero, List.set_cons_succ]
                refine wpAnyH_take (i := 2) (oi := gw2) (v := .bool true) rfl (by kernel_rfl) (by kernel_rfl) (by kernel_rfl) (fun _ _ _ h => h) (y_all rfl (fun _ => by simp only [gw2]; go_simp)) hs0 ?_
                simp only [Act.put, gw2, List.setIfInBounds_toArray, List.set_cons_zero, List.set_cons_succ]
                refine wpAnyH_take (i := 3) (oi := gw3) (v := .bool true) rfl (by kernel_rfl) (by kernel_rfl) (by kernel_rfl) (fun _ _ _ h => h) (y_all rfl (fun _ => rfl)) hs0 ?_
                simp only [Act.put, gw3, List.setIfInBounds_toArray, List.set_cons_zero, List.set_cons_succ]
                refine wpAnyH_take (i := 4) (oi := gw4) (v := .pointer (some ⟨q, 0, none⟩)) rfl (by kernel_rfl) (by kernel_rfl) (by kernel_rfl) (fun _ _ _ h => h) (g_all (by rfl) (fun _ => rfl)) hs0 ?_
                refine wpAnyH_take (i := 6) (oi := gw6) (v := .pointer (some ⟨q, 0, none⟩)) rfl (by kernel_rfl) (by kernel_rfl) (by kernel_rfl) (fun _ _ _ h => h) (g_all (by rfl) (fun _ => rfl)) hs0 ?_
                simp only [Act.put, gw4, gw6, List.setIfInBounds_toArray, List.set_cons_zero, List.set_cons_succ]
                refine wpAnyH_take (i := 7) (oi := gw7) (v := .pointer (some ⟨q, 0, none⟩)) rfl (by kernel_rfl) (by kernel_rfl) (by kernel_rfl) (fun _ _ _ h => h) (g_all (by rfl) (fun _ => rfl)) hs0 ?_
                simp only [Act.put, gw7, List.setIfInBounds_toArray, List.set_cons_zero, List.set_cons_succ]
                refine wpAnyH_take (i := 8) (oi := gw8) (v := .pointer (some ⟨q, 3, none⟩)) rfl (by kernel_rfl) (by kernel_rfl) (by kernel_rfl) (fun _ _ _ h => h) (g_all (by rfl) (fun _ => by simp only [gw8]; go_simp)) hs0 ?_
                simp only [Act.put, gw8, List.setIfInBounds_toArray, List.set_cons_zero, List.set_cons_succ]
                refine wpAnyH_take (i := 9) (oi := gw9) (v := .int .i64 (qu : Int)) rfl (by kernel_rfl) (by kernel_rfl) (by kernel_rfl) (fun _ _ _ h => h) (g_load (by rfl) 3 (.tmp 44) rfl q 3 rfl (fun w hw => load3 hw)) hs0 ?_
                simp only [Act.put, gw9, List.setIfInBounds_toArray, List.set_cons_zero, List.set_cons_succ]
                refine wpAnyH_all (rs := [5]) (by kernel_rfl) (by simp) (all1 ?_)
                refine g_call (o := gw5) (f := 38) (args := #[.pointer (some ⟨q, 0, none⟩)]) (R := fun v w' => v = .int .i64 (us : Int) ∧ Below w2.heap.size w2.drew w') rfl (by rfl) (by simp only [gw5]; go_simp) HUS.out ?_
                rintro v w3 ⟨rfl, hb3⟩
                have hs0 := HQ3.out w3 hb3
                have HB3 := hid hb3
                clear hb3
                refine ⟨hs0, ?_⟩
                simp only [Act.put, gw5, List.setIfInBounds_toArray, List.set_cons_zero, List.set_cons_succ]
                refine wpAnyH_take (i := 10) (oi := gw10) (v := .bool false) rfl (by kernel_rfl) (by kernel_rfl) (by kernel_rfl) (fun _ _ _ h => h) (g_all (by rfl) (fun _ => by simp only [gw10]; go_simp)) hs0 ?_
                simp only [Act.put, gw10, List.setIfInBounds_toArray, List.set_cons_zero, List.set_cons_succ]
                refine wpAnyH_take (i := 11) (oi := gw11) (v := .bool false) rfl (by kernel_rfl) (by kernel_rfl) (by kernel_rfl) (fun _ _ _ h => h) (y_all rfl (fun _ => by simp only [gw11]; go_simp)) hs0 ?_
                simp only [Act.put, gw11, List.setIfInBounds_toArray, List.set_cons_zero, List.set_cons_succ]
                refine wpAnyH_take (i := 12) (oi := gw12) (v := .bool false) rfl (by kernel_rfl) (by kernel_rfl) (by kernel_rfl) (fun _ _ _ h => h) (y_all rfl (fun _ => rfl)) hs0 ?_
                refine wpAnyH_done (by kernel_rfl) ?_ _
                simp only [Act.put, gw12, List.setIfInBounds_toArray, List.set_cons_zero, List.set_cons_succ]
                clear hs0
                have hB3 := HBB.out _ _ HB2.out HB3.out
                have HSQ := hid (HSP.out w3 hB3)
                clear hB3
                go_wp2_with fail
                refine HSQ.out.mono ?_
                rintro e w4 ⟨rfl, hL⟩
                have HL := hid hL
                clear hL
                go_wp2_with fail
                go_ret
                rw [HRE.out]
                exact ⟨rfl, HL.out⟩
              · have hne : ¬ (pn : Int) = (m : Int) := by omega
                generalize b.length = bl at *
                clear h hb hR hR1 hR2 hf hfx hfe hix hok2 hqu h256 hm hqv hus hp hq93 hs HRW
                go_enter Tryz.func28, Tryz.ntmps28
                go_wp2_with fail
                refine HFI.out.mono ?_
                rintro e w1 ⟨rfl, hw⟩
                subst hw
                go_wp2_with fail
                refine HPG.out.mono ?_
                rintro e w2 ⟨ao, c, rfl, d3, hb2⟩
                have HB2 := hid hb2
                have HUS := hid (HUS.out w2 hb2)
                have HQ3 := hid (fun w3 => HQ3.out w2 w3 hb2)
                clear hb2
                go_wp2_with fail
                have hs0 : (fun W : World => W.cell? ⟨q, 3, none⟩ = some (.int .i64 (qu : Int))) w2.drew := d3
                refine wp_region_held (S := fun W : World => W.cell? ⟨q, 3, none⟩ = some (.int .i64 (qu : Int))) (by kernel_rfl) ?_
                refine wpAnyH_take (i := 0) (oi := gw0) (v := .int .i64 (pn : Int)) rfl (by kernel_rfl) (by kernel_rfl) (by kernel_rfl) (fun _ _ _ h => h) (y_all rfl (fun _ => rfl)) hs0 ?_
                refine wpAnyH_take (i := 1) (oi := gw1) (v := .int .i64 (m : Int)) rfl (by kernel_rfl) (by kernel_rfl) (by kernel_rfl) (fun _ _ _ h => h) (y_all rfl (fun _ => rfl)) hs0 ?_
                simp only [Act.put, gw0, gw1, List.setIfInBounds_toArray, List.set_cons_zero, List.set_cons_succ]
                refine wpAnyH_take (i := 2) (oi := gw2) (v := .bool false) rfl (by kernel_rfl) (by kernel_rfl) (by kernel_rfl) (fun _ _ _ h => h) (y_all rfl (fun _ => by simp only [gw2]; go_simp)) hs0 ?_
                simp only [Act.put, gw2, List.setIfInBounds_toArray, List.set_cons_zero, List.set_cons_succ]
                refine wpAnyH_take (i := 3) (oi := gw3) (v := .bool false) rfl (by kernel_rfl) (by kernel_rfl) (by kernel_rfl) (fun _ _ _ h => h) (y_all rfl (fun _ => rfl)) hs0 ?_
                simp only [Act.put, gw3, List.setIfInBounds_toArray, List.set_cons_zero, List.set_cons_succ]
                refine wpAnyH_take (i := 4) (oi := gw4) (v := undef) rfl (by kernel_rfl) (by kernel_rfl) (by kernel_rfl) (fun _ _ _ h => h) (g_skip (by rfl)) hs0 ?_
                simp only [Act.put, gw4, List.setIfInBounds_toArray, List.set_cons_zero, List.set_cons_succ]
                refine wpAnyH_take (i := 5) (oi := gw5) (v := undef) rfl (by kernel_rfl) (by kernel_rfl) (by kernel_rfl) (fun _ _ _ h => h) (g_skip (by rfl)) hs0 ?_
                simp only [Act.put, gw5, List.setIfInBounds_toArray, List.set_cons_zero, List.set_cons_succ]
                refine wpAnyH_take (i := 6) (oi := gw6) (v := undef) rfl (by kernel_rfl) (by kernel_rfl) (by kernel_rfl) (fun _ _ _ h => h) (g_skip (by rfl)) hs0 ?_
                simp only [Act.put, gw6, List.setIfInBounds_toArray, List.set_cons_zero, List.set_cons_succ]
                refine wpAnyH_take (i := 7) (oi := gw7) (v := undef) rfl (by kernel_rfl) (by kernel_rfl) (by kernel_rfl) (fun _ _ _ h => h) (g_skip (by rfl)) hs0 ?_
                simp only [Act.put, gw7, List.setIfInBounds_toArray, List.set_cons_zero, List.set_cons_succ]
                refine wpAnyH_take (i := 8) (oi := gw8) (v := undef) rfl (by kernel_rfl) (by kernel_rfl) (by kernel_rfl) (fun _ _ _ h => h) (g_skip (by rfl)) hs0 ?_
                simp only [Act.put, gw8, List.setIfInBounds_toArray, List.set_cons_zero, List.set_cons_succ]
                refine wpAnyH_take (i := 9) (oi := gw9) (v := undef) rfl (by kernel_rfl) (by kernel_rfl) (by kernel_rfl) (fun _ _ _ h => h) (g_skip (by rfl)) hs0 ?_
                simp only [Act.put, gw9, List.setIfInBounds_toArray, List.set_cons_zero, List.set_cons_succ]
                refine wpAnyH_take (i := 10) (oi := gw10) (v := undef) rfl (by kernel_rfl) (by kernel_rfl) (by kernel_rfl) (fun _ _ _ h => h) (g_skip (by rfl)) hs0 ?_
                simp only [Act.put, gw10, List.setIfInBounds_toArray, List.set_cons_zero, List.set_cons_succ]
                refine wpAnyH_take (i := 11) (oi := gw11) (v := .bool false) rfl (by kernel_rfl) (by kernel_rfl) (by kernel_rfl) (fun _ _ _ h => h) (y_all rfl (fun _ => by simp only [gw11]; go_simp)) hs0 ?_
                simp only [Act.put, gw11, List.setIfInBounds_toArray, List.set_cons_zero, List.set_cons_succ]
                refine wpAnyH_take (i := 12) (oi := gw12) (v := .bool false) rfl (by kernel_rfl) (by kernel_rfl) (by kernel_rfl) (fun _ _ _ h => h) (y_all rfl (fun _ => rfl)) hs0 ?_
                refine wpAnyH_done (by kernel_rfl) ?_ _
                simp only [Act.put, gw12, List.setIfInBounds_toArray, List.set_cons_zero, List.set_cons_succ]
                clear hs0
                have HSQ := hid (HSP.out w2.drew ⟨HB2.out.os, HB2.out.tape, HB2.out.output, HB2.out.size, HB2.out.block⟩)
                go_wp2_with fail
                refine HSQ.out.mono ?_
                rintro e w4 ⟨rfl, hL⟩
                have HL := hid hL
                clear hL
                go_wp2_with fail
                go_ret
                rw [HRE.out]
                exact ⟨rfl, HL.out⟩
            | some s' =>
              have hRE : R = (0, addO s' ⟨s.steps, f.no, pn, pageB b⟩) := by rw [hR2]; unfold doD; rw [hs]
              have HRE := hid hRE
              rw [hRE] at hok2
              obtain ⟨hok, e1, e2, e3, e4, e5, e6⟩ := step_ok h.ok hs
              have hix' : ix < s'.files.length := by rw [e1]; exact hix
              have hfe' : s'.files[ix].no = f.no := by rw [← hfe]; simp only [e1]
              have HSP : Hid (∀ W, Below w.heap.size w W → Calls Tryz.prog 59 #[.pointer (some ⟨q, 0, none⟩)] W fun e w' => e = .returned (.bool true) ∧ Rv w' q s' fv ov ss ∧ Kf [q] w w') := hid (fun W hW => by
                refine (rstep_yes W q s s' fv ov ss (HRW.out W hW) hs hst).mono ?_
                rintro e w' ⟨he, h1, h2⟩
                exact ⟨he, h1, (below_kf hW).trans h2 (fun g hg => .inl hg)⟩)
              have HWA : Hid (∀ w4, Rv w4 q s' fv ov ss → Kf [q] w w4 → ∃ g n cap a1 n1 c1 a6 n6 c6 w6, fv = .slice (some ⟨g, 0, none⟩) n cap ∧ ix < n ∧ ov = .slice a1 n1 c1 ∧ (∀ ty, (Builtin.append_ #[58, 58] ty #[.slice a1 n1 c1, .slice (some ⟨w4.heap.size + 1, 0, none⟩) 1 1]).run Tryz.prog ((w4.drew.alloc (noughts b)).alloc (.cells #[.int .i64 (f.no : Int), .int .i64 (pn : Int), St (pageB b)] 95)) = .ok (.slice a6 n6 c6) w6) ∧ Swr q g ix f.no fv ov (.slice ab b.length cb) b w4.drew ∧ Swr q g ix f.no fv ov (.slice ab b.length cb) b (w4.drew.alloc (noughts b)) ∧ Swr q g ix f.no fv ov (.slice ab b.length cb) b ((w4.drew.alloc (noughts b)).alloc (.cells #[.int .i64 (f.no : Int), .int .i64 (pn : Int), St (pageB b)] 95)) ∧ Swr q g ix f.no fv ov (.slice ab b.length cb) b w6 ∧ w6.frozen? ⟨q, 1, none⟩ = false ∧ Rleft w q fv ov ss (addO s' ⟨s.steps, f.no, pn, pageB b⟩) (w6.setCell ⟨q, 1, none⟩ (.slice a6 n6 c6))) := hid (fun w4 h4 hk4 => by
                obtain ⟨g, n0, cap, a1, n1, c1, a6, n6, c6, w6, r1, r2, r3, r4, r5, r6, r7, r8, r9, u1, u2, u3, u4, u5, u6⟩ := write_all (bv := .slice ab b.length cb) (b := b) h4 (fun W' hW' => hbr W' (fun k hk hn => (hW' k (Nat.lt_of_lt_of_le hk hk4.size) (fun hm => hn (by simp [Rm, hm]))).trans (hk4.blk k hk (fun hm => hn (by simp at hm; simp [Rm, hm]))))) hix' hok2
                rw [hfe'] at r5 r6 r7 r8
                refine ⟨g, n0, cap, a1, n1, c1, a6, n6, c6, w6, r1, r2, r3, r4, r5, r6, r7, r8, r9, u1, u2, u3, u4, ?_, fun k hk => ?_⟩
                · exact (hk4.more (fun g hg => by simp at hg; simp [Rm, hg])).trans u5 (fun g hg => .inl hg)
                · rcases u6 k hk with h5 | h5
                  · exact .inl h5
                  · exact .inr (Nat.le_trans hk4.size h5))
              obtain ⟨bl, hbl2⟩ : ∃ bl, bl = b.length := ⟨_, rfl⟩
              obtain ⟨z, hz⟩ : ∃ z, z = 256 - b.length := ⟨_, rfl⟩
              have hbw : IntKind.i64.wrap (256 - (bl : Int)) = (z : Int) := by rw [IntKind.wrap_i64]; omega
              have hzn : z ≤ 1000000 := by omega
              have HNG : Hid (noughts b = .cells (bcs (List.replicate z 0)).toArray 5) := hid (by rw [hz]; rfl)
              have HPB : Hid (b ++ List.replicate z 0 = pageB b) := hid (by rw [hz]; rfl)
              have HBZ : Hid (b.length + z ≤ 9223372036854775807) := hid (by omega)
              rw [← hbl2] at HWA hl1 ⊢
              generalize noughts b = NG at HWA HNG
              obtain ⟨pb, hpb⟩ : ∃ pb, pb = pageB b := ⟨_, rfl⟩
              rw [← hpb] at HWA HPB HRE
              clear hz hbl2 hbl hpb hbr
              by_cases hnm : pn = m
              · have hle : ¬ (qu : Int) ≤ (us : Int) := by omega
                have hle3 : us < qu := by omega
                subst hnm
                clear h hb hR hR1 hR2 hRE hf hfx hfe hix hok2 hqu h256 hm hqv hus hp hq93 hs HRW hok e1 e2 e3 e4 e5 e6 hix' hfe'
                go_enter Tryz.func28, Tryz.ntmps28
                go_wp2_with fail
                refine HFI.out.mono ?_
                rintro e w1 ⟨rfl, hw⟩
                subst hw
                go_wp2_with fail
                refine HPG.out.mono ?_
                rintro e w2 ⟨ao, c, rfl, d3, hb2⟩
                have HB2 := hid hb2
                have HUS := hid (HUS.out w2 hb2)
                have HQ3 := hid (fun w3 => HQ3.out w2 w3 hb2)
                clear hb2
                go_wp2_with fail
                have hs0 : (fun W : World => W.cell? ⟨q, 3, none⟩ = some (.int .i64 (qu : Int))) w2.drew := d3
                refine wp_region_held (S := fun W : World => W.cell? ⟨q, 3, none⟩ = some (.int .i64 (qu : Int))) (by kernel_rfl) ?_
                refine wpAnyH_take (i := 0) (oi := gw0) (v := .int .i64 (pn : Int)) rfl (by kernel_rfl) (by kernel_rfl) (by kernel_rfl) (fun _ _ _ h => h) (y_all rfl (fun _ => rfl)) hs0 ?_
                refine wpAnyH_take (i := 1) (oi := gw1) (v := .int .i64 (pn : Int)) rfl (by kernel_rfl) (by kernel_rfl) (by kernel_rfl) (fun _ _ _ h => h) (y_all rfl (fun _ => rfl)) hs0 ?_
                simp only [Act.put, gw0, gw1, List.setIfInBounds_toArray, List.set_cons_zero, List.set_cons_succ]
                refine wpAnyH_take (i := 2) (oi := gw2) (v := .bool true) rfl (by kernel_rfl) (by kernel_rfl) (by kernel_rfl) (fun _ _ _ h => h) (y_all rfl (fun _ => by simp only [gw2]; go_simp)) hs0 ?_
                simp only [Act.put, gw2, List.setIfInBounds_toArray, List.set_cons_zero, List.set_cons_succ]
                refine wpAnyH_take (i := 3) (oi := gw3) (v := .bool true) rfl (by kernel_rfl) (by kernel_rfl) (by kernel_rfl) (fun _ _ _ h => h) (y_all rfl (fun _ => rfl)) hs0 ?_
                simp only [Act.put, gw3, List.setIfInBounds_toArray, List.set_cons_zero, List.set_cons_succ]
                refine wpAnyH_take (i := 4) (oi := gw4) (v := .pointer (some ⟨q, 0, none⟩)) rfl (by kernel_rfl) (by kernel_rfl) (by kernel_rfl) (fun _ _ _ h => h) (g_all (by rfl) (fun _ => rfl)) hs0 ?_
                refine wpAnyH_take (i := 6) (oi := gw6) (v := .pointer (some ⟨q, 0, none⟩)) rfl (by kernel_rfl) (by kernel_rfl) (by kernel_rfl) (fun _ _ _ h => h) (g_all (by rfl) (fun _ => rfl)) hs0 ?_
                simp only [Act.put, gw4, gw6, List.setIfInBounds_toArray, List.set_cons_zero, List.set_cons_succ]
                refine wpAnyH_take (i := 7) (oi := gw7) (v := .pointer (some ⟨q, 0, none⟩)) rfl (by kernel_rfl) (by kernel_rfl) (by kernel_rfl) (fun _ _ _ h => h) (g_all (by rfl) (fun _ => rfl)) hs0 ?_
                simp only [Act.put, gw7, List.setIfInBounds_toArray, List.set_cons_zero, List.set_cons_succ]
                refine wpAnyH_take (i := 8) (oi := gw8) (v := .pointer (some ⟨q, 3, none⟩)) rfl (by kernel_rfl) (by kernel_rfl) (by kernel_rfl) (fun _ _ _ h => h) (g_all (by rfl) (fun _ => by simp only [gw8]; go_simp)) hs0 ?_
                simp only [Act.put, gw8, List.setIfInBounds_toArray, List.set_cons_zero, List.set_cons_succ]
                refine wpAnyH_take (i := 9) (oi := gw9) (v := .int .i64 (qu : Int)) rfl (by kernel_rfl) (by kernel_rfl) (by kernel_rfl) (fun _ _ _ h => h) (g_load (by rfl) 3 (.tmp 44) rfl q 3 rfl (fun w hw => load3 hw)) hs0 ?_
                simp only [Act.put, gw9, List.setIfInBounds_toArray, List.set_cons_zero, List.set_cons_succ]
                refine wpAnyH_all (rs := [5]) (by kernel_rfl) (by simp) (all1 ?_)
                refine g_call (o := gw5) (f := 38) (args := #[.pointer (some ⟨q, 0, none⟩)]) (R := fun v w' => v = .int .i64 (us : Int) ∧ Below w2.heap.size w2.drew w') rfl (by rfl) (by simp only [gw5]; go_simp) HUS.out ?_
                rintro v w3 ⟨rfl, hb3⟩
                have hs0 := HQ3.out w3 hb3
                have HB3 := hid hb3
                clear hb3
                refine ⟨hs0, ?_⟩
                simp only [Act.put, gw5, List.setIfInBounds_toArray, List.set_cons_zero, List.set_cons_succ]
                refine wpAnyH_take (i := 10) (oi := gw10) (v := .bool false) rfl (by kernel_rfl) (by kernel_rfl) (by kernel_rfl) (fun _ _ _ h => h) (g_all (by rfl) (fun _ => by simp only [gw10]; go_simp)) hs0 ?_
                simp only [Act.put, gw10, List.setIfInBounds_toArray, List.set_cons_zero, List.set_cons_succ]
                refine wpAnyH_take (i := 11) (oi := gw11) (v := .bool false) rfl (by kernel_rfl) (by kernel_rfl) (by kernel_rfl) (fun _ _ _ h => h) (y_all rfl (fun _ => by simp only [gw11]; go_simp)) hs0 ?_
                simp only [Act.put, gw11, List.setIfInBounds_toArray, List.set_cons_zero, List.set_cons_succ]
                refine wpAnyH_take (i := 12) (oi := gw12) (v := .bool false) rfl (by kernel_rfl) (by kernel_rfl) (by kernel_rfl) (fun _ _ _ h => h) (y_all rfl (fun _ => rfl)) hs0 ?_
                refine wpAnyH_done (by kernel_rfl) ?_ _
                simp only [Act.put, gw12, List.setIfInBounds_toArray, List.set_cons_zero, List.set_cons_succ]
                clear hs0
                have hB3 := HBB.out _ _ HB2.out HB3.out
                have HSQ := hid (HSP.out w3 hB3)
                clear hB3
                go_wp2_with fail
                refine HSQ.out.mono ?_
                rintro e w4 ⟨rfl, h4, hk4⟩
                obtain ⟨g, n0, cap, a1, n1, c1, a6, n6, c6, w6, hfv, hixn, hov, hrn, s0, s1, s2, s6, f6, hL⟩ := HWA.out w4 h4 hk4
                subst hfv
                subst hov
                have HRN := hid hrn
                have HS1 := hid s1
                have HS2 := hid s2
                have HS6 := hid s6
                have HF6 := hid f6
                have HL := hid hL
                have hs0 := s0
                have hix1 : (ix : Int) < (n0 : Int) := by omega
                clear hrn s0 s1 s2 s6 f6 hL h4 hk4
                go_wp2_with fail
                refine region_z (Swr q g ix f.no (.slice (some ⟨g, 0, none⟩) n0 cap) (.slice a1 n1 c1) (.slice ab bl cb) b) 27 (by kernel_rfl) ?_
                refine z_take (i := 0) (oi := wx0) (v := .pointer (some ⟨q, 0, none⟩)) rfl (by kernel_rfl) (by kernel_rfl) (by kernel_rfl) (fun _ _ _ h => h) (by kernel_rfl) (by decide) (y_all rfl (fun _ => rfl)) hs0 ?_
                simp only [Act.put, wx0, List.setIfInBounds_toArray, List.set_cons_zero, List.set_cons_succ]
                refine z_take (i := 1) (oi := wx1) (v := .pointer (some ⟨q, 0, none⟩)) rfl (by kernel_rfl) (by kernel_rfl) (by kernel_rfl) (fun _ _ _ h => h) (by kernel_rfl) (by decide) (y_all rfl (fun _ => rfl)) hs0 ?_
                simp only [Act.put, wx1, List.setIfInBounds_toArray, List.set_cons_zero, List.set_cons_succ]
                refine z_take (i := 5) (oi := wx5) (v := .pointer (some ⟨q, 0, none⟩)) rfl (by kernel_rfl) (by kernel_rfl) (by kernel_rfl) (fun _ _ _ h => h) (by kernel_rfl) (by decide) (y_all rfl (fun _ => rfl)) hs0 ?_
                simp only [Act.put, wx5, List.setIfInBounds_toArray, List.set_cons_zero, List.set_cons_succ]
                refine z_take (i := 9) (oi := wx9) (v := .int .i64 (ix : Int)) rfl (by kernel_rfl) (by kernel_rfl) (by kernel_rfl) (fun _ _ _ h => h) (by kernel_rfl) (by decide) (y_all rfl (fun _ => rfl)) hs0 ?_
                simp only [Act.put, wx9, List.setIfInBounds_toArray, List.set_cons_zero, List.set_cons_succ]
                refine z_take (i := 13) (oi := wx13) (v := .int .i64 (pn : Int)) rfl (by kernel_rfl) (by kernel_rfl) (by kernel_rfl) (fun _ _ _ h => h) (by kernel_rfl) (by decide) (y_all rfl (fun _ => rfl)) hs0 ?_
                simp only [Act.put, wx13, List.setIfInBounds_toArray, List.set_cons_zero, List.set_cons_succ]
                refine z_take (i := 14) (oi := wx14) (v := .slice ab bl cb) rfl (by kernel_rfl) (by kernel_rfl) (by kernel_rfl) (fun _ _ _ h => h) (by kernel_rfl) (by decide) (y_all rfl (fun _ => rfl)) hs0 ?_
                simp only [Act.put, wx14, List.setIfInBounds_toArray, List.set_cons_zero, List.set_cons_succ]
                refine z_take (i := 16) (oi := wx16) (v := .slice ab bl cb) rfl (by kernel_rfl) (by kernel_rfl) (by kernel_rfl) (fun _ _ _ h => h) (by kernel_rfl) (by decide) (y_all rfl (fun _ => rfl)) hs0 ?_
                simp only [Act.put, wx16, List.setIfInBounds_toArray, List.set_cons_zero, List.set_cons_succ]
                refine z_take (i := 2) (oi := wx2) (v := .pointer (some ⟨q, 0, none⟩)) rfl (by kernel_rfl) (by kernel_rfl) (by kernel_rfl) (fun _ _ _ h => h) (by kernel_rfl) (by decide) (y_all rfl (fun _ => rfl)) hs0 ?_
                simp only [Act.put, wx2, List.setIfInBounds_toArray, List.set_cons_zero, List.set_cons_succ]
                refine z_take (i := 6) (oi := wx6) (v := .pointer (some ⟨q, 0, none⟩)) rfl (by kernel_rfl) (by kernel_rfl) (by kernel_rfl) (fun _ _ _ h => h) (by kernel_rfl) (by decide) (y_all rfl (fun _ => rfl)) hs0 ?_
                simp only [Act.put, wx6, List.setIfInBounds_toArray, List.set_cons_zero, List.set_cons_succ]
                refine z_take (i := 3) (oi := wx3) (v := .pointer (some ⟨q, 1, none⟩)) rfl (by kernel_rfl) (by kernel_rfl) (by kernel_rfl) (fun _ _ _ h => h) (by kernel_rfl) (by decide) (y_all rfl (fun _ => by simp only [wx3]; go_simp)) hs0 ?_
                simp only [Act.put, wx3, List.setIfInBounds_toArray, List.set_cons_zero, List.set_cons_succ]
                refine z_take (i := 7) (oi := wx7) (v := .pointer (some ⟨q, 0, none⟩)) rfl (by kernel_rfl) (by kernel_rfl) (by kernel_rfl) (fun _ _ _ h => h) (by kernel_rfl) (by decide) (y_all rfl (fun _ => by simp only [wx7]; go_simp)) hs0 ?_
                simp only [Act.put, wx7, List.setIfInBounds_toArray, List.set_cons_zero, List.set_cons_succ]
                refine z_take (i := 4) (oi := wx4) (v := .slice a1 n1 c1) rfl (by kernel_rfl) (by kernel_rfl) (by kernel_rfl) (fun _ _ _ h => h) (by kernel_rfl) (by decide) (y_load rfl 58 (.tmp 55) rfl q 1 rfl (fun w hw => load57 hw.1)) hs0 ?_
                simp only [Act.put, wx4, List.setIfInBounds_toArray, List.set_cons_zero, List.set_cons_succ]
                refine z_take (i := 8) (oi := wx8) (v := .slice (some ⟨g, 0, none⟩) n0 cap) rfl (by kernel_rfl) (by kernel_rfl) (by kernel_rfl) (fun _ _ _ h => h) (by kernel_rfl) (by decide) (y_load rfl 57 (.tmp 59) rfl q 0 rfl (fun w hw => load56 hw.2.1)) hs0 ?_
                simp only [Act.put, wx8, List.setIfInBounds_toArray, List.set_cons_zero, List.set_cons_succ]
                refine z_take (i := 10) (oi := wx10) (v := .pointer (some ⟨g, ix * 3, none⟩)) rfl (by kernel_rfl) (by kernel_rfl) (by kernel_rfl) (fun _ _ _ h => h) (by kernel_rfl) (by decide) (y_all rfl (fun _ => by simp only [wx10]; go_simp)) hs0 ?_
                simp only [Act.put, wx10, List.setIfInBounds_toArray, List.set_cons_zero, List.set_cons_succ]
                refine z_take (i := 11) (oi := wx11) (v := .pointer (some ⟨g, ix * 3, none⟩)) rfl (by kernel_rfl) (by kernel_rfl) (by kernel_rfl) (fun _ _ _ h => h) (by kernel_rfl) (by decide) (y_all rfl (fun _ => by simp only [wx11]; go_simp)) hs0 ?_
                simp only [Act.put, wx11, List.setIfInBounds_toArray, List.set_cons_zero, List.set_cons_succ]
                refine z_take (i := 12) (oi := wx12) (v := .int .i64 (f.no : Int)) rfl (by kernel_rfl) (by kernel_rfl) (by kernel_rfl) (fun _ _ _ h => h) (by kernel_rfl) (by decide) (y_load rfl 3 (.tmp 63) rfl g (ix * 3) rfl (fun w hw => load3 hw.2.2.1)) hs0 ?_
                simp only [Act.put, wx12, List.setIfInBounds_toArray, List.set_cons_zero, List.set_cons_succ]
                refine z_take (i := 15) (oi := wx15) (v := St b) rfl (by kernel_rfl) (by kernel_rfl) (by kernel_rfl) (fun _ _ _ h => h) (by kernel_rfl) (by decide) (y_text rfl (.tmp 66) rfl rfl (fun w hw => hw.2.2.2)) hs0 ?_
                simp only [Act.put, wx15, List.setIfInBounds_toArray, List.set_cons_zero, List.set_cons_succ]
                refine z_take (i := 17) (oi := wx17) (v := .int .i64 (bl : Int)) rfl (by kernel_rfl) (by kernel_rfl) (by kernel_rfl) (fun _ _ _ h => h) (by kernel_rfl) (by decide) (y_all rfl (fun _ => by simp only [wx17]; go_simp)) hs0 ?_
                simp only [Act.put, wx17, List.setIfInBounds_toArray, List.set_cons_zero, List.set_cons_succ]
                refine z_take (i := 18) (oi := wx18) (v := .int .i64 (z : Int)) rfl (by kernel_rfl) (by kernel_rfl) (by kernel_rfl) (fun _ _ _ h => h) (by kernel_rfl) (by decide) (y_all rfl (fun _ => by simp only [wx18]; go_simp)) hs0 ?_
                simp only [Act.put, wx18, List.setIfInBounds_toArray, List.set_cons_zero, List.set_cons_succ]
                refine z_all (rs := [19]) (by kernel_rfl) (by simp) (all1 ?_)
                refine op_make (o := wx19) rfl rfl (.tmp 70) rfl z (by rfl) hzn ?_
                rw [← HNG.out]
                have hs0 := HS1.out
                refine ⟨fun _ => hs0, ?_⟩
                simp only [Act.put, wx19, List.setIfInBounds_toArray, List.set_cons_zero, List.set_cons_succ]
                refine z_all (rs := [20]) (by kernel_rfl) (by simp) (all1 ?_)
                refine op_text (o := wx20) rfl rfl (.tmp 71) rfl (.slice (some ⟨w4.drew.heap.size, 0, none⟩) z z) (St (List.replicate z 0)) (by rfl) (by rw [HNG.out]; exact text_n _ _) ?_
                refine ⟨fun _ => hs0, ?_⟩
                simp only [Act.put, wx20, List.setIfInBounds_toArray, List.set_cons_zero, List.set_cons_succ]
                refine z_all (rs := [21]) (by kernel_rfl) (by simp) (all1 ?_)
                refine op_ok (o := wx21) (v := Value.string (⟨b.toArray⟩ ++ ⟨(List.replicate z (0 : UInt8)).toArray⟩)) (w' := w4.drew.alloc NG) rfl rfl (by simp only [wx21]; go_simp; exact HBZ.out) ?_
                rw [st_app, HPB.out]
                refine ⟨fun _ => hs0, ?_⟩
                simp only [Act.put, wx21, List.setIfInBounds_toArray, List.set_cons_zero, List.set_cons_succ]
                refine z_all (rs := [22]) (by kernel_rfl) (by simp) (all1 ?_)
                refine op_ok (o := wx22) (v := .agg #[.int .i64 (f.no : Int), .int .i64 (pn : Int), St pb]) (w' := w4.drew.alloc (NG)) rfl rfl (by simp only [wx22]; go_simp) ?_
                refine ⟨fun _ => hs0, ?_⟩
                simp only [Act.put, wx22, List.setIfInBounds_toArray, List.set_cons_zero, List.set_cons_succ]
                refine z_all (rs := [23]) (by kernel_rfl) (by simp) (all1 ?_)
                refine op_ok (o := wx23) (v := .slice (some ⟨w4.heap.size + 1, 0, none⟩) 1 1) (w' := (w4.drew.alloc (NG)).alloc (.cells #[.int .i64 (f.no : Int), .int .i64 (pn : Int), St pb] 95)) rfl rfl (by simp only [wx23]; go_simp) ?_
                have hs0 := HS2.out
                refine ⟨fun _ => hs0, ?_⟩
                simp only [Act.put, wx23, List.setIfInBounds_toArray, List.set_cons_zero, List.set_cons_succ]
                refine z_all (rs := [24]) (by kernel_rfl) (by simp) (all1 ?_)
                refine op_append (o := wx24) (v' := .slice a6 n6 c6) (w' := w6) rfl rfl (.tmp 56) (.tmp 75) 58 rfl (by rfl) (by rfl) HRN.out ?_
                have hs0 := HS6.out
                refine ⟨fun _ => hs0, ?_⟩
                simp only [Act.put, wx24, List.setIfInBounds_toArray, List.set_cons_zero, List.set_cons_succ]
                refine z_all (rs := [25]) (by kernel_rfl) (by simp) (all1 ?_)
                refine op_ok (o := wx25) (v := .pointer (some ⟨q, 0, none⟩)) (w' := w6) rfl rfl rfl ?_
                refine ⟨fun _ => hs0, ?_⟩
                simp only [Act.put, wx25, List.setIfInBounds_toArray, List.set_cons_zero, List.set_cons_succ]
                refine z_all (rs := [26]) (by kernel_rfl) (by simp) (all1 ?_)
                refine op_ok (o := wx26) (v := .pointer (some ⟨q, 1, none⟩)) (w' := w6) rfl rfl (by simp only [wx26]; go_simp) ?_
                refine ⟨fun _ => hs0, ?_⟩
                simp only [Act.put, wx26, List.setIfInBounds_toArray, List.set_cons_zero, List.set_cons_succ]
                refine z_all (rs := [27]) (by kernel_rfl) (by simp) (all1 ?_)
                have h00 := hs0.1
                have ff := HF6.out
                refine op_skip (o := wx27) (w' := w6.setCell ⟨q, 1, none⟩ (.slice a6 n6 c6)) rfl rfl (by simp only [wx27]; go_simp) ?_
                refine ⟨fun h => absurd rfl h, ?_⟩
                refine z_done (by kernel_rfl) ?_ _
                simp only [Act.put, wx27]
                clear hs0 h00
                go_wp2_with fail
                go_ret
                rw [HRE.out]
                exact ⟨rfl, HL.out⟩
              · have hne : ¬ (pn : Int) = (m : Int) := by omega
                clear h hb hR hR1 hR2 hRE hf hfx hfe hix hok2 hqu h256 hm hqv hus hp hq93 hs HRW hok e1 e2 e3 e4 e5 e6 hix' hfe'
                go_enter Tryz.func28, Tryz.ntmps28
                go_wp2_with fail
                refine HFI.out.mono ?_
                rintro e w1 ⟨rfl, hw⟩
                subst hw
                go_wp2_with fail
                refine HPG.out.mono ?_
                rintro e w2 ⟨ao, c, rfl, d3, hb2⟩
                have HB2 := hid hb2
                have HUS := hid (HUS.out w2 hb2)
                have HQ3 := hid (fun w3 => HQ3.out w2 w3 hb2)
                clear hb2
                go_wp2_with fail
                have hs0 : (fun W : World => W.cell? ⟨q, 3, none⟩ = some (.int .i64 (qu : Int))) w2.drew := d3
                refine wp_region_held (S := fun W : World => W.cell? ⟨q, 3, none⟩ = some (.int .i64 (qu : Int))) (by kernel_rfl) ?_
                refine wpAnyH_take (i := 0) (oi := gw0) (v := .int .i64 (pn : Int)) rfl (by kernel_rfl) (by kernel_rfl) (by kernel_rfl) (fun _ _ _ h => h) (y_all rfl (fun _ => rfl)) hs0 ?_
                refine wpAnyH_take (i := 1) (oi := gw1) (v := .int .i64 (m : Int)) rfl (by kernel_rfl) (by kernel_rfl) (by kernel_rfl) (fun _ _ _ h => h) (y_all rfl (fun _ => rfl)) hs0 ?_
                simp only [Act.put, gw0, gw1, List.setIfInBounds_toArray, List.set_cons_zero, List.set_cons_succ]
                refine wpAnyH_take (i := 2) (oi := gw2) (v := .bool false) rfl (by kernel_rfl) (by kernel_rfl) (by kernel_rfl) (fun _ _ _ h => h) (y_all rfl (fun _ => by simp only [gw2]; go_simp)) hs0 ?_
                simp only [Act.put, gw2, List.setIfInBounds_toArray, List.set_cons_zero, List.set_cons_succ]
                refine wpAnyH_take (i := 3) (oi := gw3) (v := .bool false) rfl (by kernel_rfl) (by kernel_rfl) (by kernel_rfl) (fun _ _ _ h => h) (y_all rfl (fun _ => rfl)) hs0 ?_
                simp only [Act.put, gw3, List.setIfInBounds_toArray, List.set_cons_zero, List.set_cons_succ]
                refine wpAnyH_take (i := 4) (oi := gw4) (v := undef) rfl (by kernel_rfl) (by kernel_rfl) (by kernel_rfl) (fun _ _ _ h => h) (g_skip (by rfl)) hs0 ?_
                simp only [Act.put, gw4, List.setIfInBounds_toArray, List.set_cons_zero, List.set_cons_succ]
                refine wpAnyH_take (i := 5) (oi := gw5) (v := undef) rfl (by kernel_rfl) (by kernel_rfl) (by kernel_rfl) (fun _ _ _ h => h) (g_skip (by rfl)) hs0 ?_
                simp only [Act.put, gw5, List.setIfInBounds_toArray, List.set_cons_zero, List.set_cons_succ]
                refine wpAnyH_take (i := 6) (oi := gw6) (v := undef) rfl (by kernel_rfl) (by kernel_rfl) (by kernel_rfl) (fun _ _ _ h => h) (g_skip (by rfl)) hs0 ?_
                simp only [Act.put, gw6, List.setIfInBounds_toArray, List.set_cons_zero, List.set_cons_succ]
                refine wpAnyH_take (i := 7) (oi := gw7) (v := undef) rfl (by kernel_rfl) (by kernel_rfl) (by kernel_rfl) (fun _ _ _ h => h) (g_skip (by rfl)) hs0 ?_
                simp only [Act.put, gw7, List.setIfInBounds_toArray, List.set_cons_zero, List.set_cons_succ]
                refine wpAnyH_take (i := 8) (oi := gw8) (v := undef) rfl (by kernel_rfl) (by kernel_rfl) (by kernel_rfl) (fun _ _ _ h => h) (g_skip (by rfl)) hs0 ?_
                simp only [Act.put, gw8, List.setIfInBounds_toArray, List.set_cons_zero, List.set_cons_succ]
                refine wpAnyH_take (i := 9) (oi := gw9) (v := undef) rfl (by kernel_rfl) (by kernel_rfl) (by kernel_rfl) (fun _ _ _ h => h) (g_skip (by rfl)) hs0 ?_
                simp only [Act.put, gw9, List.setIfInBounds_toArray, List.set_cons_zero, List.set_cons_succ]
                refine wpAnyH_take (i := 10) (oi := gw10) (v := undef) rfl (by kernel_rfl) (by kernel_rfl) (by kernel_rfl) (fun _ _ _ h => h) (g_skip (by rfl)) hs0 ?_
                simp only [Act.put, gw10, List.setIfInBounds_toArray, List.set_cons_zero, List.set_cons_succ]
                refine wpAnyH_take (i := 11) (oi := gw11) (v := .bool false) rfl (by kernel_rfl) (by kernel_rfl) (by kernel_rfl) (fun _ _ _ h => h) (y_all rfl (fun _ => by simp only [gw11]; go_simp)) hs0 ?_
                simp only [Act.put, gw11, List.setIfInBounds_toArray, List.set_cons_zero, List.set_cons_succ]
                refine wpAnyH_take (i := 12) (oi := gw12) (v := .bool false) rfl (by kernel_rfl) (by kernel_rfl) (by kernel_rfl) (fun _ _ _ h => h) (y_all rfl (fun _ => rfl)) hs0 ?_
                refine wpAnyH_done (by kernel_rfl) ?_ _
                simp only [Act.put, gw12, List.setIfInBounds_toArray, List.set_cons_zero, List.set_cons_succ]
                clear hs0
                have HSQ := hid (HSP.out w2.drew ⟨HB2.out.os, HB2.out.tape, HB2.out.output, HB2.out.size, HB2.out.block⟩)
                go_wp2_with fail
                refine HSQ.out.mono ?_
                rintro e w4 ⟨rfl, h4, hk4⟩
                obtain ⟨g, n0, cap, a1, n1, c1, a6, n6, c6, w6, hfv, hixn, hov, hrn, s0, s1, s2, s6, f6, hL⟩ := HWA.out w4 h4 hk4
                subst hfv
                subst hov
                have HRN := hid hrn
                have HS1 := hid s1
                have HS2 := hid s2
                have HS6 := hid s6
                have HF6 := hid f6
                have HL := hid hL
                have hs0 := s0
                have hix1 : (ix : Int) < (n0 : Int) := by omega
                clear hrn s0 s1 s2 s6 f6 hL h4 hk4
                go_wp2_with fail
                refine region_z (Swr q g ix f.no (.slice (some ⟨g, 0, none⟩) n0 cap) (.slice a1 n1 c1) (.slice ab bl cb) b) 27 (by kernel_rfl) ?_
                refine z_take (i := 0) (oi := wx0) (v := .pointer (some ⟨q, 0, none⟩)) rfl (by kernel_rfl) (by kernel_rfl) (by kernel_rfl) (fun _ _ _ h => h) (by kernel_rfl) (by decide) (y_all rfl (fun _ => rfl)) hs0 ?_
                simp only [Act.put, wx0, List.setIfInBounds_toArray, List.set_cons_zero, List.set_cons_succ]
                refine z_take (i := 1) (oi := wx1) (v := .pointer (some ⟨q, 0, none⟩)) rfl (by kernel_rfl) (by kernel_rfl) (by kernel_rfl) (fun _ _ _ h => h) (by kernel_rfl) (by decide) (y_all rfl (fun _ => rfl)) hs0 ?_
                simp only [Act.put, wx1, List.setIfInBounds_toArray, List.set_cons_zero, List.set_cons_succ]
                refine z_take (i := 5) (oi := wx5) (v := .pointer (some ⟨q, 0, none⟩)) rfl (by kernel_rfl) (by kernel_rfl) (by kernel_rfl) (fun _ _ _ h => h) (by kernel_rfl) (by decide) (y_all rfl (fun _ => rfl)) hs0 ?_
                simp only [Act.put, wx5, List.setIfInBounds_toArray, List.set_cons_zero, List.set_cons_succ]
                refine z_take (i := 9) (oi := wx9) (v := .int .i64 (ix : Int)) rfl (by kernel_rfl) (by kernel_rfl) (by kernel_rfl) (fun _ _ _ h => h) (by kernel_rfl) (by decide) (y_all rfl (fun _ => rfl)) hs0 ?_
                simp only [Act.put, wx9, List.setIfInBounds_toArray, List.set_cons_zero, List.set_cons_succ]
                refine z_take (i := 13) (oi := wx13) (v := .int .i64 (pn : Int)) rfl (by kernel_rfl) (by kernel_rfl) (by kernel_rfl) (fun _ _ _ h => h) (by kernel_rfl) (by decide) (y_all rfl (fun _ => rfl)) hs0 ?_
                simp only [Act.put, wx13, List.setIfInBounds_toArray, List.set_cons_zero, List.set_cons_succ]
                refine z_take (i := 14) (oi := wx14) (v := .slice ab bl cb) rfl (by kernel_rfl) (by kernel_rfl) (by kernel_rfl) (fun _ _ _ h => h) (by kernel_rfl) (by decide) (y_all rfl (fun _ => rfl)) hs0 ?_
                simp only [Act.put, wx14, List.setIfInBounds_toArray, List.set_cons_zero, List.set_cons_succ]
                refine z_take (i := 16) (oi := wx16) (v := .slice ab bl cb) rfl (by kernel_rfl) (by kernel_rfl) (by kernel_rfl) (fun _ _ _ h => h) (by kernel_rfl) (by decide) (y_all rfl (fun _ => rfl)) hs0 ?_
                simp only [Act.put, wx16, List.setIfInBounds_toArray, List.set_cons_zero, List.set_cons_succ]
                refine z_take (i := 2) (oi := wx2) (v := .pointer (some ⟨q, 0, none⟩)) rfl (by kernel_rfl) (by kernel_rfl) (by kernel_rfl) (fun _ _ _ h => h) (by kernel_rfl) (by decide) (y_all rfl (fun _ => rfl)) hs0 ?_
                simp only [Act.put, wx2, List.setIfInBounds_toArray, List.set_cons_zero, List.set_cons_succ]
                refine z_take (i := 6) (oi := wx6) (v := .pointer (some ⟨q, 0, none⟩)) rfl (by kernel_rfl) (by kernel_rfl) (by kernel_rfl) (fun _ _ _ h => h) (by kernel_rfl) (by decide) (y_all rfl (fun _ => rfl)) hs0 ?_
                simp only [Act.put, wx6, List.setIfInBounds_toArray, List.set_cons_zero, List.set_cons_succ]
                refine z_take (i := 3) (oi := wx3) (v := .pointer (some ⟨q, 1, none⟩)) rfl (by kernel_rfl) (by kernel_rfl) (by kernel_rfl) (fun _ _ _ h => h) (by kernel_rfl) (by decide) (y_all rfl (fun _ => by simp only [wx3]; go_simp)) hs0 ?_
                simp only [Act.put, wx3, List.setIfInBounds_toArray, List.set_cons_zero, List.set_cons_succ]
                refine z_take (i := 7) (oi := wx7) (v := .pointer (some ⟨q, 0, none⟩)) rfl (by kernel_rfl) (by kernel_rfl) (by kernel_rfl) (fun _ _ _ h => h) (by kernel_rfl) (by decide) (y_all rfl (fun _ => by simp only [wx7]; go_simp)) hs0 ?_
                simp only [Act.put, wx7, List.setIfInBounds_toArray, List.set_cons_zero, List.set_cons_succ]
                refine z_take (i := 4) (oi := wx4) (v := .slice a1 n1 c1) rfl (by kernel_rfl) (by kernel_rfl) (by kernel_rfl) (fun _ _ _ h => h) (by kernel_rfl) (by decide) (y_load rfl 58 (.tmp 55) rfl q 1 rfl (fun w hw => load57 hw.1)) hs0 ?_
                simp only [Act.put, wx4, List.setIfInBounds_toArray, List.set_cons_zero, List.set_cons_succ]
                refine z_take (i := 8) (oi := wx8) (v := .slice (some ⟨g, 0, none⟩) n0 cap) rfl (by kernel_rfl) (by kernel_rfl) (by kernel_rfl) (fun _ _ _ h => h) (by kernel_rfl) (by decide) (y_load rfl 57 (.tmp 59) rfl q 0 rfl (fun w hw => load56 hw.2.1)) hs0 ?_
                simp only [Act.put, wx8, List.setIfInBounds_toArray, List.set_cons_zero, List.set_cons_succ]
                refine z_take (i := 10) (oi := wx10) (v := .pointer (some ⟨g, ix * 3, none⟩)) rfl (by kernel_rfl) (by kernel_rfl) (by kernel_rfl) (fun _ _ _ h => h) (by kernel_rfl) (by decide) (y_all rfl (fun _ => by simp only [wx10]; go_simp)) hs0 ?_
                simp only [Act.put, wx10, List.setIfInBounds_toArray, List.set_cons_zero, List.set_cons_succ]
                refine z_take (i := 11) (oi := wx11) (v := .pointer (some ⟨g, ix * 3, none⟩)) rfl (by kernel_rfl) (by kernel_rfl) (by kernel_rfl) (fun _ _ _ h => h) (by kernel_rfl) (by decide) (y_all rfl (fun _ => by simp only [wx11]; go_simp)) hs0 ?_
                simp only [Act.put, wx11, List.setIfInBounds_toArray, List.set_cons_zero, List.set_cons_succ]
                refine z_take (i := 12) (oi := wx12) (v := .int .i64 (f.no : Int)) rfl (by kernel_rfl) (by kernel_rfl) (by kernel_rfl) (fun _ _ _ h => h) (by kernel_rfl) (by decide) (y_load rfl 3 (.tmp 63) rfl g (ix * 3) rfl (fun w hw => load3 hw.2.2.1)) hs0 ?_
                simp only [Act.put, wx12, List.setIfInBounds_toArray, List.set_cons_zero, List.set_cons_succ]
                refine z_take (i := 15) (oi := wx15) (v := St b) rfl (by kernel_rfl) (by kernel_rfl) (by kernel_rfl) (fun _ _ _ h => h) (by kernel_rfl) (by decide) (y_text rfl (.tmp 66) rfl rfl (fun w hw => hw.2.2.2)) hs0 ?_
                simp only [Act.put, wx15, List.setIfInBounds_toArray, List.set_cons_zero, List.set_cons_succ]
                refine z_take (i := 17) (oi := wx17) (v := .int .i64 (bl : Int)) rfl (by kernel_rfl) (by kernel_rfl) (by kernel_rfl) (fun _ _ _ h => h) (by kernel_rfl) (by decide) (y_all rfl (fun _ => by simp only [wx17]; go_simp)) hs0 ?_
                simp only [Act.put, wx17, List.setIfInBounds_toArray, List.set_cons_zero, List.set_cons_succ]
                refine z_take (i := 18) (oi := wx18) (v := .int .i64 (z : Int)) rfl (by kernel_rfl) (by kernel_rfl) (by kernel_rfl) (fun _ _ _ h => h) (by kernel_rfl) (by decide) (y_all rfl (fun _ => by simp only [wx18]; go_simp)) hs0 ?_
                simp only [Act.put, wx18, List.setIfInBounds_toArray, List.set_cons_zero, List.set_cons_succ]
                refine z_all (rs := [19]) (by kernel_rfl) (by simp) (all1 ?_)
                refine op_make (o := wx19) rfl rfl (.tmp 70) rfl z (by rfl) hzn ?_
                rw [← HNG.out]
                have hs0 := HS1.out
                refine ⟨fun _ => hs0, ?_⟩
                simp only [Act.put, wx19, List.setIfInBounds_toArray, List.set_cons_zero, List.set_cons_succ]
                refine z_all (rs := [20]) (by kernel_rfl) (by simp) (all1 ?_)
                refine op_text (o := wx20) rfl rfl (.tmp 71) rfl (.slice (some ⟨w4.drew.heap.size, 0, none⟩) z z) (St (List.replicate z 0)) (by rfl) (by rw [HNG.out]; exact text_n _ _) ?_
                refine ⟨fun _ => hs0, ?_⟩
                simp only [Act.put, wx20, List.setIfInBounds_toArray, List.set_cons_zero, List.set_cons_succ]
                refine z_all (rs := [21]) (by kernel_rfl) (by simp) (all1 ?_)
                refine op_ok (o := wx21) (v := Value.string (⟨b.toArray⟩ ++ ⟨(List.replicate z (0 : UInt8)).toArray⟩)) (w' := w4.drew.alloc NG) rfl rfl (by simp only [wx21]; go_simp; exact HBZ.out) ?_
                rw [st_app, HPB.out]
                refine ⟨fun _ => hs0, ?_⟩
                simp only [Act.put, wx21, List.setIfInBounds_toArray, List.set_cons_zero, List.set_cons_succ]
                refine z_all (rs := [22]) (by kernel_rfl) (by simp) (all1 ?_)
                refine op_ok (o := wx22) (v := .agg #[.int .i64 (f.no : Int), .int .i64 (pn : Int), St pb]) (w' := w4.drew.alloc (NG)) rfl rfl (by simp only [wx22]; go_simp) ?_
                refine ⟨fun _ => hs0, ?_⟩
                simp only [Act.put, wx22, List.setIfInBounds_toArray, List.set_cons_zero, List.set_cons_succ]
                refine z_all (rs := [23]) (by kernel_rfl) (by simp) (all1 ?_)
                refine op_ok (o := wx23) (v := .slice (some ⟨w4.heap.size + 1, 0, none⟩) 1 1) (w' := (w4.drew.alloc (NG)).alloc (.cells #[.int .i64 (f.no : Int), .int .i64 (pn : Int), St pb] 95)) rfl rfl (by simp only [wx23]; go_simp) ?_
                have hs0 := HS2.out
                refine ⟨fun _ => hs0, ?_⟩
                simp only [Act.put, wx23, List.setIfInBounds_toArray, List.set_cons_zero, List.set_cons_succ]
                refine z_all (rs := [24]) (by kernel_rfl) (by simp) (all1 ?_)
                refine op_append (o := wx24) (v' := .slice a6 n6 c6) (w' := w6) rfl rfl (.tmp 56) (.tmp 75) 58 rfl (by rfl) (by rfl) HRN.out ?_
                have hs0 := HS6.out
                refine ⟨fun _ => hs0, ?_⟩
                simp only [Act.put, wx24, List.setIfInBounds_toArray, List.set_cons_zero, List.set_cons_succ]
                refine z_all (rs := [25]) (by kernel_rfl) (by simp) (all1 ?_)
                refine op_ok (o := wx25) (v := .pointer (some ⟨q, 0, none⟩)) (w' := w6) rfl rfl rfl ?_
                refine ⟨fun _ => hs0, ?_⟩
                simp only [Act.put, wx25, List.setIfInBounds_toArray, List.set_cons_zero, List.set_cons_succ]
                refine z_all (rs := [26]) (by kernel_rfl) (by simp) (all1 ?_)
                refine op_ok (o := wx26) (v := .pointer (some ⟨q, 1, none⟩)) (w' := w6) rfl rfl (by simp only [wx26]; go_simp) ?_
                refine ⟨fun _ => hs0, ?_⟩
                simp only [Act.put, wx26, List.setIfInBounds_toArray, List.set_cons_zero, List.set_cons_succ]
                refine z_all (rs := [27]) (by kernel_rfl) (by simp) (all1 ?_)
                have h00 := hs0.1
                have ff := HF6.out
                refine op_skip (o := wx27) (w' := w6.setCell ⟨q, 1, none⟩ (.slice a6 n6 c6)) rfl rfl (by simp only [wx27]; go_simp) ?_
                refine ⟨fun h => absurd rfl h, ?_⟩
                refine z_done (by kernel_rfl) ?_ _
                simp only [Act.put, wx27]
                clear hs0 h00
                go_wp2_with fail
                go_ret
                rw [HRE.out]
                exact ⟨rfl, HL.out⟩
end Go.Proofs.YtojnembakhhgiaaGreat
