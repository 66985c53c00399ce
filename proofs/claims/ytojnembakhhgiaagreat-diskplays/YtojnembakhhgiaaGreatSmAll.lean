import Derived.Test.YtojnembakhhgiaaGreatLmAll
import Derived.Test.YtojnembakhhgiaaGreatDcAll
import Derived.Test.YtojnembakhhgiaaGreatRxAll
/- Both disks told alike. -/
namespace Go.Proofs.YtojnembakhhgiaaGreat
open Go.RowKit

def sm0 : Oper := { dst := some 18, op := Go.Op.move (Go.Operand.tmp 0), type := 24, pos := "law.go:58", after := #[], guard := none }
def sm1 : Oper := { dst := some 19, op := Go.Op.call { callee := Go.Callee.value (Go.Operand.func 17), args := #[Go.Operand.tmp 18], argTypes := #[24] }, type := 41, pos := "law.go:58", after := #[{ on := 0, ground := Go.Ground.data }], guard := none }
def sm2 : Oper := { dst := some 20, op := Go.Op.move (Go.Operand.tmp 5), type := 41, pos := "law.go:58", after := #[], guard := none }
def sm3 : Oper := { dst := some 21, op := Go.Op.call { callee := Go.Callee.value (Go.Operand.func 19), args := #[Go.Operand.tmp 19, Go.Operand.tmp 20], argTypes := #[41, 41] }, type := 4, pos := "law.go:58", after := #[{ on := 1, ground := Go.Ground.data }, { on := 2, ground := Go.Ground.data }, { on := 1, ground := Go.Ground.chain }], guard := none }
def sm4 : Oper := { dst := some 22, op := Go.Op.unOp Go.UnOp.not 4 (Go.Operand.tmp 21), type := 4, pos := "law.go:58", after := #[{ on := 3, ground := Go.Ground.data }], guard := none }
def sm5 : Oper := { dst := some 23, op := Go.Op.move (Go.Operand.tmp 22), type := 4, pos := "law.go:58", after := #[{ on := 4, ground := Go.Ground.data }, { on := 3, ground := Go.Ground.chain }], guard := none }
def sm6 : Oper := { dst := some 24, op := Go.Op.move (Go.Operand.tmp 0), type := 24, pos := "law.go:58", after := #[{ on := 5, ground := Go.Ground.guard }], guard := some (5, false) }
def sm7 : Oper := { dst := some 25, op := Go.Op.call { callee := Go.Callee.value (Go.Operand.func 16), args := #[Go.Operand.tmp 24], argTypes := #[24] }, type := 3, pos := "law.go:58", after := #[{ on := 6, ground := Go.Ground.data }, { on := 5, ground := Go.Ground.chain }, { on := 5, ground := Go.Ground.guard }], guard := some (5, false) }
def sm8 : Oper := { dst := some 26, op := Go.Op.move (Go.Operand.tmp 1), type := 26, pos := "law.go:58", after := #[{ on := 5, ground := Go.Ground.guard }], guard := some (5, false) }
def sm9 : Oper := { dst := some 27, op := Go.Op.call { callee := Go.Callee.value (Go.Operand.func 38), args := #[Go.Operand.tmp 26], argTypes := #[26] }, type := 3, pos := "law.go:58", after := #[{ on := 8, ground := Go.Ground.data }, { on := 7, ground := Go.Ground.chain }, { on := 5, ground := Go.Ground.guard }], guard := some (5, false) }
def sm10 : Oper := { dst := some 28, op := Go.Op.binOp Go.BinOp.neq 3 (Go.Operand.tmp 25) (Go.Operand.tmp 27) 3, type := 4, pos := "law.go:58", after := #[{ on := 7, ground := Go.Ground.data }, { on := 9, ground := Go.Ground.data }, { on := 5, ground := Go.Ground.guard }], guard := some (5, false) }
def sm11 : Oper := { dst := some 29, op := Go.Op.pick (Go.Operand.tmp 23) (Go.Operand.const (Go.Value.bool true)) (Go.Operand.tmp 28), type := 4, pos := "law.go:58", after := #[{ on := 5, ground := Go.Ground.data }, { on := 10, ground := Go.Ground.data }], guard := none }
def sm12 : Oper := { dst := some 30, op := Go.Op.move (Go.Operand.tmp 29), type := 4, pos := "law.go:58", after := #[{ on := 11, ground := Go.Ground.data }, { on := 9, ground := Go.Ground.chain }], guard := none }
def sm13 : Oper := { dst := some 31, op := Go.Op.move (Go.Operand.tmp 0), type := 24, pos := "law.go:58", after := #[{ on := 12, ground := Go.Ground.guard }], guard := some (12, false) }
def sm14 : Oper := { dst := some 32, op := Go.Op.call { callee := Go.Callee.value (Go.Operand.func 39), args := #[Go.Operand.tmp 31], argTypes := #[24] }, type := 3, pos := "law.go:58", after := #[{ on := 13, ground := Go.Ground.data }, { on := 12, ground := Go.Ground.chain }, { on := 12, ground := Go.Ground.guard }], guard := some (12, false) }
def sm15 : Oper := { dst := some 33, op := Go.Op.move (Go.Operand.tmp 1), type := 26, pos := "law.go:58", after := #[{ on := 12, ground := Go.Ground.guard }], guard := some (12, false) }
def sm16 : Oper := { dst := some 34, op := Go.Op.nilCheck (Go.Operand.tmp 33), type := 0, pos := "law.go:58", after := #[{ on := 15, ground := Go.Ground.data }, { on := 12, ground := Go.Ground.guard }], guard := some (12, false) }
def sm17 : Oper := { dst := some 35, op := Go.Op.fieldAddr 60 (Go.Operand.tmp 34) 4, type := 0, pos := "law.go:58", after := #[{ on := 16, ground := Go.Ground.data }, { on := 12, ground := Go.Ground.guard }], guard := some (12, false) }
def sm18 : Oper := { dst := some 36, op := Go.Op.load 3 (Go.Operand.tmp 35), type := 3, pos := "law.go:58", after := #[{ on := 17, ground := Go.Ground.data }, { on := 12, ground := Go.Ground.guard }], guard := some (12, false) }
def sm19 : Oper := { dst := some 37, op := Go.Op.binOp Go.BinOp.neq 3 (Go.Operand.tmp 32) (Go.Operand.tmp 36) 3, type := 4, pos := "law.go:58", after := #[{ on := 14, ground := Go.Ground.data }, { on := 18, ground := Go.Ground.data }, { on := 12, ground := Go.Ground.guard }], guard := some (12, false) }
def sm20 : Oper := { dst := some 38, op := Go.Op.pick (Go.Operand.tmp 30) (Go.Operand.const (Go.Value.bool true)) (Go.Operand.tmp 37), type := 4, pos := "law.go:58", after := #[{ on := 12, ground := Go.Ground.data }, { on := 19, ground := Go.Ground.data }], guard := none }
def sm21 : Oper := { dst := some 39, op := Go.Op.move (Go.Operand.tmp 38), type := 4, pos := "law.go:58", after := #[{ on := 20, ground := Go.Ground.data }, { on := 14, ground := Go.Ground.chain }], guard := none }
def sm22 : Oper := { dst := some 40, op := Go.Op.move (Go.Operand.tmp 0), type := 24, pos := "law.go:58", after := #[{ on := 21, ground := Go.Ground.guard }], guard := some (21, false) }
def sm23 : Oper := { dst := some 41, op := Go.Op.call { callee := Go.Callee.value (Go.Operand.func 12), args := #[Go.Operand.tmp 40], argTypes := #[24] }, type := 4, pos := "law.go:58", after := #[{ on := 22, ground := Go.Ground.data }, { on := 21, ground := Go.Ground.chain }, { on := 21, ground := Go.Ground.guard }], guard := some (21, false) }
def sm24 : Oper := { dst := some 42, op := Go.Op.move (Go.Operand.tmp 1), type := 26, pos := "law.go:58", after := #[{ on := 21, ground := Go.Ground.guard }], guard := some (21, false) }
def sm25 : Oper := { dst := some 43, op := Go.Op.nilCheck (Go.Operand.tmp 42), type := 0, pos := "law.go:58", after := #[{ on := 24, ground := Go.Ground.data }, { on := 21, ground := Go.Ground.guard }], guard := some (21, false) }
def sm26 : Oper := { dst := some 44, op := Go.Op.fieldAddr 60 (Go.Operand.tmp 43) 8, type := 0, pos := "law.go:58", after := #[{ on := 25, ground := Go.Ground.data }, { on := 21, ground := Go.Ground.guard }], guard := some (21, false) }
def sm27 : Oper := { dst := some 45, op := Go.Op.load 4 (Go.Operand.tmp 44), type := 4, pos := "law.go:58", after := #[{ on := 26, ground := Go.Ground.data }, { on := 21, ground := Go.Ground.guard }], guard := some (21, false) }
def sm28 : Oper := { dst := some 46, op := Go.Op.binOp Go.BinOp.neq 4 (Go.Operand.tmp 41) (Go.Operand.tmp 45) 4, type := 4, pos := "law.go:58", after := #[{ on := 23, ground := Go.Ground.data }, { on := 27, ground := Go.Ground.data }, { on := 21, ground := Go.Ground.guard }], guard := some (21, false) }
def sm29 : Oper := { dst := some 47, op := Go.Op.pick (Go.Operand.tmp 39) (Go.Operand.const (Go.Value.bool true)) (Go.Operand.tmp 46), type := 4, pos := "law.go:58", after := #[{ on := 21, ground := Go.Ground.data }, { on := 28, ground := Go.Ground.data }], guard := none }

theorem load4 {w : World} {b o : Nat} {v : Value} (h : w.cell? ⟨b, o, none⟩ = some v) : (Instr.loadAt 4 (.pointer (some ⟨b, o, none⟩))).run Tryz.prog w = .ok v w := by go_simp
set_option maxHeartbeats 8000000 in
set_option maxRecDepth 100000 in
theorem same_any {J K : Nat → Prop} {w : World} {d q : Nat} {s : Ds} (h : Pr J K w d q s s) : Calls Tryz.prog 11 #[.pointer (some ⟨d, 0, none⟩), .pointer (some ⟨q, 0, none⟩)] w fun e w' => e = .returned (.bool true) ∧ Below w.heap.size w w' := by
  obtain ⟨L, hL⟩ : ∃ L, L = namesD s := ⟨_, rfl⟩
  obtain ⟨nL, hnL⟩ : ∃ nL, nL = L.length := ⟨_, rfl⟩
  obtain ⟨us, hus⟩ : ∃ us, us = usedN s := ⟨_, rfl⟩
  obtain ⟨st, hst⟩ : ∃ st, st = s.steps := ⟨_, rfl⟩
  obtain ⟨ofb, hofb⟩ : ∃ ofb, ofb = s.off := ⟨_, rfl⟩
  have hnl6 : L.length ≤ 1000000 := by
    rw [hL]
    unfold namesD
    split
    · exact Nat.zero_le _
    · unfold sorted
      rw [(List.mergeSort_perm _ _).length_eq, List.length_map]
      have := h.ok.1.few
      omega
  have HPR : Hid (∀ W, Below w.heap.size w W → Pr J K W d q s s) := hid (fun W hW => h.low hW)
  have HS : Hid (∀ W, Below w.heap.size w W → W.cell? ⟨q, 4, none⟩ = some (.int .i64 (st : Int)) ∧ W.cell? ⟨q, 8, none⟩ = some (.bool ofb)) := hid (fun W hW => by
    obtain ⟨_, _, _, _, _, _, hr, _⟩ := (h.low hW).ex
    obtain ⟨_, _, hb, _⟩ := hr.blk
    rw [hst, hofb]
    exact ⟨(cell_of_heap hb 4).trans rfl, (cell_of_heap hb 8).trans rfl⟩)
  have HNM : Hid (Calls Tryz.prog 37 #[.pointer (some ⟨q, 0, none⟩)] w fun e w' => ∃ a c, e = .returned (.slice a nL c) ∧ Tx w' (.slice a nL c) L ∧ Below w.heap.size w w') := hid (by
    obtain ⟨_, _, _, _, _, _, hr, _⟩ := h.ex
    rw [hnL, hL]
    exact rnames_any _ _ _ _ _ _ hr)
  have HLN := hid hL
  have HNL := hid hnL
  have HUS := hid hus
  have HST := hid hst
  have HOB := hid hofb
  have HL6 := hid hnl6
  clear h hL hnL hus hst hofb hnl6
  go_enter Tryz.func11, Tryz.ntmps11
  go_wp2_with fail
  refine HNM.out.mono ?_
  rintro e w1 ⟨ax, cx, rfl, tx1, B1⟩
  obtain ⟨U, hU⟩ : ∃ U : World → Prop, U = fun W => Below w.heap.size w W ∧ Tx W (.slice ax nL cx) L := ⟨_, rfl⟩
  have hUl : ∀ W W', U W → Below W.heap.size W W' → U W' := fun W W' h1 h2 => by
    rw [hU] at h1 ⊢
    exact ⟨below_comp h1.1 h2, ownsRow_same h1.2 (fun k hk => h2.block k (h1.2.lt k hk).2)⟩
  have hUP : ∀ W, U W → Pr J K W d q s s := fun W h1 => by
    rw [hU] at h1
    exact HPR.out W h1.1
  have HS : Hid (∀ W, U W → W.cell? ⟨q, 4, none⟩ = some (.int .i64 (st : Int)) ∧ W.cell? ⟨q, 8, none⟩ = some (.bool ofb)) := hid (fun W h1 => by
    rw [hU] at h1
    exact HS.out W h1.1)
  have HUT : Hid (∀ W, U W → Below w.heap.size w W ∧ Tx W (.slice ax nL cx) L) := hid (fun W h1 => by
    rw [hU] at h1
    exact h1)
  have HU1 : Hid (U w1.drew) := hid (by
    rw [hU]
    exact ⟨B1.drew, ownsRow_same tx1 (fun _ _ => rfl)⟩)
  have HC17 : Hid (∀ W, U W → Calls Tryz.prog 17 #[.pointer (some ⟨d, 0, none⟩)] W fun e w' => ∃ v, e = .returned v ∧ (∃ a c, v = .slice a nL c ∧ Tx w' (.slice a nL c) L) ∧ U w') := hid (fun W h1 => by
    refine (dp_names (hUP W h1).dp).mono ?_
    rintro e w' ⟨a, c, he, ht, hB⟩
    rw [HNL.out, HLN.out]
    exact ⟨_, he, ⟨a, c, rfl, ht⟩, hUl W w' h1 hB⟩)
  have HC19 : Hid (∀ W a c, U W → Tx W (.slice a nL c) L → Calls Tryz.prog 19 #[.slice a nL c, .slice ax nL cx] W fun e w' => ∃ v, e = .returned v ∧ v = .bool true ∧ U w') := hid (fun W a c h1 ht => by
    refine (nsame_any W _ _ L L ht (HUT.out W h1).2 HL6.out).mono ?_
    rintro e w' ⟨he, hB⟩
    exact ⟨_, he, by simp, hUl W w' h1 hB⟩)
  have HC16 : Hid (∀ W, U W → Calls Tryz.prog 16 #[.pointer (some ⟨d, 0, none⟩)] W fun e w' => ∃ v, e = .returned v ∧ v = .int .i64 (us : Int) ∧ U w') := hid (fun W h1 => by
    refine (dp_used (hUP W h1).dp).mono ?_
    rintro e w' ⟨he, hB⟩
    exact ⟨_, he, by rw [HUS.out], hUl W w' h1 hB⟩)
  have HC38 : Hid (∀ W, U W → Calls Tryz.prog 38 #[.pointer (some ⟨q, 0, none⟩)] W fun e w' => ∃ v, e = .returned v ∧ v = .int .i64 (us : Int) ∧ U w') := hid (fun W h1 => by
    obtain ⟨_, _, _, _, _, _, hr, _⟩ := (hUP W h1).ex
    refine (rused_any W _ _ _ _ _ hr (hUP W h1).qt).mono ?_
    rintro e w' ⟨he, hB⟩
    exact ⟨_, he, by rw [HUS.out], hUl W w' h1 hB⟩)
  have HC39 : Hid (∀ W, U W → Calls Tryz.prog 39 #[.pointer (some ⟨d, 0, none⟩)] W fun e w' => ∃ v, e = .returned v ∧ v = .int .i64 (st : Int) ∧ U w') := hid (fun W h1 => by
    obtain ⟨_, _, _, _, _, hd, _⟩ := (hUP W h1).ex
    refine (steps_any W _ _ _ _ hd).mono ?_
    rintro e w' ⟨he, rfl⟩
    exact ⟨_, he, by rw [HST.out], h1⟩)
  have HC12 : Hid (∀ W, U W → Calls Tryz.prog 12 #[.pointer (some ⟨d, 0, none⟩)] W fun e w' => ∃ v, e = .returned v ∧ v = .bool ofb ∧ U w') := hid (fun W h1 => by
    refine (dp_off (hUP W h1).dp).mono ?_
    rintro e w' ⟨he, rfl⟩
    exact ⟨_, he, by rw [HOB.out], h1⟩)
  have HPU := hid hUP
  have HUL := hid hUl
  have hs0 : (fun W : World => W.cell? ⟨q, 4, none⟩ = some (.int .i64 (st : Int)) ∧ W.cell? ⟨q, 8, none⟩ = some (.bool ofb)) w1.drew := HS.out _ HU1.out
  clear hU hUl hUP tx1 B1 HNM
  go_wp2_with fail
  refine wp_region_held (S := fun W : World => W.cell? ⟨q, 4, none⟩ = some (.int .i64 (st : Int)) ∧ W.cell? ⟨q, 8, none⟩ = some (.bool ofb)) (by kernel_rfl) ?_
  refine wpAnyH_take (i := 0) (oi := sm0) (v := .pointer (some ⟨d, 0, none⟩)) rfl (by kernel_rfl) (by kernel_rfl) (by kernel_rfl) (fun _ _ _ h => h) (y_all rfl (fun _ => rfl)) hs0 ?_
  simp only [Act.put, sm0, List.setIfInBounds_toArray, List.set_cons_zero, List.set_cons_succ]
  refine wpAnyH_take (i := 2) (oi := sm2) (v := .slice ax nL cx) rfl (by kernel_rfl) (by kernel_rfl) (by kernel_rfl) (fun _ _ _ h => h) (y_all rfl (fun _ => rfl)) hs0 ?_
  simp only [Act.put, sm2, List.setIfInBounds_toArray, List.set_cons_zero, List.set_cons_succ]
  refine wpAnyH_all (rs := [1]) (by kernel_rfl) (by simp) (all1 ?_)
  refine op_call (o := sm1) (f := 17) (args := #[.pointer (some ⟨d, 0, none⟩)]) (R := fun v w' => (∃ a c, v = .slice a nL c ∧ Tx w' (.slice a nL c) L) ∧ U w') rfl rfl (by simp only [sm1]; go_simp) (HC17.out _ HU1.out) ?_
  rintro v0 w2 ⟨⟨a2, c2, rfl, t2⟩, u2⟩
  have HT2 := hid t2
  clear t2
  have hs0 := HS.out w2 u2
  have HU2 := hid u2
  clear u2
  refine ⟨hs0, ?_⟩
  simp only [Act.put, sm1, List.setIfInBounds_toArray, List.set_cons_zero, List.set_cons_succ]
  refine wpAnyH_all (rs := [3]) (by kernel_rfl) (by simp) (all1 ?_)
  refine op_call (o := sm3) (f := 19) (args := #[.slice a2 nL c2, .slice ax nL cx]) (R := fun v w' => v = .bool true ∧ U w') rfl rfl (by simp only [sm3]; go_simp) (HC19.out _ a2 c2 HU2.out HT2.out) ?_
  rintro v0 w3 ⟨rfl, u3⟩
  have hs0 := HS.out w3 u3
  have HU3 := hid u3
  clear u3
  refine ⟨hs0, ?_⟩
  simp only [Act.put, sm3, List.setIfInBounds_toArray, List.set_cons_zero, List.set_cons_succ]
  refine wpAnyH_take (i := 4) (oi := sm4) (v := .bool false) rfl (by kernel_rfl) (by kernel_rfl) (by kernel_rfl) (fun _ _ _ h => h) (y_all rfl (fun _ => by simp only [sm4]; go_simp)) hs0 ?_
  simp only [Act.put, sm4, List.setIfInBounds_toArray, List.set_cons_zero, List.set_cons_succ]
  refine wpAnyH_take (i := 5) (oi := sm5) (v := .bool false) rfl (by kernel_rfl) (by kernel_rfl) (by kernel_rfl) (fun _ _ _ h => h) (y_all rfl (fun _ => rfl)) hs0 ?_
  simp only [Act.put, sm5, List.setIfInBounds_toArray, List.set_cons_zero, List.set_cons_succ]
  refine wpAnyH_take (i := 6) (oi := sm6) (v := .pointer (some ⟨d, 0, none⟩)) rfl (by kernel_rfl) (by kernel_rfl) (by kernel_rfl) (fun _ _ _ h => h) (g_all (by rfl) (fun _ => rfl)) hs0 ?_
  simp only [Act.put, sm6, List.setIfInBounds_toArray, List.set_cons_zero, List.set_cons_succ]
  refine wpAnyH_take (i := 8) (oi := sm8) (v := .pointer (some ⟨q, 0, none⟩)) rfl (by kernel_rfl) (by kernel_rfl) (by kernel_rfl) (fun _ _ _ h => h) (g_all (by rfl) (fun _ => rfl)) hs0 ?_
  simp only [Act.put, sm8, List.setIfInBounds_toArray, List.set_cons_zero, List.set_cons_succ]
  refine wpAnyH_all (rs := [7]) (by kernel_rfl) (by simp) (all1 ?_)
  refine g_call (o := sm7) (f := 16) (args := #[.pointer (some ⟨d, 0, none⟩)]) (R := fun v w' => v = .int .i64 (us : Int) ∧ U w') rfl (by rfl) (by simp only [sm7]; go_simp) (HC16.out _ HU3.out) ?_
  rintro v0 w4 ⟨rfl, u4⟩
  have hs0 := HS.out w4 u4
  have HU4 := hid u4
  clear u4
  refine ⟨hs0, ?_⟩
  simp only [Act.put, sm7, List.setIfInBounds_toArray, List.set_cons_zero, List.set_cons_succ]
  refine wpAnyH_all (rs := [9]) (by kernel_rfl) (by simp) (all1 ?_)
  refine g_call (o := sm9) (f := 38) (args := #[.pointer (some ⟨q, 0, none⟩)]) (R := fun v w' => v = .int .i64 (us : Int) ∧ U w') rfl (by rfl) (by simp only [sm9]; go_simp) (HC38.out _ HU4.out) ?_
  rintro v0 w5 ⟨rfl, u5⟩
  have hs0 := HS.out w5 u5
  have HU5 := hid u5
  clear u5
  refine ⟨hs0, ?_⟩
  simp only [Act.put, sm9, List.setIfInBounds_toArray, List.set_cons_zero, List.set_cons_succ]
  refine wpAnyH_take (i := 10) (oi := sm10) (v := .bool false) rfl (by kernel_rfl) (by kernel_rfl) (by kernel_rfl) (fun _ _ _ h => h) (g_all (by rfl) (fun _ => by simp only [sm10]; go_simp)) hs0 ?_
  simp only [Act.put, sm10, List.setIfInBounds_toArray, List.set_cons_zero, List.set_cons_succ]
  refine wpAnyH_take (i := 11) (oi := sm11) (v := .bool false) rfl (by kernel_rfl) (by kernel_rfl) (by kernel_rfl) (fun _ _ _ h => h) (y_all rfl (fun _ => by simp only [sm11]; go_simp)) hs0 ?_
  simp only [Act.put, sm11, List.setIfInBounds_toArray, List.set_cons_zero, List.set_cons_succ]
  refine wpAnyH_take (i := 12) (oi := sm12) (v := .bool false) rfl (by kernel_rfl) (by kernel_rfl) (by kernel_rfl) (fun _ _ _ h => h) (y_all rfl (fun _ => rfl)) hs0 ?_
  simp only [Act.put, sm12, List.setIfInBounds_toArray, List.set_cons_zero, List.set_cons_succ]
  refine wpAnyH_take (i := 13) (oi := sm13) (v := .pointer (some ⟨d, 0, none⟩)) rfl (by kernel_rfl) (by kernel_rfl) (by kernel_rfl) (fun _ _ _ h => h) (g_all (by rfl) (fun _ => rfl)) hs0 ?_
  simp only [Act.put, sm13, List.setIfInBounds_toArray, List.set_cons_zero, List.set_cons_succ]
  refine wpAnyH_take (i := 15) (oi := sm15) (v := .pointer (some ⟨q, 0, none⟩)) rfl (by kernel_rfl) (by kernel_rfl) (by kernel_rfl) (fun _ _ _ h => h) (g_all (by rfl) (fun _ => rfl)) hs0 ?_
  simp only [Act.put, sm15, List.setIfInBounds_toArray, List.set_cons_zero, List.set_cons_succ]
  refine wpAnyH_take (i := 16) (oi := sm16) (v := .pointer (some ⟨q, 0, none⟩)) rfl (by kernel_rfl) (by kernel_rfl) (by kernel_rfl) (fun _ _ _ h => h) (g_all (by rfl) (fun _ => by simp only [sm16]; go_simp)) hs0 ?_
  simp only [Act.put, sm16, List.setIfInBounds_toArray, List.set_cons_zero, List.set_cons_succ]
  refine wpAnyH_take (i := 17) (oi := sm17) (v := .pointer (some ⟨q, 4, none⟩)) rfl (by kernel_rfl) (by kernel_rfl) (by kernel_rfl) (fun _ _ _ h => h) (g_all (by rfl) (fun _ => by simp only [sm17]; go_simp)) hs0 ?_
  simp only [Act.put, sm17, List.setIfInBounds_toArray, List.set_cons_zero, List.set_cons_succ]
  refine wpAnyH_take (i := 18) (oi := sm18) (v := .int .i64 (st : Int)) rfl (by kernel_rfl) (by kernel_rfl) (by kernel_rfl) (fun _ _ _ h => h) (g_load (by rfl) 3 (.tmp 35) rfl q 4 rfl (fun w hw => load3 (hw.1))) hs0 ?_
  simp only [Act.put, sm18, List.setIfInBounds_toArray, List.set_cons_zero, List.set_cons_succ]
  refine wpAnyH_all (rs := [14]) (by kernel_rfl) (by simp) (all1 ?_)
  refine g_call (o := sm14) (f := 39) (args := #[.pointer (some ⟨d, 0, none⟩)]) (R := fun v w' => v = .int .i64 (st : Int) ∧ U w') rfl (by rfl) (by simp only [sm14]; go_simp) (HC39.out _ HU5.out) ?_
  rintro v0 w6 ⟨rfl, u6⟩
  have hs0 := HS.out w6 u6
  have HU6 := hid u6
  clear u6
  refine ⟨hs0, ?_⟩
  simp only [Act.put, sm14, List.setIfInBounds_toArray, List.set_cons_zero, List.set_cons_succ]
  refine wpAnyH_take (i := 19) (oi := sm19) (v := .bool false) rfl (by kernel_rfl) (by kernel_rfl) (by kernel_rfl) (fun _ _ _ h => h) (g_all (by rfl) (fun _ => by simp only [sm19]; go_simp)) hs0 ?_
  simp only [Act.put, sm19, List.setIfInBounds_toArray, List.set_cons_zero, List.set_cons_succ]
  refine wpAnyH_take (i := 20) (oi := sm20) (v := .bool false) rfl (by kernel_rfl) (by kernel_rfl) (by kernel_rfl) (fun _ _ _ h => h) (y_all rfl (fun _ => by simp only [sm20]; go_simp)) hs0 ?_
  simp only [Act.put, sm20, List.setIfInBounds_toArray, List.set_cons_zero, List.set_cons_succ]
  refine wpAnyH_take (i := 21) (oi := sm21) (v := .bool false) rfl (by kernel_rfl) (by kernel_rfl) (by kernel_rfl) (fun _ _ _ h => h) (y_all rfl (fun _ => rfl)) hs0 ?_
  simp only [Act.put, sm21, List.setIfInBounds_toArray, List.set_cons_zero, List.set_cons_succ]
  refine wpAnyH_take (i := 22) (oi := sm22) (v := .pointer (some ⟨d, 0, none⟩)) rfl (by kernel_rfl) (by kernel_rfl) (by kernel_rfl) (fun _ _ _ h => h) (g_all (by rfl) (fun _ => rfl)) hs0 ?_
  simp only [Act.put, sm22, List.setIfInBounds_toArray, List.set_cons_zero, List.set_cons_succ]
  refine wpAnyH_take (i := 24) (oi := sm24) (v := .pointer (some ⟨q, 0, none⟩)) rfl (by kernel_rfl) (by kernel_rfl) (by kernel_rfl) (fun _ _ _ h => h) (g_all (by rfl) (fun _ => rfl)) hs0 ?_
  simp only [Act.put, sm24, List.setIfInBounds_toArray, List.set_cons_zero, List.set_cons_succ]
  refine wpAnyH_take (i := 25) (oi := sm25) (v := .pointer (some ⟨q, 0, none⟩)) rfl (by kernel_rfl) (by kernel_rfl) (by kernel_rfl) (fun _ _ _ h => h) (g_all (by rfl) (fun _ => by simp only [sm25]; go_simp)) hs0 ?_
  simp only [Act.put, sm25, List.setIfInBounds_toArray, List.set_cons_zero, List.set_cons_succ]
  refine wpAnyH_take (i := 26) (oi := sm26) (v := .pointer (some ⟨q, 8, none⟩)) rfl (by kernel_rfl) (by kernel_rfl) (by kernel_rfl) (fun _ _ _ h => h) (g_all (by rfl) (fun _ => by simp only [sm26]; go_simp)) hs0 ?_
  simp only [Act.put, sm26, List.setIfInBounds_toArray, List.set_cons_zero, List.set_cons_succ]
  refine wpAnyH_take (i := 27) (oi := sm27) (v := .bool ofb) rfl (by kernel_rfl) (by kernel_rfl) (by kernel_rfl) (fun _ _ _ h => h) (g_load (by rfl) 4 (.tmp 44) rfl q 8 rfl (fun w hw => load4 (hw.2))) hs0 ?_
  simp only [Act.put, sm27, List.setIfInBounds_toArray, List.set_cons_zero, List.set_cons_succ]
  refine wpAnyH_all (rs := [23]) (by kernel_rfl) (by simp) (all1 ?_)
  refine g_call (o := sm23) (f := 12) (args := #[.pointer (some ⟨d, 0, none⟩)]) (R := fun v w' => v = .bool ofb ∧ U w') rfl (by rfl) (by simp only [sm23]; go_simp) (HC12.out _ HU6.out) ?_
  rintro v0 w7 ⟨rfl, u7⟩
  have hs0 := HS.out w7 u7
  have HU7 := hid u7
  clear u7
  refine ⟨hs0, ?_⟩
  simp only [Act.put, sm23, List.setIfInBounds_toArray, List.set_cons_zero, List.set_cons_succ]
  refine wpAnyH_take (i := 28) (oi := sm28) (v := .bool false) rfl (by kernel_rfl) (by kernel_rfl) (by kernel_rfl) (fun _ _ _ h => h) (g_all (by rfl) (fun _ => by simp only [sm28]; go_simp)) hs0 ?_
  simp only [Act.put, sm28, List.setIfInBounds_toArray, List.set_cons_zero, List.set_cons_succ]
  refine wpAnyH_take (i := 29) (oi := sm29) (v := .bool false) rfl (by kernel_rfl) (by kernel_rfl) (by kernel_rfl) (fun _ _ _ h => h) (y_all rfl (fun _ => by simp only [sm29]; go_simp)) hs0 ?_
  simp only [Act.put, sm29, List.setIfInBounds_toArray, List.set_cons_zero, List.set_cons_succ]
  refine wpAnyH_done (by kernel_rfl) ?_ _
  clear hs0
  go_wp2_with fail
  have HLEN : Hid (∀ t ∈ L, t.length ≤ 140737488355328 ∧ ∃ n, n ≤ 65536 ∧ lenD s t = (n, 0) ∧ ∀ k, k < n → ∃ p : Bs, p.length = 256 ∧ readDk s t (k : Int) = (p, 0)) := hid (fun t ht => by
    have hp := HPU.out _ HU7.out
    rw [HLN.out] at ht
    cases hof : s.off with
    | true =>
      unfold namesD at ht
      rw [if_pos hof] at ht
      cases ht
    | false =>
      obtain ⟨f, hf⟩ := names_has hof ht
      obtain ⟨hm, hnm⟩ := find_mem hf
      refine ⟨?_, (pagesOf s f).length, ?_, ?_, fun k hk => ⟨(pagesOf s f)[k], pages_ok hp.ok.1 hm _ (List.getElem_mem hk), ?_⟩⟩
      · have := hp.ok.1.lens f hm
        rw [hnm] at this
        unfold named at this
        simp at this
        omega
      · have h1 := used_file hm
        have h2 := hp.qs
        have h3 := hp.ok.1.quota
        omega
      · unfold lenD
        rw [if_neg (by rw [hof]; decide), hf]
      · unfold readDk
        rw [if_neg (by rw [hof]; decide), hf]
        show (if (k : Int) < 0 ∨ ((pagesOf s f).length : Int) ≤ (k : Int) then _ else _) = _
        rw [if_neg (by omega)]
        simp [hk])
  have HLL : Hid (nL ≤ 1000000) := hid (by rw [HNL.out]; exact HL6.out)
  clear HC17 HC19 HC16 HC38 HC39 HC12 HS HU1 HU2 HU3 HU4 HU5 HU6 HT2 HPR
  go_loopg [6, 7, 8, 9, 10, 11, 12, 13, 14, 15] nL (fun gg vi _x1 _x2 _x3 _x4 _x5 _x6 _x7 _x8 _x9 wr => ∃ i : Nat, gg = nL - i ∧ i ≤ nL ∧ vi = .int .i64 (i : Int) ∧ U wr)
  case atStart => exact ⟨0, rfl, Nat.zero_le _, rfl, HU7.out⟩
  case round =>
    obtain ⟨i, rfl, hi, rfl, hu⟩ := hrel
    by_cases hil : i < nL
    · have hiL : i < L.length := by have := HNL.out; omega
      obtain ⟨gx, cx', ex, _, _⟩ := (show Tx wr (.slice ax nL cx) L from (HUT.out wr hu).2).at' (by omega)
      have hax : ax = some ⟨gx, 0, none⟩ := by cases ex; rfl
      obtain ⟨t, ht⟩ : ∃ t, t = L[i]'hiL := ⟨_, rfl⟩
      have htm : t ∈ L := by rw [ht]; exact List.getElem_mem hiL
      obtain ⟨htl, n, hn, hlen, hread⟩ := HLEN.out t htm
      have hcell : ∀ W, U W → W.cell? ⟨gx, i, none⟩ = some (St t) := fun W hW => by
        obtain ⟨gy, cy, ey, _, hcy⟩ := (show Tx W (.slice ax nL cx) L from (HUT.out W hW).2).at' (by omega)
        have : gy = gx := by rw [hax] at ey; cases ey; rfl
        subst this
        rw [ht]
        exact (hcy i hiL).1
      have c1' := hcell wr hu
      have HCELL := hid hcell
      have HTN := hid htl
      have HRD := hid hread
      have HLE := hid (dp_len (HPU.out wr hu).dp t htl)
      have HLM := hid (pm_len (HPU.out wr hu) t)
      rw [hlen] at HLE HLM
      have HN6 : Hid (n ≤ 65536) := hid hn
      have hiw : IntKind.i64.wrap ((i : Int) + 1) = ((i + 1 : Nat) : Int) := by rw [IntKind.wrap_i64]; have := HLL.out; omega
      have hi0 : (0 : Int) ≤ (i : Int) := Int.natCast_nonneg _
      have hi1 : (i : Int) < (nL : Int) := by omega
      have HIL := hid hil
      have HUR := hid hu
      clear ex ht htm hn hlen hread hcell hi hil hiL hu htl
      subst hax
      go_wp2_with fail
      refine HLE.out.mono ?_
      rintro e wl ⟨rfl, hwl⟩
      have hwl := hwl.symm
      subst hwl
      clear HLE
      have hz0 : ((0 : Nat) : Int) = 0 := rfl
      rw [hz0]
      rw [hz0] at HLM
      clear hz0
      go_wp2_with fail
      refine HLM.out.mono ?_
      rintro e wl ⟨rfl, hBl⟩
      have HUL2 := hid (HUL.out _ _ HUR.out hBl)
      clear hBl HLM c1'
      go_wp2_with fail
      go_loopg [11, 12, 13, 14, 15] n (fun gg vk _x4 _x5 _x6 _x7 wr => ∃ k : Nat, gg = n - k ∧ k ≤ n ∧ vk = .int .i64 (k : Int) ∧ U wr)
      case atStart => exact ⟨0, rfl, Nat.zero_le _, rfl, HUL2.out⟩
      case round =>
        obtain ⟨k, rfl, hk, rfl, hu2⟩ := hrel
        by_cases hkl : k < n
        · obtain ⟨p, hpl, hrd⟩ := HRD.out k hkl
          have d1 := HCELL.out wr hu2
          have HA1 : Hid (Calls Tryz.prog 21 #[.pointer (some ⟨d, 0, none⟩), St t, .int .i64 (k : Int)] wr fun e w' => ∃ g, e = .returned (.tuple #[.slice (some ⟨g, 0, none⟩) 256 256, .int .i64 0]) ∧ Bo w' (.slice (some ⟨g, 0, none⟩) 256 256) p ∧ U w') := hid (by
            refine (dp_read (HPU.out wr hu2).dp t HTN.out (k : Int) (by have := HN6.out; omega)).mono ?_
            rw [hrd]
            rintro e w' ⟨⟨v, rfl, hv⟩, hB⟩
            obtain ⟨g, rfl, _⟩ := bw_range hv (by rw [hpl]; omega)
            have hbo := hv.br.bo
            rw [hpl] at hbo ⊢
            exact ⟨g, rfl, hbo, HUL.out _ _ hu2 hB⟩)
          have HA2 : Hid (∀ W, U W → Calls Tryz.prog 33 #[.pointer (some ⟨q, 0, none⟩), St t, .int .i64 (k : Int)] W fun e w' => (∃ ao cap, e = .returned (.tuple #[.slice ao 256 cap, .int .i64 0]) ∧ Bo w' (.slice ao 256 cap) p) ∧ Below W.heap.size W w' ∧ U w') := hid (fun W hW => by
            refine (pm_read (HPU.out W hW) t (k : Int) (by have := HN6.out; omega)).mono ?_
            rw [hrd]
            rintro e w' ⟨⟨v, rfl, hv, _⟩, hB⟩
            have hv2 := hv
            obtain ⟨ao, cap, rfl, _⟩ := hv2
            rw [hpl] at hv ⊢
            exact ⟨⟨ao, cap, rfl, hv⟩, hB, HUL.out _ _ hW hB⟩)
          have hkw : IntKind.i64.wrap ((k : Int) + 1) = ((k + 1 : Nat) : Int) := by rw [IntKind.wrap_i64]; have := HN6.out; omega
          have hk1 : (k : Int) < (n : Int) := by omega
          have HKL2 := hid hkl
          clear hpl hrd hk hkl hu2
          go_wp2_with fail
          refine HA1.out.mono ?_
          rintro e y1 ⟨g1, rfl, b1, u1⟩
          have d2 := HCELL.out y1 u1
          have HA3 := hid (HA2.out y1 u1)
          have BB1 := hid b1
          clear b1 u1 HA1 HA2 d1
          go_wp2_with fail
          refine HA3.out.mono ?_
          rintro e y2 ⟨⟨a2, c2, rfl, b2⟩, B2, u2⟩
          have hcv1 := text_bo (BB1.out.low B2)
          have hcv2 := text_bo b2
          have HY2 := hid u2
          clear b2 B2 u2 d2 HA3 BB1
          go_wp2_with fail
          go_roundg (n - (k + 1))
          case measure => have := HKL2.out; omega
          case rel => exact ⟨k + 1, rfl, HKL2.out, rfl, HY2.out⟩
        · have hke : k = n := by omega
          subst hke
          have hkn : ¬ (k : Int) < (k : Int) := by omega
          have HB2 := hid hu2
          clear hk hkl hu2
          go_wp2_with fail
          go_roundg (nL - (i + 1))
          case measure => have := HIL.out; omega
          case rel => exact ⟨i + 1, rfl, HIL.out, rfl, HB2.out⟩
    · have hie : i = nL := by omega
      subst hie
      have hin : ¬ (i : Int) < (i : Int) := by omega
      have HB2 := hid (HUT.out wr hu).1
      clear hi hil hu
      go_wp2_with fail
      go_ret
      exact ⟨rfl, HB2.out⟩
end Go.Proofs.YtojnembakhhgiaaGreat

/- Two pairs of disks side by side. -/
namespace Go.Proofs.YtojnembakhhgiaaGreat
open Go.RowKit

def Nj : Nat → Prop := fun _ => False
theorem Pr.none {J K : Nat → Prop} {w : World} {d q : Nat} {s t : Ds} (h : Pr J K w d q s t) : Pr Nj K w d q s t := by
  obtain ⟨mb, ms, fv, ov, ss, h1, h2, h3, h4⟩ := h.ex
  exact ⟨⟨mb, ms, fv, ov, ss, h1, h2, ⟨h3.1, fun _ h => h.elim⟩, h4⟩, h.qs, h.qt⟩
theorem Kj.none {J K : Nat → Prop} {w w' : World} (h : Kj J K w w') : Kj Nj K w w' := ⟨h.os, h.tape, h.output, h.size, h.blk, fun _ h => h.elim⟩
theorem below_kn {K : Nat → Prop} {w w' : World} (h : Below w.heap.size w w') (hK : ∀ g, K g → g < w.heap.size) : Kj Nj K w w' := below_kj h hK (fun _ h => h.elim)
theorem kj_below {w w' : World} (h : Kj Nj (fun g => g < w.heap.size) w w') : Below w.heap.size w w' := ⟨h.os, h.tape, h.output, h.size, fun g hg => h.blk g hg⟩
/-- two pairs of disks, apart but for the settled texts -/
structure Tw (K : Nat → Prop) (w : World) (d q d2 q2 : Nat) (s s2 : Ds) : Prop where
  ex : ∃ mb ms fv ov ss, Dv w d2 s2 mb ms ∧ Rv w q2 s2 fv ov ss ∧ (∀ g ∈ Fp d2 mb ms, g ∉ Rm q2 fv ov ++ Rr ss) ∧ (∀ g, K g → g ∉ Fp d2 mb ms ∧ g ∉ Rm q2 fv ov ++ Rr ss) ∧ Pr (fun g => g ∈ Rr ss) (fun g => K g ∨ g ∈ Fp d2 mb ms ++ Rm q2 fv ov) w d q s s
  qs : usedN s2 ≤ s2.quota
theorem Tw.one {K : Nat → Prop} {w : World} {d q d2 q2 : Nat} {s s2 : Ds} (h : Tw K w d q d2 q2 s s2) : Pr Nj K w d q s s := by
  obtain ⟨_, _, _, _, _, _, _, _, _, h5⟩ := h.ex
  exact (h5.less (fun _ hg => .inl hg)).none
theorem Tw.two {K : Nat → Prop} {w : World} {d q d2 q2 : Nat} {s s2 : Ds} (h : Tw K w d q d2 q2 s s2) : Pr Nj K w d2 q2 s2 s2 := by
  obtain ⟨mb, ms, fv, ov, ss, h1, h2, h3, h4, h5⟩ := h.ex
  exact ⟨⟨mb, ms, fv, ov, ss, h1, h2, ⟨h3, fun _ h => h.elim⟩, fun g hg => ⟨h5.lt (.inl hg), h4 g hg⟩⟩, h.qs, h.qs⟩
theorem Tw.next {K : Nat → Prop} {w w' : World} {d q d2 q2 : Nat} {s s' s2 : Ds} (h : Tw K w d q d2 q2 s s2) (hn : ∀ J K' : Nat → Prop, Pr J K' w d q s s → Pr J K' w' d q s' s' ∧ Kj J K' w w') : Tw K w' d q d2 q2 s' s2 ∧ Kj Nj K w w' := by
  obtain ⟨mb, ms, fv, ov, ss, h1, h2, h3, h4, h5⟩ := h.ex
  obtain ⟨p1, p2⟩ := hn _ _ h5
  refine ⟨⟨⟨mb, ms, fv, ov, ss, h1.same (fun g hg => p2.blk g (.inr (List.mem_append_left _ hg))), h2.same (fun g hg => ?_), h3, h4, p1⟩, h.qs⟩, (p2.less (fun _ hg => .inl hg)).none⟩
  rcases List.mem_append.1 hg with e | e
  · exact p2.blk g (.inr (List.mem_append_right _ e))
  · exact p2.jlk g e
/-- one pair, or two -/
def Duo (K : Nat → Prop) (w : World) (d q d2 q2 : Nat) (s s2 : Ds) : Prop := (d2 = d ∧ q2 = q ∧ s2 = s ∧ Pr Nj K w d q s s) ∨ Tw K w d q d2 q2 s s2
theorem Duo.one {K : Nat → Prop} {w : World} {d q d2 q2 : Nat} {s s2 : Ds} (h : Duo K w d q d2 q2 s s2) : Pr Nj K w d q s s := by
  rcases h with ⟨_, _, _, h⟩ | h
  · exact h
  · exact h.one
theorem Duo.two {K : Nat → Prop} {w : World} {d q d2 q2 : Nat} {s s2 : Ds} (h : Duo K w d q d2 q2 s s2) : Pr Nj K w d2 q2 s2 s2 := by
  rcases h with ⟨rfl, rfl, rfl, h⟩ | h
  · exact h
  · exact h.two
theorem Duo.back {K : Nat → Prop} {w : World} {d q d2 q2 : Nat} {s s2 : Ds} (h : Duo K w d q d2 q2 s s2) : Duo K w d2 q2 d2 q2 s2 s2 := .inl ⟨rfl, rfl, rfl, h.two⟩
theorem Duo.low {K : Nat → Prop} {w w' : World} {d q d2 q2 : Nat} {s s2 : Ds} (h : Duo K w d q d2 q2 s s2) (hB : Below w.heap.size w w') : Duo K w' d q d2 q2 s s2 ∧ Kj Nj K w w' := by
  refine ⟨?_, below_kn hB (fun g hg => h.one.lt hg)⟩
  rcases h with ⟨rfl, rfl, rfl, h⟩ | h
  · exact .inl ⟨rfl, rfl, rfl, h.low hB⟩
  · exact .inr (h.next (fun J K' p => ⟨p.low hB, below_kj hB (fun g hg => p.lt hg) (fun g hg => p.jt hg)⟩)).1
theorem Duo.plays {K : Nat → Prop} {w : World} {d q d2 q2 : Nat} {s s2 : Ds} (h : Duo K w d q d2 q2 s s2) (hs : Sm 1 s) (x : Ox) (hx : Oxr x) : Calls Tryz.prog 10 #[.pointer (some ⟨d, 0, none⟩), .pointer (some ⟨q, 0, none⟩), .agg (xcs x)] w fun e w' => e = .returned (.bool true) ∧ ∃ s3, (s3 = s2 ∨ s3 = playD s x) ∧ Duo K w' d q d2 q2 (playD s x) s3 ∧ Kj Nj K w w' := by
  rcases h with ⟨rfl, rfl, rfl, h⟩ | h
  · refine (plays_any h hs hs x hx).mono ?_
    rintro e w' ⟨b, rfl, hb, p1, p2⟩
    rw [hb rfl]
    exact ⟨rfl, _, .inr rfl, .inl ⟨rfl, rfl, rfl, p1⟩, p2⟩
  · obtain ⟨mb, ms, fv, ov, ss, h1, h2, h3, h4, h5⟩ := h.ex
    refine (plays_any h5 hs hs x hx).mono ?_
    rintro e w' ⟨b, rfl, hb, p1, p2⟩
    rw [hb rfl]
    refine ⟨rfl, _, .inl rfl, .inr ⟨⟨mb, ms, fv, ov, ss, h1.same (fun g hg => p2.blk g (.inr (List.mem_append_left _ hg))), h2.same (fun g hg => ?_), h3, h4, p1⟩, h.qs⟩, (p2.less (fun _ hg => .inl hg)).none⟩
    rcases List.mem_append.1 hg with e | e
    · exact p2.blk g (.inr (List.mem_append_right _ e))
    · exact p2.jlk g e
/-- a pair, and a copy of its first disk -/
def Half (K : Nat → Prop) (w0 w : World) (d q a : Nat) (s : Ds) : Prop := Pr Nj K w0 d q s s ∧ Below w0.heap.size w0 w ∧ ∃ ma va, Dv w a s ma va ∧ ∀ g ∈ Fp a ma va, w0.heap.size ≤ g
theorem pr_copy {K : Nat → Prop} {w : World} {d q : Nat} {s : Ds} (h : Pr Nj K w d q s s) : Calls Tryz.prog 8 #[.pointer (some ⟨d, 0, none⟩)] w fun e w' => ∃ a, e = .returned (.pointer (some ⟨a, 0, none⟩)) ∧ Half K w w' d q a s := by
  refine (dp_copy h.dp).mono ?_
  rintro e w' ⟨a, he, h1, h2⟩
  exact ⟨a, he, h, h2, h1⟩
theorem half_copy {K : Nat → Prop} {w0 w : World} {d q a : Nat} {s : Ds} (h : Half K w0 w d q a s) : Calls Tryz.prog 9 #[.pointer (some ⟨q, 0, none⟩)] w fun e w' => ∃ c, e = .returned (.pointer (some ⟨c, 0, none⟩)) ∧ Duo K w' a c d q s s ∧ Kj Nj K w0 w' := by
  obtain ⟨hp, hB, ma, va, ha, hn⟩ := h
  obtain ⟨mb, ms, fv, ov, ss, h1, h2, ⟨h3, _⟩, h4⟩ := hp.ex
  have h2' := h2.low hB
  refine (rcopy_any w q s fv ov ss h2' ⟨by have := h2.ok.few; omega, by have := opn_len h2.ok; have := h2.small.1; omega⟩).mono ?_
  rintro e w' ⟨c, fv', ov', he, hr, hB', hm⟩
  have hBB : Below w0.heap.size w0 w' := below_comp hB hB'
  have hsz := hB.size
  refine ⟨c, he, .inr ⟨⟨mb, ms, fv, ov, ss, h1.low hBB, h2.low hBB, h3, fun g hg => (h4 g hg).2, ⟨⟨ma, va, fv', ov', ss, ha.low hB', hr, ⟨fun g hg hm' => ?_, fun g hg => ?_⟩, fun g hg => ?_⟩, hp.qs, hp.qs⟩⟩, hp.qs⟩, below_kn hBB (fun g hg => hp.lt hg)⟩
  · have a1 := hn g hg
    have a2 := ha.lt hg
    rcases List.mem_append.1 hm' with x | x
    · have := hm g x; omega
    · have := h2.lt (g := g) (List.mem_append_right _ x); omega
  · have a1 := h2.lt (g := g) (List.mem_append_right _ hg)
    refine ⟨by have := hBB.size; omega, fun x => ?_, fun x => ?_⟩
    · have := hn g x; omega
    · have := hm g x; omega
  · have a1 : g < w0.heap.size := by
      rcases hg with hg | hg
      · exact hp.lt hg
      · rcases List.mem_append.1 hg with x | x
        · exact h1.lt x
        · exact h2.lt (List.mem_append_left _ x)
    refine ⟨by have := hBB.size; omega, fun x => ?_, fun x => ?_⟩
    · have := hn g x; omega
    · rcases List.mem_append.1 x with x | x
      · have := hm g x; omega
      · rcases hg with hg | hg
        · exact (h4 g hg).2.2 (List.mem_append_right _ x)
        · rcases List.mem_append.1 hg with y | y
          · exact h3 g y (List.mem_append_right _ x)
          · obtain ⟨v, hv, hgv⟩ := List.mem_flatMap.1 x
            exact h2.ap2 v hv g hgv y
end Go.Proofs.YtojnembakhhgiaaGreat

/- Any row of calls: the law, for every row. -/
namespace Go.Proofs.YtojnembakhhgiaaGreat
open Go.RowKit

set_option maxRecDepth 100000 in
set_option maxHeartbeats 16000000 in
theorem plays_law (w : World) (qv : Int) (a1 : Option Addr) (c1 : Nat) (l : List Ox) (hO : Os w a1 l) (hOx : ∀ x ∈ l, Oxr x) :
    Calls Tryz.prog 3 #[.int .i64 qv, .slice a1 l.length c1] w fun e w' => e = .returned (.bool true) ∧ Below w.heap.size w w' := by
  have HWK : Hid (∀ W, Calls Tryz.prog 5 #[] W fun e w' => e = .returned (.bool true) ∧ Below W.heap.size W w') := hid (fun W => works_any W)
  obtain ⟨na, hna⟩ : ∃ na, na = l.length := ⟨_, rfl⟩
  rw [← hna]
  have HNA := hid hna
  have HO := hid hO
  have HOX := hid hOx
  clear hna hO hOx
  by_cases h1 : (60 : Int) < (na : Int)
  · go_enter Tryz.func3, Tryz.ntmps3
    go_wp2_with fail
    refine (HWK.out _).mono ?_
    rintro e w9 ⟨rfl, hb9⟩
    have HB9 := hid hb9
    clear hb9
    go_wp2_with fail
    go_ret
    exact ⟨rfl, HB9.out⟩
  · go_enter Tryz.func3, Tryz.ntmps3
    go_wp2_with fail
    refine (new_any w qv).mono ?_
    rintro e w1 ⟨rfl, hd1, hb1⟩
    have HD1 := hid hd1
    have HB1 := hid hb1
    clear hd1 hb1
    go_wp2_with fail
    refine (rnew_any w1 qv).mono ?_
    rintro e w2 ⟨rfl, hr2, hb2⟩
    obtain ⟨K, hK⟩ : ∃ K : Nat → Prop, K = fun g => g < w.heap.size := ⟨_, rfl⟩
    have HP2 : Hid (Pr Nj K w2 w.heap.size w1.heap.size (newD qv) (newD qv)) := hid (by rw [hK]; exact pr_new w w1 w2 qv HD1.out HB1.out hr2 hb2)
    have HW2 : Hid (Kj Nj K w w2) := hid (by rw [hK]; exact (below_kn HB1.out (fun g hg => hg)).trans (below_kn hb2 (fun g hg => Nat.lt_of_lt_of_le hg HB1.out.size)))
    have HKB : Hid (∀ W, Kj Nj K w W → Below w.heap.size w W) := hid (fun W hW => by rw [hK] at hW; exact kj_below hW)
    have HBW : Hid (∀ W w9, Kj Nj K w W → Below W.heap.size W w9 → Below w.heap.size w w9) := hid (fun W w9 h1 h2 => by
      rw [hK] at h1
      exact kj_below (h1.trans (below_kn h2 (fun g hg => Nat.lt_of_lt_of_le hg h1.size))))
    clear hr2 hb2 hK HD1 HB1
    go_wp2_with fail
    generalize w1.heap.size = q0 at *
    go_loopg [5, 6, 7, 8, 9] na (fun gg v3 v4 v5 v6 vj wr => ∃ (j d q d2 q2 : Nat) (s s2 : Ds), gg = na - j ∧ j ≤ na ∧ v3 = .pointer (some ⟨d, 0, none⟩) ∧ v4 = .pointer (some ⟨q, 0, none⟩) ∧ v5 = .pointer (some ⟨d2, 0, none⟩) ∧ v6 = .pointer (some ⟨q2, 0, none⟩) ∧ vj = .int .i64 (j : Int) ∧ Duo K wr d q d2 q2 s s2 ∧ Sm (5000 - j) s ∧ Sm (5000 - j) s2 ∧ Kj Nj K w wr)
    case atStart => exact ⟨0, _, _, _, _, _, _, rfl, Nat.zero_le _, rfl, rfl, rfl, rfl, rfl, .inl ⟨rfl, rfl, rfl, HP2.out⟩, ⟨by show 0 + 5000 < 1000000; omega, by show 0 + 5000 < 1000000; omega⟩, ⟨by show 0 + 5000 < 1000000; omega, by show 0 + 5000 < 1000000; omega⟩, HW2.out⟩
    case round =>
      obtain ⟨j, d, q, d2, q2, s, s2, rfl, hj, rfl, rfl, rfl, rfl, rfl, hp, hs, ht, hkw⟩ := hrel
      by_cases hjl : j < na
      · have hjs : j < l.length := by have := HNA.out; omega
        obtain ⟨g, o, hg, hc⟩ := ((HO.out).low (HKB.out wr hkw)) (by omega)
        subst hg
        obtain ⟨x, hx⟩ : ∃ x, x = l[j]'hjs := ⟨_, rfl⟩
        have hxr : Oxr x := HOX.out x (by rw [hx]; exact List.getElem_mem hjs)
        have e0 : wr.cell? ⟨g, o + j * 7, none⟩ = some (.int .u8 (x.kind : Int)) := by rw [hx]; exact hc j hjs 0 _ rfl
        have HC : Hid (wr.cell? ⟨g, o + j * 7 + 1, none⟩ = some (St x.name) ∧ wr.cell? ⟨g, o + j * 7 + 2, none⟩ = some (St x.to) ∧ wr.cell? ⟨g, o + j * 7 + 3, none⟩ = some (.int .i64 x.page) ∧ wr.cell? ⟨g, o + j * 7 + 4, none⟩ = some (.int .u16 (x.long : Int)) ∧ wr.cell? ⟨g, o + j * 7 + 5, none⟩ = some (.int .u8 (x.fill.toNat : Int)) ∧ wr.cell? ⟨g, o + j * 7 + 6, none⟩ = some (.int .u64 (x.keep : Int))) := hid (by rw [hx]; exact ⟨hc j hjs 1 _ rfl, hc j hjs 2 _ rfl, hc j hjs 3 _ rfl, hc j hjs 4 _ rfl, hc j hjs 5 _ rfl, hc j hjs 6 _ rfl⟩)
        have hjw : IntKind.i64.wrap ((j : Int) + 1) = ((j + 1 : Nat) : Int) := by rw [IntKind.wrap_i64]; omega
        have hj0 : (0 : Int) ≤ (j : Int) := Int.natCast_nonneg _
        have hj1 : (j : Int) < (na : Int) := by omega
        have HJ := hid hjl
        have HNX : Hid (∀ W d' q' d2' q2' s' s2', Duo K W d' q' d2' q2' s' s2' → Sm (5000 - (j + 1)) s' → Sm (5000 - (j + 1)) s2' → Kj Nj K wr W → Calls Tryz.prog 11 #[.pointer (some ⟨d', 0, none⟩), .pointer (some ⟨q', 0, none⟩)] W fun e w' => e = .returned (.bool true) ∧ Duo K w' d' q' d2' q2' s' s2' ∧ Sm (5000 - (j + 1)) s' ∧ Sm (5000 - (j + 1)) s2' ∧ Kj Nj K w w') := hid (fun W d' q' d2' q2' s' s2' p1 p2 p3 p4 => (same_any p1.one).mono (by
          rintro e w' ⟨he, hB⟩
          obtain ⟨r1, r2⟩ := p1.low hB
          exact ⟨he, r1, p2, p3, (hkw.trans p4).trans r2⟩))
        have HP := hid hp
        have HSM : Hid (Sm (5000 - (j + 1)) s ∧ Sm (5000 - (j + 1)) s2 ∧ Sm (5000 - (j + 1)) (playD s x)) := hid ⟨hs.less (by omega), ht.less (by omega), (show Sm (5000 - (j + 1) + 1) s by rw [show 5000 - (j + 1) + 1 = 5000 - j by omega]; exact hs).play x⟩
        have HPL : Hid (Calls Tryz.prog 10 #[.pointer (some ⟨d, 0, none⟩), .pointer (some ⟨q, 0, none⟩), .agg (xcs x)] wr fun e w' => e = .returned (.bool true) ∧ ∃ s3, (s3 = s2 ∨ s3 = playD s x) ∧ Duo K w' d q d2 q2 (playD s x) s3 ∧ Kj Nj K wr w') := hid (hp.plays (hs.less (by omega)) x hxr)
        obtain ⟨kd, hkd⟩ : ∃ kd, kd = x.kind := ⟨_, rfl⟩
        have hkb : kd < 256 := by rw [hkd]; exact hxr.kind
        rw [← hkd] at e0
        have HKD := hid hkd
        clear hx hxr hp hs ht hkw hc hj hjl hjs hkd
        by_cases h9 : kd % 11 = 9
        · have hr9 : (kd : Int) % 11 = 9 := by omega
          clear HPL HC h9
          go_wp2_with fail
          refine (pr_copy HP.out.one).mono ?_
          rintro e w5 ⟨a5, rfl, hh5⟩
          have HH5 := hid hh5
          clear hh5
          go_wp2_with fail
          refine (half_copy HH5.out).mono ?_
          rintro e w6 ⟨c6, rfl, hd6, hk6⟩
          have HCA := hid (HNX.out w6 a5 c6 d q s s hd6 HSM.out.1 HSM.out.1 hk6)
          clear hd6 hk6
          go_wp2_with fail
          refine HCA.out.mono ?_
          rintro e w7 ⟨rfl, hd7⟩
          have H7 := hid hd7
          clear hd7 HCA
          go_wp2_with fail
          go_roundg (na - (j + 1))
          case measure => have := HJ.out; omega
          case rel => exact ⟨j + 1, _, _, _, _, _, _, rfl, HJ.out, rfl, rfl, rfl, rfl, rfl, H7.out⟩
        · by_cases h10 : kd % 11 = 10
          · have hr10 : (kd : Int) % 11 = 10 := by omega
            have HCA := hid (HNX.out wr d2 q2 d2 q2 s2 s2 HP.out.back HSM.out.2.1 HSM.out.2.1 (Kj.refl _ _ _))
            clear HPL HC h9 h10
            go_wp2_with fail
            refine HCA.out.mono ?_
            rintro e w7 ⟨rfl, hd7⟩
            have H7 := hid hd7
            clear hd7 HCA
            go_wp2_with fail
            go_roundg (na - (j + 1))
            case measure => have := HJ.out; omega
            case rel => exact ⟨j + 1, _, _, _, _, _, _, rfl, HJ.out, rfl, rfl, rfl, rfl, rfl, H7.out⟩
          · have hr9 : ¬ (kd : Int) % 11 = 9 := by omega
            have hr10 : ¬ (kd : Int) % 11 = 10 := by omega
            obtain ⟨e1, e2, e3, e4, e5, e6⟩ := HC.out
            rw [HKD.out] at e0 hr9 hr10
            clear HC h9 h10 hkb
            unfold xcs at HPL
            have HSS : Hid (∀ s3, (s3 = s2 ∨ s3 = playD s x) → Sm (5000 - (j + 1)) s3) := hid (fun s3 h => by
              rcases h with rfl | rfl
              · exact HSM.out.2.1
              · exact HSM.out.2.2)
            clear HKD
            generalize playD s x = s1 at *
            go_wp2_with fail
            refine HPL.out.mono ?_
            rintro e w5 ⟨rfl, s3, h3, hd5, hk5⟩
            have HCA := hid (HNX.out w5 d q d2 q2 s1 s3 hd5 HSM.out.2.2 (HSS.out s3 h3) hk5)
            clear h3 hd5 hk5 HPL
            clear e0 e1 e2 e3 e4 e5 e6
            go_wp2_with fail
            refine HCA.out.mono ?_
            rintro e w7 ⟨rfl, hd7⟩
            have H7 := hid hd7
            clear hd7 HCA
            go_wp2_with fail
            go_roundg (na - (j + 1))
            case measure => have := HJ.out; omega
            case rel => exact ⟨j + 1, _, _, _, _, _, _, rfl, HJ.out, rfl, rfl, rfl, rfl, rfl, H7.out⟩
      · have hje : j = na := by omega
        subst hje
        have hjn : ¬ (j : Int) < (j : Int) := by omega
        have HSA := hid (same_any hp.two)
        have HKW := hid hkw
        clear hj hjl hp hs ht hkw
        go_wp2_with fail
        refine HSA.out.mono ?_
        rintro e w5 ⟨rfl, hB5⟩
        have HB5 := hid (HBW.out _ _ HKW.out hB5)
        clear hB5 HSA
        go_wp2_with fail
        refine (HWK.out _).mono ?_
        rintro e w9 ⟨rfl, hb9⟩
        have HB9 := hid (below_comp HB5.out hb9)
        clear hb9
        go_wp2_with fail
        go_ret
        exact ⟨rfl, HB9.out⟩
end Go.Proofs.YtojnembakhhgiaaGreat
