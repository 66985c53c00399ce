import Derived.Test.YtojnembakhhgiaaGreatOnjAll
import Derived.Test.YtojnembakhhgiaaGreatBldAll
import Derived.Test.YtojnembakhhgiaaGreatWrtAll
import Derived.Test.YtojnembakhhgiaaGreatUseAll
import Derived.Test.YtojnembakhhgiaaGreatRiAll
/- Writes copied. -/
namespace Go.Proofs.YtojnembakhhgiaaGreat
open Go.RowKit

theorem wcs_ones (l : List Dw) : ∀ v ∈ wcs l, v.oneCell' = true := fun v hv => by
  unfold wcs at hv
  obtain ⟨c, hc, hv⟩ := List.mem_flatten.1 hv
  obtain ⟨b, _, rfl⟩ := List.mem_map.1 hc
  exact wc_one b v hv
theorem wclone_run {w : World} {g cap : Nat} {l : List Dw} (h : w.ownsRow 0 87 258 (.slice (some ⟨g, 0, none⟩) l.length cap) l.length (wcs l)) (hl : l.length ≤ 1000000) :
    ∃ v' w', (∀ ty, (Builtin.append_ #[75, 75] ty #[.slice (some ⟨w.heap.size, 0, none⟩) 0 0, .slice (some ⟨g, 0, none⟩) l.length cap]).run Tryz.prog (w.alloc (.cells #[] 87)) = .ok v' w') ∧ w'.ownsRow 0 87 258 v' l.length (wcs l) ∧ Below w.heap.size w w' ∧ ∀ k ∈ ob v', w.heap.size ≤ k := by
  obtain ⟨i0, hi, hz0, hz1, hz2⟩ := info_get info81
  have hn : (w.alloc (.cells #[] 87)).ownsRow 0 87 258 (.slice (some ⟨w.heap.size, 0, none⟩) 0 0) 0 [] := ⟨rfl, .inr ⟨w.heap.size, 0, #[], rfl, Nat.zero_le _, heap_alloc_new w _, Nat.le_refl _, Nat.zero_le _, rfl, rfl⟩⟩
  have hsrc : ∀ j u, (wcs l)[j]? = some u → (w.alloc (.cells #[] 87)).cell? ((⟨g, 0, none⟩ : Addr).add j) = some u := fun j u hu => by
    rw [Addr.add_mid, Nat.zero_add]
    rcases h.2 with ⟨h1, _⟩ | ⟨g', cap', cur, h1, h2, h3, h4, h5, h6, h7⟩
    · cases h1
    · cases h1
      have hj : j < (wcs l).length := (List.getElem?_eq_some_iff.1 hu).1
      rw [h.1] at hj
      rw [cell_of_heap ((Below.heap_alloc w _ _ (lt_of_block h3)).trans h3), ← Array.getElem?_toList, ← hu, ← h7, List.getElem?_take, if_pos hj]
  obtain ⟨v', w', h4, h5, h6, _, h7⟩ := run_append_own_at (P := Tryz.prog) (w.alloc (.cells #[] 87)) 0 75 75 87 i0 _ 258 272 Tryz.underlying75 hi hz0 hz1 hz2 zero81 (by decide) _ 0 [] hn ⟨g, 0, none⟩ l.length cap (wcs l) h.1 hsrc (wcs_ones l) (by simp only [maxLen]; omega) (by omega) (Nat.zero_le _)
  refine ⟨v', w', fun ty => h4, by simpa using h5, ?_, fun k hk => ?_⟩
  · have hb : Below w.heap.size w (w.alloc (.cells #[] 87)) := (Below.refl _ _).alloc (Nat.le_refl _) _
    exact ⟨h6.os.trans hb.os, h6.tape.trans hb.tape, h6.output.trans hb.output, Nat.le_trans hb.size h6.size, fun k hk => (h6.block k (Nat.lt_of_lt_of_le hk hb.size) (fun e => by cases e; exact absurd hk (Nat.lt_irrefl _))).trans (hb.block k hk)⟩
  · rcases h7 with h7 | h7
    · have := mem_ob.1 hk
      rw [h7] at this
      cases this
      exact Nat.le_refl _
    · have := mem_ob.1 hk
      rw [h7] at this
      cases this
      simp
theorem build71e (W : World) : (Instr.buildSlice 75 0 #[]).run Tryz.prog W = .ok (.slice (some ⟨W.heap.size, 0, none⟩) 0 0) (W.alloc (.cells #[] 87)) := by kernel_rfl
set_option maxRecDepth 100000 in
set_option maxHeartbeats 4000000 in
theorem clonew_any (w : World) (v : Value) (l : List Dw) (h : w.ownsRow 0 87 258 v l.length (wcs l)) (hl : l.length ≤ 1000000) :
    Calls Tryz.prog 56 #[v] w fun e w' => ∃ v', e = .returned v' ∧ w'.ownsRow 0 87 258 v' l.length (wcs l) ∧ Below w.heap.size w w' ∧ ∀ k ∈ ob v', w.heap.size ≤ k := by
  rcases id h.2 with ⟨h1, h2⟩ | ⟨g, cap, _, h1, _⟩
  · subst h1
    have HF : Hid (w.ownsRow 0 87 258 (.slice none 0 0) l.length (wcs l) ∧ Below w.heap.size w w ∧ ∀ k ∈ ob (Value.slice none 0 0), w.heap.size ≤ k) := hid ⟨h, Below.refl _ _, fun k hk => (by cases hk)⟩
    have he := Lib.run_eql_slice_nil (P := Tryz.prog) w 75 87 none 0 0 0 0 Tryz.underlying75
    clear h hl h2
    go_enter Tryz.func56, Tryz.ntmps56
    go_wp2_with fail
    go_ret
    exact ⟨_, rfl, HF.out⟩
  · subst h1
    obtain ⟨v', w', hrun, h5⟩ := wclone_run h hl
    have HF := hid h5
    have HR := hid hrun
    have he := Lib.run_eql_slice_nil (P := Tryz.prog) w 75 87 (some ⟨g, 0, none⟩) l.length cap 0 0 Tryz.underlying75
    have hbe := build71e
    clear h hl h5 hrun
    generalize l.length = n at *
    go_enter Tryz.func56, Tryz.ntmps56
    go_wp2_with (first | (at_builtin; refine wpList_append_run rfl _ _ 75 rfl _ _ v' w' rfl rfl HR.out ?_) | fail)
    go_ret
    exact ⟨_, rfl, HF.out⟩
end Go.Proofs.YtojnembakhhgiaaGreat

/- A file copied. -/
namespace Go.Proofs.YtojnembakhhgiaaGreat
open Go.RowKit

theorem load70 {w : World} {b o : Nat} {v : Value} (h : w.cell? ⟨b, o, none⟩ = some v) : (Instr.loadAt 74 (.pointer (some ⟨b, o, none⟩))).run Tryz.prog w = .ok (.agg #[v]) w := by go_simp
def fd0 : Oper := { dst := some 3, op := Go.Op.move (Go.Operand.tmp 0), type := 61, pos := "file.go:66", after := #[], guard := none }
def fd1 : Oper := { dst := some 4, op := Go.Op.nilCheck (Go.Operand.tmp 3), type := 0, pos := "file.go:66", after := #[{ on := 0, ground := Go.Ground.data }], guard := none }
def fd2 : Oper := { dst := some 5, op := Go.Op.fieldAddr 77 (Go.Operand.tmp 4) 0, type := 0, pos := "file.go:66", after := #[{ on := 1, ground := Go.Ground.data }], guard := none }
def fd3 : Oper := { dst := some 6, op := Go.Op.load 74 (Go.Operand.tmp 5), type := 74, pos := "file.go:66", after := #[{ on := 2, ground := Go.Ground.data }], guard := none }
def fd4 : Oper := { dst := some 7, op := Go.Op.call { callee := Go.Callee.value (Go.Operand.func 55), args := #[Go.Operand.tmp 6], argTypes := #[74] }, type := 74, pos := "file.go:66", after := #[{ on := 3, ground := Go.Ground.data }], guard := none }
def fd5 : Oper := { dst := some 8, op := Go.Op.move (Go.Operand.tmp 0), type := 61, pos := "file.go:66", after := #[], guard := none }
def fd6 : Oper := { dst := some 9, op := Go.Op.nilCheck (Go.Operand.tmp 8), type := 0, pos := "file.go:66", after := #[{ on := 5, ground := Go.Ground.data }], guard := none }
def fd7 : Oper := { dst := some 10, op := Go.Op.fieldAddr 77 (Go.Operand.tmp 9) 1, type := 0, pos := "file.go:66", after := #[{ on := 6, ground := Go.Ground.data }], guard := none }
def fd8 : Oper := { dst := some 11, op := Go.Op.load 74 (Go.Operand.tmp 10), type := 74, pos := "file.go:66", after := #[{ on := 7, ground := Go.Ground.data }], guard := none }
def fd9 : Oper := { dst := some 12, op := Go.Op.call { callee := Go.Callee.value (Go.Operand.func 55), args := #[Go.Operand.tmp 11], argTypes := #[74] }, type := 74, pos := "file.go:66", after := #[{ on := 8, ground := Go.Ground.data }, { on := 4, ground := Go.Ground.chain }], guard := none }
def fd10 : Oper := { dst := some 13, op := Go.Op.move (Go.Operand.tmp 0), type := 61, pos := "file.go:66", after := #[], guard := none }
def fd11 : Oper := { dst := some 14, op := Go.Op.nilCheck (Go.Operand.tmp 13), type := 0, pos := "file.go:66", after := #[{ on := 10, ground := Go.Ground.data }], guard := none }
def fd12 : Oper := { dst := some 15, op := Go.Op.fieldAddr 77 (Go.Operand.tmp 14) 2, type := 0, pos := "file.go:66", after := #[{ on := 11, ground := Go.Ground.data }], guard := none }
def fd13 : Oper := { dst := some 16, op := Go.Op.load 75 (Go.Operand.tmp 15), type := 75, pos := "file.go:66", after := #[{ on := 12, ground := Go.Ground.data }], guard := none }
def fd14 : Oper := { dst := some 17, op := Go.Op.call { callee := Go.Callee.value (Go.Operand.func 56), args := #[Go.Operand.tmp 16], argTypes := #[75] }, type := 75, pos := "file.go:66", after := #[{ on := 13, ground := Go.Ground.data }, { on := 9, ground := Go.Ground.chain }], guard := none }
def fd15 : Oper := { dst := some 18, op := Go.Op.build 77 #[(0, Go.Operand.tmp 7), (1, Go.Operand.tmp 12), (2, Go.Operand.tmp 17)], type := 77, pos := "file.go:66", after := #[{ on := 4, ground := Go.Ground.data }, { on := 9, ground := Go.Ground.data }, { on := 14, ground := Go.Ground.data }], guard := none }
def fd16 : Oper := { dst := some 19, op := Go.Op.box 77 (Go.Operand.tmp 18), type := 61, pos := "file.go:66", after := #[{ on := 15, ground := Go.Ground.data }], guard := none }
def fd17 : Oper := { dst := some 2, op := Go.Op.assign (Go.Operand.tmp 19), type := 61, pos := "file.go:66", after := #[{ on := 16, ground := Go.Ground.data }, { on := 14, ground := Go.Ground.chain }, { on := 0, ground := Go.Ground.phase }, { on := 1, ground := Go.Ground.phase }, { on := 2, ground := Go.Ground.phase }, { on := 3, ground := Go.Ground.phase }, { on := 4, ground := Go.Ground.phase }, { on := 5, ground := Go.Ground.phase }, { on := 6, ground := Go.Ground.phase }, { on := 7, ground := Go.Ground.phase }, { on := 8, ground := Go.Ground.phase }, { on := 9, ground := Go.Ground.phase }, { on := 10, ground := Go.Ground.phase }, { on := 11, ground := Go.Ground.phase }, { on := 12, ground := Go.Ground.phase }, { on := 13, ground := Go.Ground.phase }, { on := 14, ground := Go.Ground.phase }, { on := 15, ground := Go.Ground.phase }, { on := 16, ground := Go.Ground.phase }], guard := none }

set_option maxRecDepth 100000 in
set_option maxHeartbeats 8000000 in
theorem fclone_any (w : World) (m : Fm) (l st : List Bs) (ws : List Dw) (h : FileAt w l st ws m) (hl : l.length ≤ 100000) (hst : st.length ≤ 100000) (hws : ws.length ≤ 1000000) :
    Calls Tryz.prog 25 #[.pointer (some ⟨m.p, 0, none⟩)] w fun e w' => ∃ m' : Fm, e = .returned (.pointer (some ⟨m'.p, 0, none⟩)) ∧ FileAt w' l st ws m' ∧ Below w.heap.size w w' ∧ (∀ k ∈ m'.blocks, w.heap.size ≤ k) ∧ m'.blocks.Nodup := by
  obtain ⟨a1, c1, hv1⟩ := row_shape h.pg
  obtain ⟨a2, c2, hv2⟩ := row_shape h.st
  obtain ⟨a3, c3, hv3⟩ := row_shape h.op
  obtain ⟨n1, hn1⟩ : ∃ n1, n1 = l.length := ⟨_, rfl⟩
  obtain ⟨n2, hn2⟩ : ∃ n2, n2 = st.length := ⟨_, rfl⟩
  obtain ⟨n3, hn3⟩ : ∃ n3, n3 = ws.length := ⟨_, rfl⟩
  have hrows : ∀ W, Below w.heap.size w W → W.ownsRow 0 83 256 (.slice a1 n1 c1) l.length (pcs l) ∧ W.ownsRow 0 83 256 (.slice a2 n2 c2) st.length (pcs st) ∧ W.ownsRow 0 87 258 (.slice a3 n3 c3) ws.length (wcs ws) := fun W hB => by
    have h' := h.same (w' := W) (fun g hg => hB.block g (h.lt hg))
    refine ⟨?_, ?_, ?_⟩
    · rw [hn1, ← hv1]; exact h'.pg
    · rw [hn2, ← hv2]; exact h'.st
    · rw [hn3, ← hv3]; exact h'.op
  have HC1 : Hid (∀ W, Below w.heap.size w W → Calls Tryz.prog 55 #[.agg #[.slice a1 n1 c1]] W fun e w' => ∃ v, e = .returned v ∧ ∃ b1 d1, v = .agg #[.slice b1 n1 d1] ∧ w'.ownsRow 0 83 256 (.slice b1 n1 d1) n1 (pcs l) ∧ Below W.heap.size W w' ∧ ∀ k ∈ ob (.slice b1 n1 d1), W.heap.size ≤ k) := hid (fun W hB => by
    refine (clonec_any W (.slice a1 n1 c1) l (hrows W hB).1 hl).mono ?_
    rintro e w' ⟨v', he, q1, q2, q3⟩
    obtain ⟨b1, d1, hv⟩ := row_shape q1
    rw [← hn1] at q1 hv
    exact ⟨_, he, b1, d1, by rw [hv], by rw [← hv]; exact q1, q2, by rw [← hv]; exact q3⟩)
  have HC2 : Hid (∀ W, Below w.heap.size w W → Calls Tryz.prog 55 #[.agg #[.slice a2 n2 c2]] W fun e w' => ∃ v, e = .returned v ∧ ∃ b1 d1, v = .agg #[.slice b1 n2 d1] ∧ w'.ownsRow 0 83 256 (.slice b1 n2 d1) n2 (pcs st) ∧ Below W.heap.size W w' ∧ ∀ k ∈ ob (.slice b1 n2 d1), W.heap.size ≤ k) := hid (fun W hB => by
    refine (clonec_any W (.slice a2 n2 c2) st (hrows W hB).2.1 hst).mono ?_
    rintro e w' ⟨v', he, q1, q2, q3⟩
    obtain ⟨b1, d1, hv⟩ := row_shape q1
    rw [← hn2] at q1 hv
    exact ⟨_, he, b1, d1, by rw [hv], by rw [← hv]; exact q1, q2, by rw [← hv]; exact q3⟩)
  have HC3 : Hid (∀ W, Below w.heap.size w W → Calls Tryz.prog 56 #[.slice a3 n3 c3] W fun e w' => ∃ v, e = .returned v ∧ ∃ b1 d1, v = .slice b1 n3 d1 ∧ w'.ownsRow 0 87 258 (.slice b1 n3 d1) n3 (wcs ws) ∧ Below W.heap.size W w' ∧ ∀ k ∈ ob (.slice b1 n3 d1), W.heap.size ≤ k) := hid (fun W hB => by
    refine (clonew_any W (.slice a3 n3 c3) ws (hrows W hB).2.2 hws).mono ?_
    rintro e w' ⟨v', he, q1, q2, q3⟩
    obtain ⟨b1, d1, hv⟩ := row_shape q1
    rw [← hn3] at q1 hv
    exact ⟨_, he, b1, d1, hv, by rw [← hv]; exact q1, q2, by rw [← hv]; exact q3⟩)
  have HDB : Hid (∀ W W', Below w.heap.size w W → Below W.heap.size W W' → Below w.heap.size w W') := hid (fun W W' h1 h2 => below_comp h1 h2)
  have HD0 : Hid (Below w.heap.size w w.drew) := hid ⟨rfl, rfl, rfl, Nat.le_refl _, fun _ _ => rfl⟩
  have hs0 : (fun W : World => W.cell? ⟨m.p, 0, none⟩ = some (.slice a1 n1 c1) ∧ W.cell? ⟨m.p, 1, none⟩ = some (.slice a2 n2 c2) ∧ W.cell? ⟨m.p, 2, none⟩ = some (.slice a3 n3 c3)) w.drew := ⟨by rw [hn1, ← hv1]; exact (cell_of_heap h.blk 0).trans rfl, by rw [hn2, ← hv2]; exact (cell_of_heap h.blk 1).trans rfl, by rw [hn3, ← hv3]; exact (cell_of_heap h.blk 2).trans rfl⟩
  have hpl := lt_of_block h.blk
  have HSS : Hid (∀ W W' : World, (fun W : World => W.cell? ⟨m.p, 0, none⟩ = some (.slice a1 n1 c1) ∧ W.cell? ⟨m.p, 1, none⟩ = some (.slice a2 n2 c2) ∧ W.cell? ⟨m.p, 2, none⟩ = some (.slice a3 n3 c3)) W → Below W.heap.size W W' → (fun W : World => W.cell? ⟨m.p, 0, none⟩ = some (.slice a1 n1 c1) ∧ W.cell? ⟨m.p, 1, none⟩ = some (.slice a2 n2 c2) ∧ W.cell? ⟨m.p, 2, none⟩ = some (.slice a3 n3 c3)) W') := hid (fun W W' h1 hB => by
    have hpp : m.p < W.heap.size := World.block_lt_of_cell? W ⟨m.p, 0, none⟩ h1.1
    have e : ∀ o, W'.cell? ⟨m.p, o, none⟩ = W.cell? ⟨m.p, o, none⟩ := fun o => World.cell?_of_block (hB.block m.p hpp)
    exact ⟨(e 0).trans h1.1, (e 1).trans h1.2.1, (e 2).trans h1.2.2⟩)
  have HN1 := hid hn1
  have HN2 := hid hn2
  have HN3 := hid hn3
  clear h hl hst hws hv1 hv2 hv3 hn1 hn2 hn3 hrows hpl
  go_enter Tryz.func25, Tryz.ntmps25
  go_wp2_with fail
  refine wp_region_held (S := fun W : World => W.cell? ⟨m.p, 0, none⟩ = some (.slice a1 n1 c1) ∧ W.cell? ⟨m.p, 1, none⟩ = some (.slice a2 n2 c2) ∧ W.cell? ⟨m.p, 2, none⟩ = some (.slice a3 n3 c3)) (by kernel_rfl) ?_
  refine wpAnyH_take (i := 0) (oi := fd0) (v := .pointer (some ⟨m.p, 0, none⟩)) rfl (by kernel_rfl) (by kernel_rfl) (by kernel_rfl) (fun _ _ _ h => h) (y_all rfl (fun _ => rfl)) hs0 ?_
  simp only [Act.put, fd0, List.setIfInBounds_toArray, List.set_cons_zero, List.set_cons_succ]
  refine wpAnyH_take (i := 5) (oi := fd5) (v := .pointer (some ⟨m.p, 0, none⟩)) rfl (by kernel_rfl) (by kernel_rfl) (by kernel_rfl) (fun _ _ _ h => h) (y_all rfl (fun _ => rfl)) hs0 ?_
  simp only [Act.put, fd5, List.setIfInBounds_toArray, List.set_cons_zero, List.set_cons_succ]
  refine wpAnyH_take (i := 10) (oi := fd10) (v := .pointer (some ⟨m.p, 0, none⟩)) rfl (by kernel_rfl) (by kernel_rfl) (by kernel_rfl) (fun _ _ _ h => h) (y_all rfl (fun _ => rfl)) hs0 ?_
  simp only [Act.put, fd10, List.setIfInBounds_toArray, List.set_cons_zero, List.set_cons_succ]
  refine wpAnyH_take (i := 1) (oi := fd1) (v := .pointer (some ⟨m.p, 0, none⟩)) rfl (by kernel_rfl) (by kernel_rfl) (by kernel_rfl) (fun _ _ _ h => h) (y_all rfl (fun _ => rfl)) hs0 ?_
  simp only [Act.put, fd1, List.setIfInBounds_toArray, List.set_cons_zero, List.set_cons_succ]
  refine wpAnyH_take (i := 6) (oi := fd6) (v := .pointer (some ⟨m.p, 0, none⟩)) rfl (by kernel_rfl) (by kernel_rfl) (by kernel_rfl) (fun _ _ _ h => h) (y_all rfl (fun _ => rfl)) hs0 ?_
  simp only [Act.put, fd6, List.setIfInBounds_toArray, List.set_cons_zero, List.set_cons_succ]
  refine wpAnyH_take (i := 11) (oi := fd11) (v := .pointer (some ⟨m.p, 0, none⟩)) rfl (by kernel_rfl) (by kernel_rfl) (by kernel_rfl) (fun _ _ _ h => h) (y_all rfl (fun _ => rfl)) hs0 ?_
  simp only [Act.put, fd11, List.setIfInBounds_toArray, List.set_cons_zero, List.set_cons_succ]
  refine wpAnyH_take (i := 2) (oi := fd2) (v := .pointer (some ⟨m.p, 0, none⟩)) rfl (by kernel_rfl) (by kernel_rfl) (by kernel_rfl) (fun _ _ _ h => h) (y_all rfl (fun _ => by simp only [fd2]; go_simp)) hs0 ?_
  simp only [Act.put, fd2, List.setIfInBounds_toArray, List.set_cons_zero, List.set_cons_succ]
  refine wpAnyH_take (i := 7) (oi := fd7) (v := .pointer (some ⟨m.p, 1, none⟩)) rfl (by kernel_rfl) (by kernel_rfl) (by kernel_rfl) (fun _ _ _ h => h) (y_all rfl (fun _ => by simp only [fd7]; go_simp)) hs0 ?_
  simp only [Act.put, fd7, List.setIfInBounds_toArray, List.set_cons_zero, List.set_cons_succ]
  refine wpAnyH_take (i := 12) (oi := fd12) (v := .pointer (some ⟨m.p, 2, none⟩)) rfl (by kernel_rfl) (by kernel_rfl) (by kernel_rfl) (fun _ _ _ h => h) (y_all rfl (fun _ => by simp only [fd12]; go_simp)) hs0 ?_
  simp only [Act.put, fd12, List.setIfInBounds_toArray, List.set_cons_zero, List.set_cons_succ]
  refine wpAnyH_take (i := 3) (oi := fd3) (v := .agg #[.slice a1 n1 c1]) rfl (by kernel_rfl) (by kernel_rfl) (by kernel_rfl) (fun _ _ _ h => h) (y_load (v := .agg #[.slice a1 n1 c1]) rfl 74 (.tmp 5) rfl m.p 0 rfl (fun w hw => load70 hw.1)) hs0 ?_
  simp only [Act.put, fd3, List.setIfInBounds_toArray, List.set_cons_zero, List.set_cons_succ]
  refine wpAnyH_take (i := 8) (oi := fd8) (v := .agg #[.slice a2 n2 c2]) rfl (by kernel_rfl) (by kernel_rfl) (by kernel_rfl) (fun _ _ _ h => h) (y_load (v := .agg #[.slice a2 n2 c2]) rfl 74 (.tmp 10) rfl m.p 1 rfl (fun w hw => load70 hw.2.1)) hs0 ?_
  simp only [Act.put, fd8, List.setIfInBounds_toArray, List.set_cons_zero, List.set_cons_succ]
  refine wpAnyH_take (i := 13) (oi := fd13) (v := .slice a3 n3 c3) rfl (by kernel_rfl) (by kernel_rfl) (by kernel_rfl) (fun _ _ _ h => h) (y_load rfl 75 (.tmp 15) rfl m.p 2 rfl (fun w hw => run_load_cell (hw.2.2))) hs0 ?_
  simp only [Act.put, fd13, List.setIfInBounds_toArray, List.set_cons_zero, List.set_cons_succ]
  refine wpAnyH_all (rs := [4]) (by kernel_rfl) (by simp) (all1 ?_)
  refine op_call (o := fd4) (f := 55) (args := #[.agg #[.slice a1 n1 c1]]) (R := fun v w' => ∃ b1 d1, v = .agg #[.slice b1 n1 d1] ∧ w'.ownsRow 0 83 256 (.slice b1 n1 d1) n1 (pcs l) ∧ Below w.drew.heap.size w.drew w' ∧ ∀ k ∈ ob (.slice b1 n1 d1), w.drew.heap.size ≤ k) rfl rfl (by simp only [fd4]; go_simp) (HC1.out w.drew HD0.out) ?_
  rintro v0 w1 ⟨b1, d1, rfl, q1, q2, q3⟩
  have Q1 := hid q1
  have Q2 := hid q2
  have Q3 := hid q3
  have hs0 := HSS.out w.drew w1 hs0 q2
  clear q1 q2 q3
  refine ⟨hs0, ?_⟩
  simp only [Act.put, fd4, List.setIfInBounds_toArray, List.set_cons_zero, List.set_cons_succ]
  refine wpAnyH_all (rs := [9]) (by kernel_rfl) (by simp) (all1 ?_)
  refine op_call (o := fd9) (f := 55) (args := #[.agg #[.slice a2 n2 c2]]) (R := fun v w' => ∃ b2 d2, v = .agg #[.slice b2 n2 d2] ∧ w'.ownsRow 0 83 256 (.slice b2 n2 d2) n2 (pcs st) ∧ Below w1.heap.size w1 w' ∧ ∀ k ∈ ob (.slice b2 n2 d2), w1.heap.size ≤ k) rfl rfl (by simp only [fd9]; go_simp) (HC2.out w1 (HDB.out w.drew w1 HD0.out Q2.out)) ?_
  rintro v0 w2 ⟨b2, d2, rfl, q1, q2, q3⟩
  have R1 := hid q1
  have R2 := hid q2
  have R3 := hid q3
  have hs0 := HSS.out w1 w2 hs0 q2
  clear q1 q2 q3
  refine ⟨hs0, ?_⟩
  simp only [Act.put, fd9, List.setIfInBounds_toArray, List.set_cons_zero, List.set_cons_succ]
  refine wpAnyH_all (rs := [14]) (by kernel_rfl) (by simp) (all1 ?_)
  refine op_call (o := fd14) (f := 56) (args := #[.slice a3 n3 c3]) (R := fun v w' => ∃ b3 d3, v = .slice b3 n3 d3 ∧ w'.ownsRow 0 87 258 (.slice b3 n3 d3) n3 (wcs ws) ∧ Below w2.heap.size w2 w' ∧ ∀ k ∈ ob (.slice b3 n3 d3), w2.heap.size ≤ k) rfl rfl (by simp only [fd14]; go_simp) (HC3.out w2 (HDB.out w1 w2 (HDB.out w.drew w1 HD0.out Q2.out) R2.out)) ?_
  rintro v0 w3 ⟨b3, d3, rfl, q1, q2, q3⟩
  have S1 := hid q1
  have S2 := hid q2
  have S3 := hid q3
  have hs0 := HSS.out w2 w3 hs0 q2
  clear q1 q2 q3
  refine ⟨hs0, ?_⟩
  simp only [Act.put, fd14, List.setIfInBounds_toArray, List.set_cons_zero, List.set_cons_succ]
  refine wpAnyH_take (i := 15) (oi := fd15) (v := .agg #[.slice b1 n1 d1, .slice b2 n2 d2, .slice b3 n3 d3]) rfl (by kernel_rfl) (by kernel_rfl) (by kernel_rfl) (fun _ _ _ h => h) (y_all rfl (fun _ => by simp only [fd15]; go_simp)) hs0 ?_
  simp only [Act.put, fd15, List.setIfInBounds_toArray, List.set_cons_zero, List.set_cons_succ]
  refine wpAnyH_all (rs := [16]) (by kernel_rfl) (by simp) (all1 ?_)
  refine op_ok (o := fd16) (v := .pointer (some ⟨w3.heap.size, 0, none⟩)) (w' := w3.alloc (.cells #[.slice b1 n1 d1, .slice b2 n2 d2, .slice b3 n3 d3] 77)) rfl rfl (by simp only [fd16]; go_simp) ?_
  have hs0 := HSS.out w3 _ hs0 ((Below.refl _ _).alloc (Nat.le_refl _) (.cells #[.slice b1 n1 d1, .slice b2 n2 d2, .slice b3 n3 d3] 77))
  refine ⟨hs0, ?_⟩
  simp only [Act.put, fd16, List.setIfInBounds_toArray, List.set_cons_zero, List.set_cons_succ]
  refine wpAnyH_take (i := 17) (oi := fd17) (v := .pointer (some ⟨w3.heap.size, 0, none⟩)) rfl (by kernel_rfl) (by kernel_rfl) (by kernel_rfl) (fun _ _ _ h => h) (y_all rfl (fun _ => rfl)) hs0 ?_
  simp only [Act.put, fd17, List.setIfInBounds_toArray, List.set_cons_zero, List.set_cons_succ]
  refine wpAnyH_done (by kernel_rfl) ?_ _
  clear hs0
  go_wp2_with fail
  go_ret
  have z1 : w.heap.size ≤ w1.heap.size := Q2.out.size
  have z2 := R2.out.size
  have z3 := S2.out.size
  have t1 : ∀ k ∈ ob (Value.slice b1 n1 d1), w.heap.size ≤ k ∧ k < w1.heap.size := fun k hk => ⟨Q3.out k hk, (Q1.out.lt k (mem_ob.1 hk)).2⟩
  have t2 : ∀ k ∈ ob (Value.slice b2 n2 d2), w1.heap.size ≤ k ∧ k < w2.heap.size := fun k hk => ⟨R3.out k hk, (R1.out.lt k (mem_ob.1 hk)).2⟩
  have t3 : ∀ k ∈ ob (Value.slice b3 n3 d3), w2.heap.size ≤ k ∧ k < w3.heap.size := fun k hk => ⟨S3.out k hk, (S1.out.lt k (mem_ob.1 hk)).2⟩
  have hB4 : Below w3.heap.size w3 (w3.alloc (.cells #[.slice b1 n1 d1, .slice b2 n2 d2, .slice b3 n3 d3] 77)) := (Below.refl _ _).alloc (Nat.le_refl _) _
  refine ⟨⟨w3.heap.size, .slice b1 n1 d1, .slice b2 n2 d2, .slice b3 n3 d3⟩, rfl, ⟨heap_alloc_new _ _, ?_, ?_, ?_⟩, ?_, fun k hk => ?_, ?_⟩
  · rw [← HN1.out]
    refine ownsRow_same Q1.out (fun k hk => ?_)
    have := t1 k (mem_ob.2 hk)
    rw [hB4.block k (by omega), S2.out.block k (by omega), R2.out.block k (by omega)]
  · rw [← HN2.out]
    refine ownsRow_same R1.out (fun k hk => ?_)
    have := t2 k (mem_ob.2 hk)
    rw [hB4.block k (by omega), S2.out.block k (by omega)]
  · rw [← HN3.out]
    refine ownsRow_same S1.out (fun k hk => ?_)
    have := t3 k (mem_ob.2 hk)
    rw [hB4.block k (by omega)]
  · exact below_comp (below_comp (below_comp (below_comp HD0.out Q2.out) R2.out) S2.out) hB4
  · have hk : k ∈ w3.heap.size :: (ob (Value.slice b1 n1 d1) ++ (ob (Value.slice b2 n2 d2) ++ ob (Value.slice b3 n3 d3))) := hk
    simp only [List.mem_cons, List.mem_append] at hk
    rcases hk with e | e | e | e
    · omega
    · exact (t1 k e).1
    · have := (t2 k e).1; omega
    · have := (t3 k e).1; omega
  · show (w3.heap.size :: (ob (Value.slice b1 n1 d1) ++ (ob (Value.slice b2 n2 d2) ++ ob (Value.slice b3 n3 d3)))).Nodup
    have nd : ∀ v : Value, (ob v).Nodup := fun v => by unfold ob; cases v.ownBlock <;> simp
    rw [List.nodup_cons, List.nodup_append, List.nodup_append]
    refine ⟨fun hk => ?_, nd _, ⟨nd _, nd _, fun a ha b hb e => ?_⟩, fun a ha b hb e => ?_⟩
    · simp only [List.mem_append] at hk
      rcases hk with e | e | e
      · have := (t1 _ e).2; omega
      · have := (t2 _ e).2; omega
      · have := (t3 _ e).2; omega
    · have := t2 a ha; have := t3 b hb; omega
    · have := t1 a ha
      rcases List.mem_append.1 hb with h | h
      · have := t2 b h; omega
      · have := t3 b h; omega
end Go.Proofs.YtojnembakhhgiaaGreat

/- A disk copied: its mathematics. -/
namespace Go.Proofs.YtojnembakhhgiaaGreat
open Go.RowKit

def fm0 : Fm := ⟨0, .slice none 0 0, .slice none 0 0, .slice none 0 0⟩
def cfind (C : List (Bs × Fm)) (t : Bs) : Option Fm := (C.find? fun x => x.1 == t).map fun x => x.2
def clook (C : List (Bs × Fm)) (t : Bs) : Fm := (cfind C t).getD fm0
/-- a copy under way: the files of the names K are copied -/
structure Cp (lo : Nat) (wr : World) (c b2 : Nat) (s : Ds) (K : List Bs) (C : List (Bs × Fm)) : Prop where
  keys : C.map Prod.fst = K
  nodup : K.Nodup
  fil : ∀ x ∈ C, ∀ f, findF s x.1 = some f → FileAt wr (pagesOf s f) f.settled (ofNo s.opn f.no) x.2
  map : Om wr b2 (fun t => (cfind C t).map Fm.p)
  apart : (c :: b2 :: C.flatMap fun x => x.2.blocks).Nodup
  new : ∀ g ∈ c :: b2 :: C.flatMap fun x => x.2.blocks, lo ≤ g
  blk : wr.heap[c]? = some (.cells (dcs s (some b2)) 56 (0, 0))
theorem cfind_mem {C : List (Bs × Fm)} (hn : (C.map Prod.fst).Nodup) {x : Bs × Fm} (hx : x ∈ C) : cfind C x.1 = some x.2 := by
  induction C with
  | nil => cases hx
  | cons a C ih =>
    rw [List.map_cons, List.nodup_cons] at hn
    unfold cfind
    rw [List.find?_cons]
    rcases List.mem_cons.1 hx with e | e
    · subst e
      simp
    · have hne : (a.1 == x.1) = false := by
        simp only [beq_eq_false_iff_ne, ne_eq]
        exact fun h => hn.1 (h ▸ List.mem_map.2 ⟨x, e, rfl⟩)
      rw [hne]
      exact ih hn.2 e
theorem cfind_none {C : List (Bs × Fm)} {t : Bs} (h : t ∉ C.map Prod.fst) : cfind C t = none := by
  unfold cfind
  rw [List.find?_eq_none.2]
  · rfl
  · intro x hx
    simp only [beq_iff_eq]
    exact fun e => h (e ▸ List.mem_map.2 ⟨x, hx, rfl⟩)
theorem cfind_snoc {C : List (Bs × Fm)} {t : Bs} (h : t ∉ C.map Prod.fst) (m : Fm) (u : Bs) : cfind (C ++ [(t, m)]) u = if u = t then some m else cfind C u := by
  unfold cfind
  rw [List.find?_append]
  by_cases e : u = t
  · subst e
    have := cfind_none h
    unfold cfind at this
    rw [Option.map_eq_none_iff] at this
    rw [this, if_pos rfl]
    simp
  · rw [if_neg e]
    cases hc : C.find? fun x => x.1 == u with
    | some x => rfl
    | none =>
      have : (t == u) = false := by simpa using fun h => e h.symm
      simp [this]
theorem Cp.start {lo : Nat} {wr : World} {c b2 : Nat} {s : Ds} (hb : wr.heap[c]? = some (.cells (dcs s (some b2)) 56 (0, 0))) (hm : Om wr b2 (fun _ => none)) (hcb : c ≠ b2) (h1 : lo ≤ c) (h2 : lo ≤ b2) : Cp lo wr c b2 s [] [] :=
  ⟨rfl, List.nodup_nil, fun _ h => (by cases h), hm, by simp [hcb], fun g hg => by
    simp at hg
    rcases hg with e | e <;> omega, hb⟩
theorem Cp.same {lo : Nat} {w w' : World} {c b2 : Nat} {s : Ds} {K : List Bs} {C : List (Bs × Fm)} (h : Cp lo w c b2 s K C) (hh : ∀ g ∈ c :: b2 :: C.flatMap (fun x => x.2.blocks), w'.heap[g]? = w.heap[g]?) : Cp lo w' c b2 s K C :=
  ⟨h.keys, h.nodup, fun x hx f hf => (h.fil x hx f hf).same (fun g hg => hh g (by simp only [List.mem_cons]; exact .inr (.inr (List.mem_flatMap.2 ⟨x, hx, hg⟩)))), h.map.same (hh b2 (by simp)), h.apart, h.new, (hh c (by simp)).trans h.blk⟩
/-- one file more: copied at w1 to w2, put into the map at w3 -/
theorem Cp.more {lo : Nat} {w1 w2 w3 : World} {c b2 : Nat} {s : Ds} {K : List Bs} {C : List (Bs × Fm)} (h : Cp lo w1 c b2 s K C) (hlt : ∀ g ∈ c :: b2 :: C.flatMap (fun x => x.2.blocks), g < w1.heap.size) (hlo : lo ≤ w1.heap.size) {t : Bs} (ht : t ∉ K) {f : Df} (hf : findF s t = some f) {m : Fm} (hB : Below w1.heap.size w1 w2) (hm : FileAt w2 (pagesOf s f) f.settled (ofNo s.opn f.no) m) (hmn : ∀ k ∈ m.blocks, w1.heap.size ≤ k) (hmd : m.blocks.Nodup) (ho : Om w3 b2 (nput (fun t => (cfind C t).map Fm.p) t m.p)) (hg : w2.grownBy w3 (some b2)) : Cp lo w3 c b2 s (K ++ [t]) (C ++ [(t, m)]) := by
  have hblt : b2 < w1.heap.size := hlt b2 (by simp)
  have hcb : c ≠ b2 := fun e => by
    have := (List.nodup_cons.1 h.apart).1
    exact this (by simp [e])
  have hold : ∀ g, g < w1.heap.size → g ≠ b2 → w3.heap[g]? = w1.heap[g]? := fun g hgl hne => (hg.block g (Nat.lt_of_lt_of_le hgl hB.size) (fun e => hne (by cases e; rfl))).trans (hB.block g hgl)
  have hbn : ∀ x ∈ C, ∀ g ∈ x.2.blocks, g ≠ b2 := fun x hx g hgm e => by
    have := (List.nodup_cons.1 (List.nodup_cons.1 h.apart).2).1
    exact this (e ▸ List.mem_flatMap.2 ⟨x, hx, hgm⟩)
  have htk : t ∉ C.map Prod.fst := by rw [h.keys]; exact ht
  refine ⟨by rw [List.map_append, h.keys]; rfl, ?_, fun x hx f' hf' => ?_, ?_, ?_, fun g hgm => ?_, ?_⟩
  · rw [List.nodup_append]
    exact ⟨h.nodup, by simp, fun a ha b hb e => by simp at hb; subst hb; subst e; exact ht ha⟩
  · rcases List.mem_append.1 hx with hx | hx
    · exact (h.fil x hx f' hf').same (fun g hgm => hold g (hlt g (by simp only [List.mem_cons]; exact .inr (.inr (List.mem_flatMap.2 ⟨x, hx, hgm⟩)))) (hbn x hx g hgm))
    · simp at hx
      subst hx
      have hf' : findF s t = some f' := hf'
      rw [hf] at hf'
      cases hf'
      exact hm.same (fun g hgm => hg.block g (hm.lt hgm) (fun e => by have := hmn g hgm; cases e; omega))
  · have e : (fun u => (cfind (C ++ [(t, m)]) u).map Fm.p) = nput (fun t => (cfind C t).map Fm.p) t m.p := by
      funext u
      unfold nput
      rw [cfind_snoc htk]
      by_cases e : u = t
      · rw [if_pos e, if_pos e]; rfl
      · rw [if_neg e, if_neg e]
    rw [e]
    exact ho
  · rw [List.flatMap_append]
    show (c :: b2 :: (C.flatMap (fun x => x.2.blocks) ++ ([(t, m)] : List (Bs × Fm)).flatMap fun x => x.2.blocks)).Nodup
    rw [show ([(t, m)] : List (Bs × Fm)).flatMap (fun x => x.2.blocks) = m.blocks by simp]
    have e : c :: b2 :: (C.flatMap (fun x => x.2.blocks) ++ m.blocks) = (c :: b2 :: C.flatMap (fun x => x.2.blocks)) ++ m.blocks := rfl
    rw [e, List.nodup_append]
    exact ⟨h.apart, hmd, fun a ha b hb e => by have h1 := hlt a ha; have h2 := hmn b hb; omega⟩
  · rw [List.flatMap_append] at hgm
    have hgm' : g ∈ (c :: b2 :: C.flatMap (fun x => x.2.blocks)) ++ m.blocks := by
      rw [show ([(t, m)] : List (Bs × Fm)).flatMap (fun x => x.2.blocks) = m.blocks by simp] at hgm
      exact hgm
    rcases List.mem_append.1 hgm' with h1 | h1
    · exact h.new g h1
    · exact Nat.le_trans hlo (hmn g h1)
  · exact (hold c (hlt c (by simp)) hcb).trans h.blk
theorem clook_mem {C : List (Bs × Fm)} (hn : (C.map Prod.fst).Nodup) {x : Bs × Fm} (hx : x ∈ C) : clook C x.1 = x.2 := by
  unfold clook
  rw [cfind_mem hn hx]
  rfl
/-- all names are gone over: a disk of its own -/
theorem Cp.done {lo : Nat} {w : World} {c b2 : Nat} {s : Ds} {K : List Bs} {C : List (Bs × Fm)} (h : Cp lo w c b2 s K C) (hp : K.Perm (s.files.map Df.name)) (hok : Dok s) (hsm : s.steps < 1000000 ∧ s.inn < 9223372036854775808 ∧ s.keep < 18446744073709551616) :
    Dv w c s (some b2) (s.files.map fun f => clook C f.name) ∧ ∀ g ∈ Fp c (some b2) (s.files.map fun f => clook C f.name), lo ≤ g := by
  have hkn : (C.map Prod.fst).Nodup := by rw [h.keys]; exact h.nodup
  have hin : ∀ f ∈ s.files, ∃ x ∈ C, x.1 = f.name := fun f hf => by
    have h1 : f.name ∈ K := hp.mem_iff.2 (List.mem_map.2 ⟨f, hf, rfl⟩)
    rw [← h.keys] at h1
    obtain ⟨x, hx, e⟩ := List.mem_map.1 h1
    exact ⟨x, hx, e⟩
  have hmp : (s.files.map fun f => clook C f.name).Perm (C.map Prod.snd) := by
    have e1 : C.map Prod.snd = K.map (clook C) := by
      rw [← h.keys, List.map_map]
      exact List.map_congr_left (fun x hx => (clook_mem hkn hx).symm)
    have e2 : (s.files.map fun f => clook C f.name) = (s.files.map Df.name).map (clook C) := by rw [List.map_map]; rfl
    rw [e1, e2]
    exact (hp.map _).symm
  have hfp : (Fp c (some b2) (s.files.map fun f => clook C f.name)).Perm (c :: b2 :: C.flatMap fun x => x.2.blocks) := by
    show (c :: ([b2] ++ (s.files.map fun f => clook C f.name).flatMap Fm.blocks)).Perm _
    have e3 : (C.flatMap fun x => x.2.blocks) = (C.map Prod.snd).flatMap Fm.blocks := by rw [List.flatMap_map]
    rw [e3]
    exact ((hmp.flatMap_right _).cons b2).cons c
  refine ⟨⟨h.blk, by simp, fun i hi hi' => ?_, fun b e => ?_, fun e => (by cases e), hfp.nodup_iff.2 h.apart, hok, hsm⟩, fun g hg => h.new g (hfp.mem_iff.1 hg)⟩
  · obtain ⟨x, hx, e⟩ := hin s.files[i] (List.getElem_mem hi)
    have e2 : (s.files.map fun f => clook C f.name)[i]'hi' = x.2 := by
      rw [List.getElem_map, ← e]
      exact clook_mem hkn hx
    rw [e2]
    refine h.fil x hx s.files[i] ?_
    rw [e]
    exact find_is hok (List.getElem_mem hi)
  · cases e
    have e : namesOf s (s.files.map fun f => clook C f.name) = fun t => (cfind C t).map Fm.p := by
      funext t
      rcases find_at (s := s) (ms := s.files.map fun f => clook C f.name) (by simp) (t := t) with ⟨e1, e2⟩ | ⟨f, m, e0, e1, e2, e3⟩
      · rw [e1]
        have : t ∉ C.map Prod.fst := fun ht => by
          rw [h.keys] at ht
          obtain ⟨f, hf, hn⟩ := List.mem_map.1 (hp.mem_iff.1 ht)
          exact find_none e2 f hf hn
        rw [cfind_none this]
        rfl
      · rw [e3]
        obtain ⟨hfm, hfn⟩ := find_mem e2
        obtain ⟨x, hx, ex⟩ := hin f hfm
        have hz : m = clook C f.name := by
          have : (f, m) ∈ s.files.zip (s.files.map fun f => clook C f.name) := e0
          obtain ⟨i, hi, hz⟩ := List.getElem_of_mem this
          rw [List.getElem_zip, List.getElem_map] at hz
          have h1 := congrArg Prod.fst hz
          have h2 := congrArg Prod.snd hz
          simp only at h1 h2
          rw [← h2, h1]
        rw [hz, ← hfn, ← ex, clook_mem hkn hx, cfind_mem hkn hx]
        rfl
    rw [e]
    exact h.map
end Go.Proofs.YtojnembakhhgiaaGreat

/- Copy. -/
namespace Go.Proofs.YtojnembakhhgiaaGreat
open Go.RowKit Go.Maps Go.WideElems

theorem load51 {w : World} {b o : Nat} {v : Value} (h : w.cell? ⟨b, o, none⟩ = some v) : (Instr.loadAt 52 (.pointer (some ⟨b, o, none⟩))).run Tryz.prog w = .ok v w := by go_simp
def cq0 : Oper := { dst := some 23, op := Go.Op.fieldAddr 56 (Go.Operand.tmp 3) 1, type := 0, pos := "power.go:38", after := #[], guard := none }
def cq1 : Oper := { dst := some 24, op := Go.Op.load 52 (Go.Operand.tmp 23), type := 52, pos := "power.go:38", after := #[{ on := 0, ground := Go.Ground.data }], guard := none }
def cq2 : Oper := { dst := some 25, op := Go.Op.move (Go.Operand.tmp 4), type := 9, pos := "power.go:38", after := #[], guard := none }
def cq3 : Oper := { dst := some 26, op := Go.Op.move (Go.Operand.tmp 5), type := 61, pos := "power.go:38", after := #[], guard := none }
def cq4 : Oper := { dst := some 27, op := Go.Op.call { callee := Go.Callee.value (Go.Operand.func 25), args := #[Go.Operand.tmp 26], argTypes := #[61] }, type := 61, pos := "power.go:38", after := #[{ on := 3, ground := Go.Ground.data }], guard := none }
def cq5 : Oper := { dst := none, op := Go.Op.mapUpdate 52 (Go.Operand.tmp 24) (Go.Operand.tmp 25) (Go.Operand.tmp 27), type := 0, pos := "power.go:38", after := #[{ on := 1, ground := Go.Ground.data }, { on := 2, ground := Go.Ground.data }, { on := 4, ground := Go.Ground.data }, { on := 4, ground := Go.Ground.chain }, { on := 0, ground := Go.Ground.phase }, { on := 1, ground := Go.Ground.phase }, { on := 2, ground := Go.Ground.phase }, { on := 3, ground := Go.Ground.phase }, { on := 4, ground := Go.Ground.phase }], guard := none }

def CqT (c b2 : Nat) (t : Bs) (NX : World → Prop) (p2 : Nat) (w4 w5 : World) : Prop := w4.cell? ⟨c, 1, none⟩ = some (.map (some b2)) ∧ (Instr.mapUpdate 52 (.map (some b2)) (St t) (.pointer (some ⟨p2, 0, none⟩))).run Tryz.prog w4 = .ok () w5 ∧ NX w5
/-- what a copy is -/
def Cd (w : World) (s : Ds) (e : Ending) (w' : World) : Prop := ∃ d' mb' ms', e = .returned (.pointer (some ⟨d', 0, none⟩)) ∧ Dv w' d' s mb' ms' ∧ Below w.heap.size w w' ∧ ∀ g ∈ Fp d' mb' ms', w.heap.size ≤ g
set_option maxHeartbeats 8000000 in
set_option maxRecDepth 100000 in
theorem copy_any (w : World) (d : Nat) (s : Ds) (mb : Option Nat) (ms : List Fm) (h : Dv w d s mb ms) (hq : usedN s ≤ s.quota) : Calls Tryz.prog 8 #[.pointer (some ⟨d, 0, none⟩)] w (Cd w s) := by
  have c0 : w.cell? ⟨d, 0, none⟩ = some (.int .i64 (s.quota : Int)) := (cell_of_heap h.blk 0).trans rfl
  have c1 : w.cell? ⟨d, 1, none⟩ = some (.map mb) := (cell_of_heap h.blk 1).trans rfl
  have c2 : w.cell? ⟨d, 2, none⟩ = some (.int .i64 (s.steps : Int)) := (cell_of_heap h.blk 2).trans rfl
  have c3 : w.cell? ⟨d, 3, none⟩ = some (.bool s.set) := (cell_of_heap h.blk 3).trans rfl
  have c4 : w.cell? ⟨d, 4, none⟩ = some (.int .i64 (s.inn : Int)) := (cell_of_heap h.blk 4).trans rfl
  have c5 : w.cell? ⟨d, 5, none⟩ = some (.int .u64 (s.keep : Int)) := (cell_of_heap h.blk 5).trans rfl
  have c6 : w.cell? ⟨d, 6, none⟩ = some (.bool s.off) := (cell_of_heap h.blk 6).trans rfl
  have HH := hid h
  have HQ := hid hq
  clear h hq
  have hmk : ∀ W : World, (Instr.makeMap 52 none).run Tryz.prog W = .ok (.map (some W.heap.size)) (W.alloc (.map #[] 0)) := fun W => rfl
  obtain ⟨w2, hw2⟩ : ∃ w2, w2 = (w.alloc (.cells #[.int .i64 (s.quota : Int), .map (some (w.heap.size + 1)), .int .i64 (s.steps : Int), .bool s.set, .int .i64 (s.inn : Int), .int .u64 (s.keep : Int), .bool s.off] 56)).alloc (.map #[] 0) := ⟨_, rfl⟩
  have hz1 : (w.alloc (.cells #[.int .i64 (s.quota : Int), .map (some (w.heap.size + 1)), .int .i64 (s.steps : Int), .bool s.set, .int .i64 (s.inn : Int), .int .u64 (s.keep : Int), .bool s.off] 56)).heap.size = w.heap.size + 1 := by simp
  have hz2 : w2.heap.size = w.heap.size + 2 := by rw [hw2]; simp
  have hB2 : Below w.heap.size w w2 := hw2 ▸ ((Below.refl _ _).alloc (Nat.le_refl _) _).alloc (by simp) _
  have hb2 : w2.heap[w.heap.size]? = some (.cells (dcs s (some (w.heap.size + 1))) 56 (0, 0)) := by
    rw [hw2, Below.heap_alloc _ _ _ (by simp), heap_alloc_new]
    rfl
  have hom2 : Om w2 (w.heap.size + 1) (fun _ => none) := by
    have := Om.made (w.alloc (.cells #[.int .i64 (s.quota : Int), .map (some (w.heap.size + 1)), .int .i64 (s.steps : Int), .bool s.set, .int .i64 (s.inn : Int), .int .u64 (s.keep : Int), .bool s.off] 56))
    rw [hz1] at this
    rw [hw2]
    exact this
  have e1 : w2.cell? ⟨d, 1, none⟩ = some (.map mb) := by rw [← c1]; exact World.cell?_of_block (hB2.block d (lt_of_block HH.out.blk))
  have HCP := hid (Cp.start (lo := w.heap.size) hb2 hom2 (by omega) (Nat.le_refl _) (by omega))
  have HB2 := hid hB2
  have HZ2 := hid hz2
  clear hz1 hb2 hom2 hB2
  cases mb with
  | none =>
    have hfs : s.files = [] := HH.out.nomap rfl
    have HF : Hid (Cd w s (.returned (.pointer (some ⟨w.heap.size, 0, none⟩))) (w2.alloc (.mapIter none 0 #[] 0))) := hid (by
      have hB3 : Below w2.heap.size w2 (w2.alloc (.mapIter none 0 #[] 0)) := (Below.refl _ _).alloc (Nat.le_refl _) _
      have hc := HCP.out.same (w' := w2.alloc (.mapIter none 0 #[] 0)) (fun g hg => hB3.block g (by
        have hz := HZ2.out
        simp at hg
        rcases hg with e | e <;> omega))
      obtain ⟨q1, q2⟩ := hc.done (by rw [hfs]; exact List.Perm.nil) HH.out.ok HH.out.small
      exact ⟨_, _, _, rfl, q1, below_comp HB2.out hB3, q2⟩)
    have hrg := run_range_nilMap (P := Tryz.prog) w2 52 9 61 Tryz.underlying52
    have hnx : ∀ ty, (Instr.next (.pointer (some ⟨w2.heap.size, 0, none⟩)) false ty).run Tryz.prog (w2.alloc (.mapIter none 0 #[] 0)) = _ := fun ty => run_next_nilMap w2 ty 0 0 #[]
    rw [hz2] at hrg hnx
    clear hfs hz2 HCP HB2 HZ2
    subst hw2
    go_enter Tryz.func8, Tryz.ntmps8
    go_wp2_with go_in
    refine wp_loop_rounds 1 ?_
    rw [rounds_succ]
    go_wp2_with fail
    go_ret
    exact HF.out
  | some b =>
    obtain ⟨n, D, h1, h2, h3⟩ := ((HH.out.low HB2.out).map b rfl).own
    have HD3 := hid h3
    have HP0 := hid (part_nil _ D h2)
    have HO := hid h1
    have HBL := hid (HH.out.map b rfl).lt
    have hz2c := hz2
    clear h1 h2 h3 hz2
    subst hw2
    go_enter Tryz.func8, Tryz.ntmps8
    go_wp2_with (first
      | (at_range; refine wpList_range_own _ rfl _ 52 rfl 9 61 law9 Tryz.underlying52 _ b n _ rfl HO.out ?_; intro w3 hrg0 hg0 hs0)
      | go_in)
    go_frame
    rw [hz2c] at hrg0
    have HB3 : Hid (Below w.heap.size w w3) := hid (below_comp HB2.out ⟨hg0.os, hg0.tape, hg0.output, hg0.size, fun k hk => hg0.block k hk (by simp)⟩)
    have HS3 : Hid (w.heap.size + 3 ≤ w3.heap.size) := hid (by rw [hs0, hz2c]; omega)
    have HC3 : Hid (Cp w.heap.size w3 w.heap.size (w.heap.size + 1) s [] []) := hid (HCP.out.same (fun g hg => hg0.block g (by
      simp at hg
      rw [hz2c]
      rcases hg with e | e <;> omega) (by simp)))
    have HR3 := hid hrg0
    rw [hz2c]
    clear hrg0 hg0 hs0 hz2c HCP HB2 HZ2 HO c0 c1 c2 c3 c4 c5 c6 e1 hmk
    go_loopw [4, 5] (fun _vk _vf wr => ∃ K left cnt C, wr.ranges Tryz.prog 9 ptrR b (w.heap.size + 2) n D left cnt ∧ Part (namesOf s ms) K left ∧ Cp w.heap.size wr w.heap.size (w.heap.size + 1) s K C ∧ (∀ x ∈ C, ∀ g ∈ x.2.blocks, w.heap.size + 3 ≤ g) ∧ Below w.heap.size w wr ∧ w.heap.size + 3 ≤ wr.heap.size)
      (fun _ _ wr => wr.rangeLeft b (w.heap.size + 2))
    case atStart => exact ⟨[], _, _, [], HR3.out, HP0.out, HC3.out, fun _ h => (by cases h), HB3.out, HS3.out⟩
    case round =>
      clear HB3 HR3 HS3 HC3 HP0
      obtain ⟨K, left, cnt, C, hrg, hpt, hcp, hcn, hbel, hsz⟩ := hrel
      have HRG := hid hrg
      have HPT := hid hpt
      have HCP := hid hcp
      have HCN := hid hcn
      have HBE := hid hbel
      have HSZ := hid hsz
      clear hrg hpt hcp hcn hbel hsz
      go_wp2_with (first
        | (at_next; refine next_file _ rfl rfl _ rfl b (w.heap.size + 2) n _ _ _ rfl HRG.out ?_ ?_)
        | go_in)
      · intro _ hl0
        have hpm := HPT.out.perm HH.out.ok HH.out.len hl0
        have HF : Hid (Cd w s (.returned (.pointer (some ⟨w.heap.size, 0, none⟩))) wr) := hid (by
          obtain ⟨q1, q2⟩ := HCP.out.done hpm HH.out.ok HH.out.small
          exact ⟨_, _, _, rfl, q1, HBE.out, q2⟩)
        clear hl0 hpm
        go_wp2_with fail
        go_ret
        exact HF.out
      · intro t m w1 cnt1 hl hat hrg1 hlt hg1 hs1 hen
        have hpt1 := HPT.out.step hl
        have hnk := (HPT.out.new hl).2
        have hsm := (HPT.out.new hl).1
        have h0 := HD3.out t
        rw [hat] at h0
        have hm := pd_inj h0
        have hb1 : Below w.heap.size w w1 := ⟨hg1.os.trans HBE.out.os, hg1.tape.trans HBE.out.tape, hg1.output.trans HBE.out.output, by rw [hs1]; exact HBE.out.size, fun k hk => (hg1.block k (Nat.lt_of_lt_of_le hk HBE.out.size) (fun e => by cases e; omega)).trans (HBE.out.block k hk)⟩
        rcases find_at (s := s) HH.out.len (t := t) with ⟨e1, _⟩ | ⟨f, fm, e0, e1, e2, e3⟩
        · rw [e1] at hsm
          cases hsm
        · rw [e3] at hm
          subst hm
          have hfa := (HH.out.filz _ e0).same (w' := w1) (fun g hg => hb1.block g ((HH.out.filz _ e0).lt hg))
          have hfm : f ∈ s.files := (List.of_mem_zip e0).1
          have hltr : ∀ g ∈ w.heap.size :: (w.heap.size + 1) :: C.flatMap (fun x => x.2.blocks), g < wr.heap.size ∧ g ≠ w.heap.size + 2 := fun g hg => by
            have hz := HSZ.out
            simp only [List.mem_cons] at hg
            rcases hg with e | e | e
            · exact ⟨by omega, by omega⟩
            · exact ⟨by omega, by omega⟩
            · obtain ⟨x, hx, hgx⟩ := List.mem_flatMap.1 e
              have hxm : x.1 ∈ K := by rw [← HCP.out.keys]; exact List.mem_map.2 ⟨x, hx, rfl⟩
              have hsx := HPT.out.mem x.1 hxm
              rw [names_some HH.out.len] at hsx
              cases hq : findF s x.1 with
              | none => rw [hq] at hsx; cases hsx
              | some f' => exact ⟨(HCP.out.fil x hx f' hq).lt hgx, by have := HCN.out x hx g hgx; omega⟩
          have hcp1 : Cp w.heap.size w1 w.heap.size (w.heap.size + 1) s K C := HCP.out.same (fun g hg => hg1.block g (hltr g hg).1 (fun e => (hltr g hg).2 (by cases e; rfl)))
          have hz1 := HSZ.out
          rw [← hs1] at hz1
          have hlen1 : (pagesOf s f).length ≤ 100000 := by have h1 := used_file hfm; have h2 := HQ.out; have h3 := HH.out.ok.quota; omega
          have hlen2 : f.settled.length ≤ 100000 := Nat.le_trans (layAll_len_ge _ _) hlen1
          have hlen3 : (ofNo s.opn f.no).length ≤ 1000000 := by
            have h1 : (ofNo s.opn f.no).length ≤ s.opn.length := List.length_filter_le _ _
            have h2 := opn_len HH.out.ok
            have h3 := HH.out.small.1
            omega
          have htl : t.length ≤ 140737488355328 := by
            have hm := names_few HH.out.len t hsm
            obtain ⟨f0, hf0, rfl⟩ := List.mem_map.1 hm
            have := HH.out.ok.lens f0 hf0
            unfold named at this
            simp at this
            omega
          have hkfew : ∀ u, ((cfind C u).map Fm.p).isSome = true → u ∈ K := fun u hu => by
            rw [← HCP.out.keys]
            apply Classical.byContradiction
            intro hn
            rw [cfind_none hn] at hu
            cases hu
          have hkl : K.length ≤ 256 := by
            have h1 : ∀ x ∈ K, x ∈ s.files.map Df.name := fun x hx => names_few HH.out.len x (HPT.out.mem x hx)
            have h2 : K.length ≤ (s.files.map Df.name).length := length_sub HPT.out.nodup h1
            rw [List.length_map] at h2
            have := HH.out.ok.few
            omega
          obtain ⟨NX, hNX⟩ : ∃ NX : World → Prop, NX = fun w5 => ∃ C', w5.ranges Tryz.prog 9 ptrR b (w.heap.size + 2) n D (fun z => left z && !z.sameKey (.string t)) cnt1 ∧ Cp w.heap.size w5 w.heap.size (w.heap.size + 1) s (K ++ [t]) C' ∧ (∀ x ∈ C', ∀ g ∈ x.2.blocks, w.heap.size + 3 ≤ g) ∧ Below w.heap.size w w5 ∧ w.heap.size + 3 ≤ w5.heap.size := ⟨_, rfl⟩
          have HFC : Hid (Calls Tryz.prog 25 #[.pointer (some ⟨fm.p, 0, none⟩)] w1.drew fun e w' => ∃ v, e = .returned v ∧ ∃ p2 w3, v = .pointer (some ⟨p2, 0, none⟩) ∧ CqT w.heap.size (w.heap.size + 1) t NX p2 w' w3) := hid (by
            refine (fclone_any w1.drew fm (pagesOf s f) f.settled (ofNo s.opn f.no) (hfa.same (fun _ _ => rfl)) hlen1 hlen2 hlen3).mono ?_
            rintro e w4 ⟨m', he, r1, r2, r3, r4⟩
            have r2' : Below w1.heap.size w1 w4 := ⟨r2.os, r2.tape, r2.output, r2.size, r2.block⟩
            have hc4 := hcp1.same (w' := w4) (fun g hg => r2'.block g (by rw [hs1]; exact (hltr g hg).1))
            obtain ⟨w5, u1, u2, u3⟩ := hc4.map.store K hkfew (by omega) t htl m'.p
            refine ⟨_, he, m'.p, w5, rfl, (cell_of_heap hc4.blk 1).trans rfl, u1, ?_⟩
            have hz4 := r2'.size
            have hne : ∀ g, g < w1.heap.size → g ≠ w.heap.size + 1 → w5.heap[g]? = w1.heap[g]? := fun g hg hn => (u3.block g (by omega) (fun e => hn (by cases e; rfl))).trans (r2'.block g hg)
            rw [hNX]
            refine ⟨C ++ [(t, m')], ranges_same hrg1 (hne b (by have := HBL.out; omega) (by have := HBL.out; omega)) (hne (w.heap.size + 2) (by omega) (by omega)), hcp1.more (fun g hg => by rw [hs1]; exact (hltr g hg).1) (by omega) hnk e2 r2' r1 r3 r4 u2 u3, fun x hx g hg => ?_, ⟨u3.os.trans (r2'.os.trans hb1.os), u3.tape.trans (r2'.tape.trans hb1.tape), u3.output.trans (r2'.output.trans hb1.output), by have := u3.size; omega, fun k hk => (hne k (by omega) (by omega)).trans (hb1.block k hk)⟩, by have := u3.size; omega⟩
            rcases List.mem_append.1 hx with hx | hx
            · exact HCN.out x hx g hg
            · simp at hx
              subst hx
              have : w1.heap.size ≤ g := r3 g hg
              omega)
          have HNX : Hid (∀ w5, NX w5 → ∃ C', w5.ranges Tryz.prog 9 ptrR b (w.heap.size + 2) n D (fun z => left z && !z.sameKey (.string t)) cnt1 ∧ Cp w.heap.size w5 w.heap.size (w.heap.size + 1) s (K ++ [t]) C' ∧ (∀ x ∈ C', ∀ g ∈ x.2.blocks, w.heap.size + 3 ≤ g) ∧ Below w.heap.size w w5 ∧ w.heap.size + 3 ≤ w5.heap.size) := hid (fun w5 h => by rw [hNX] at h; exact h)
          have hs0 : (fun W : World => W.cell? ⟨w.heap.size, 1, none⟩ = some (.map (some (w.heap.size + 1)))) w1.drew := (cell_of_heap hcp1.blk 1).trans rfl
          have HPT1 := hid hpt1
          have HLT := hid hlt
          have hen2 : (Instr.entry (.pointer (some ⟨w.heap.size + 2, 0, none⟩))).run Tryz.prog w1 = .ok (.tuple #[St t, .pointer (some ⟨fm.p, 0, none⟩)]) w1 := hen
          generalize fm.p = p at HFC hen2 ⊢
          clear hNX hltr hcp1 hz1 hlen1 hlen2 hlen3 htl hkfew hkl hpt1 hsm h0 hb1 hfa hfm hat hl hrg1 hlt hg1 hs1 hen hnk e0 e1 e2 e3
          simp only [pv]
          go_wp2_with fail
          refine region_z (fun W : World => W.cell? ⟨w.heap.size, 1, none⟩ = some (.map (some (w.heap.size + 1)))) 5 (by kernel_rfl) ?_
          refine z_take (i := 0) (oi := cq0) (v := .pointer (some ⟨w.heap.size, 1, none⟩)) rfl (by kernel_rfl) (by kernel_rfl) (by kernel_rfl) (fun _ _ _ h => h) (by kernel_rfl) (by decide) (y_all rfl (fun _ => by simp only [cq0]; go_simp)) hs0 ?_
          simp only [Act.put, cq0, List.setIfInBounds_toArray, List.set_cons_zero, List.set_cons_succ]
          refine z_take (i := 1) (oi := cq1) (v := .map (some (w.heap.size + 1))) rfl (by kernel_rfl) (by kernel_rfl) (by kernel_rfl) (fun _ _ _ h => h) (by kernel_rfl) (by decide) (y_load rfl 52 (.tmp 23) rfl w.heap.size 1 rfl (fun w hw => load51 hw)) hs0 ?_
          simp only [Act.put, cq1, List.setIfInBounds_toArray, List.set_cons_zero, List.set_cons_succ]
          refine z_take (i := 2) (oi := cq2) (v := St t) rfl (by kernel_rfl) (by kernel_rfl) (by kernel_rfl) (fun _ _ _ h => h) (by kernel_rfl) (by decide) (y_all rfl (fun _ => rfl)) hs0 ?_
          simp only [Act.put, cq2, List.setIfInBounds_toArray, List.set_cons_zero, List.set_cons_succ]
          refine z_take (i := 3) (oi := cq3) (v := .pointer (some ⟨p, 0, none⟩)) rfl (by kernel_rfl) (by kernel_rfl) (by kernel_rfl) (fun _ _ _ h => h) (by kernel_rfl) (by decide) (y_all rfl (fun _ => rfl)) hs0 ?_
          simp only [Act.put, cq3, List.setIfInBounds_toArray, List.set_cons_zero, List.set_cons_succ]
          refine z_all (rs := [4]) (by kernel_rfl) (by simp) (all1 ?_)
          refine op_call (o := cq4) (f := 25) (args := #[.pointer (some ⟨p, 0, none⟩)]) (R := fun v w' => ∃ p2 w3, v = .pointer (some ⟨p2, 0, none⟩) ∧ CqT w.heap.size (w.heap.size + 1) t NX p2 w' w3) rfl rfl (by simp only [cq4]; go_simp) HFC.out ?_
          rintro v0 w4 ⟨p2, w5, rfl, hs1, hrun, hN⟩
          have HN := hid hN
          clear hs0 hN
          have hs0 := hs1
          refine ⟨fun _ => hs0, ?_⟩
          simp only [Act.put, cq4, List.setIfInBounds_toArray, List.set_cons_zero, List.set_cons_succ]
          refine z_all (rs := [5]) (by kernel_rfl) (by simp) (all1 ?_)
          refine op_skip (o := cq5) (w' := w5) rfl rfl (by simp only [cq5]; go_simp) ?_
          refine ⟨fun h => absurd rfl h, ?_⟩
          refine z_done (by kernel_rfl) ?_ _
          simp only [Act.put, cq5]
          clear hs0 hs1 hrun
          go_wp2_with fail
          obtain ⟨C', g1, g2, g3, g4, g5⟩ := HNX.out _ HN.out
          have G1 := hid g1
          have G2 := hid g2
          have G3 := hid g3
          have G4 := hid g4
          have G5 := hid g5
          clear g1 g2 g3 g4 g5
          go_roundw
          case rel => exact ⟨_, _, cnt1, C', G1.out, HPT1.out, G2.out, G3.out, G4.out, G5.out⟩
          case measure => rw [G1.out.left_eq, HRG.out.left_eq]; exact HLT.out
end Go.Proofs.YtojnembakhhgiaaGreat
