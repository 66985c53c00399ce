import Derived.Test.YtojnembakhhgiaaGreatOnjAll
import Derived.Test.YtojnembakhhgiaaGreatBldAll
import Derived.Test.YtojnembakhhgiaaGreatWrtAll
/- Writes copied. -/
namespace Go.Proofs.YtojnembakhhgiaaGreat
open Go.RowKit

theorem wcs_ones (l : List Dw) : ∀ v ∈ wcs l, v.oneCell' = true := fun v hv => by
  unfold wcs at hv
  obtain ⟨c, hc, hv⟩ := List.mem_flatten.1 hv
  obtain ⟨b, _, rfl⟩ := List.mem_map.1 hc
  exact wc_one b v hv
theorem wclone_run {w : World} {g cap : Nat} {l : List Dw} (h : w.ownsRow 0 87 258 (.slice (some ⟨g, 0, none⟩) l.length cap) l.length (wcs l)) (hl : l.length ≤ 1000000) :
    ∃ v' w', (∀ ty, (Builtin.append_ #[75, 75] ty #[.slice (some ⟨w.heap.size, 0, none⟩) 0 0, .slice (some ⟨g, 0, none⟩) l.length cap]).run Tryz.prog (w.alloc (.cells #[] 87)) = .ok v' w') ∧ w'.ownsRow 0 87 258 v' l.length (wcs l) ∧ Below w.heap.size w w' ∧ ∀ k ∈ ob v', w.heap.size ≤ k := by
  obtain ⟨i0, hi, hz0, hz1, hz2⟩ := info_get info81
  have hn : (w.alloc (.cells #[] 87)).ownsRow 0 87 258 (.slice (some ⟨w.heap.size, 0, none⟩) 0 0) 0 [] := ⟨rfl, .inr ⟨w.heap.size, 0, #[], rfl, Nat.zero_le _, heap_alloc_new w _, Nat.le_refl _, Nat.zero_le _, rfl, rfl⟩⟩
  have hsrc : ∀ j u, (wcs l)[j]? = some u → (w.alloc (.cells #[] 87)).cell? ((⟨g, 0, none⟩ : Addr).add j) = some u := fun j u hu => by
    rw [Addr.add_mid, Nat.zero_add]
    rcases h.2 with ⟨h1, _⟩ | ⟨g', cap', cur, h1, h2, h3, h4, h5, h6, h7⟩
    · cases h1
    · cases h1
      have hj : j < (wcs l).length := (List.getElem?_eq_some_iff.1 hu).1
      rw [h.1] at hj
      rw [cell_of_heap ((Below.heap_alloc w _ _ (lt_of_block h3)).trans h3), ← Array.getElem?_toList, ← hu, ← h7, List.getElem?_take, if_pos hj]
  obtain ⟨v', w', h4, h5, h6, _, h7⟩ := run_append_own_at (P := Tryz.prog) (w.alloc (.cells #[] 87)) 0 75 75 87 i0 _ 258 272 Tryz.underlying75 hi hz0 hz1 hz2 zero81 (by decide) _ 0 [] hn ⟨g, 0, none⟩ l.length cap (wcs l) h.1 hsrc (wcs_ones l) (by simp only [maxLen]; omega) (by omega) (Nat.zero_le _)
  refine ⟨v', w', fun ty => h4, by simpa using h5, ?_, fun k hk => ?_⟩
  · have hb : Below w.heap.size w (w.alloc (.cells #[] 87)) := (Below.refl _ _).alloc (Nat.le_refl _) _
    exact ⟨h6.os.trans hb.os, h6.tape.trans hb.tape, h6.output.trans hb.output, Nat.le_trans hb.size h6.size, fun k hk => (h6.block k (Nat.lt_of_lt_of_le hk hb.size) (fun e => by cases e; exact absurd hk (Nat.lt_irrefl _))).trans (hb.block k hk)⟩
  · rcases h7 with h7 | h7
    · have := mem_ob.1 hk
      rw [h7] at this
      cases this
      exact Nat.le_refl _
    · have := mem_ob.1 hk
      rw [h7] at this
      cases this
      simp
theorem build71e (W : World) : (Instr.buildSlice 75 0 #[]).run Tryz.prog W = .ok (.slice (some ⟨W.heap.size, 0, none⟩) 0 0) (W.alloc (.cells #[] 87)) := by kernel_rfl
set_option maxRecDepth 100000 in
set_option maxHeartbeats 4000000 in
theorem clonew_any (w : World) (v : Value) (l : List Dw) (h : w.ownsRow 0 87 258 v l.length (wcs l)) (hl : l.length ≤ 1000000) :
    Calls Tryz.prog 56 #[v] w fun e w' => ∃ v', e = .returned v' ∧ w'.ownsRow 0 87 258 v' l.length (wcs l) ∧ Below w.heap.size w w' ∧ ∀ k ∈ ob v', w.heap.size ≤ k := by
  rcases id h.2 with ⟨h1, h2⟩ | ⟨g, cap, _, h1, _⟩
  · subst h1
    have HF : Hid (w.ownsRow 0 87 258 (.slice none 0 0) l.length (wcs l) ∧ Below w.heap.size w w ∧ ∀ k ∈ ob (Value.slice none 0 0), w.heap.size ≤ k) := hid ⟨h, Below.refl _ _, fun k hk => (by cases hk)⟩
    have he := Lib.run_eql_slice_nil (P := Tryz.prog) w 75 87 none 0 0 0 0 Tryz.underlying75
    clear h hl h2
    go_enter Tryz.func56, Tryz.ntmps56
    go_wp2_with fail
    go_ret
    exact ⟨_, rfl, HF.out⟩
  · subst h1
    obtain ⟨v', w', hrun, h5⟩ := wclone_run h hl
    have HF := hid h5
    have HR := hid hrun
    have he := Lib.run_eql_slice_nil (P := Tryz.prog) w 75 87 (some ⟨g, 0, none⟩) l.length cap 0 0 Tryz.underlying75
    have hbe := build71e
    clear h hl h5 hrun
    generalize l.length = n at *
    go_enter Tryz.func56, Tryz.ntmps56
    go_wp2_with (first | (at_builtin; refine wpList_append_run rfl _ _ 75 rfl _ _ v' w' rfl rfl HR.out ?_) | fail)
    go_ret
    exact ⟨_, rfl, HF.out⟩
end Go.Proofs.YtojnembakhhgiaaGreat

/- A file copied. -/
namespace Go.Proofs.YtojnembakhhgiaaGreat
open Go.RowKit

theorem load70 {w : World} {b o : Nat} {v : Value} (h : w.cell? ⟨b, o, none⟩ = some v) : (Instr.loadAt 74 (.pointer (some ⟨b, o, none⟩))).run Tryz.prog w = .ok (.agg #[v]) w := by go_simp
def fd0 : Oper := { dst := some 3, op := Go.Op.move (Go.Operand.tmp 0), type := 61, pos := "file.go:66", after := #[], guard := none }
def fd1 : Oper := { dst := some 4, op := Go.Op.nilCheck (Go.Operand.tmp 3), type := 0, pos := "file.go:66", after := #[{ on := 0, ground := Go.Ground.data }], guard := none }
def fd2 : Oper := { dst := some 5, op := Go.Op.fieldAddr 77 (Go.Operand.tmp 4) 0, type := 0, pos := "file.go:66", after := #[{ on := 1, ground := Go.Ground.data }], guard := none }
def fd3 : Oper := { dst := some 6, op := Go.Op.load 74 (Go.Operand.tmp 5), type := 74, pos := "file.go:66", after := #[{ on := 2, ground := Go.Ground.data }], guard := none }
def fd4 : Oper := { dst := some 7, op := Go.Op.call { callee := Go.Callee.value (Go.Operand.func 55), args := #[Go.Operand.tmp 6], argTypes := #[74] }, type := 74, pos := "file.go:66", after := #[{ on := 3, ground := Go.Ground.data }], guard := none }
def fd5 : Oper := { dst := some 8, op := Go.Op.move (Go.Operand.tmp 0), type := 61, pos := "file.go:66", after := #[], guard := none }
def fd6 : Oper := { dst := some 9, op := Go.Op.nilCheck (Go.Operand.tmp 8), type := 0, pos := "file.go:66", after := #[{ on := 5, ground := Go.Ground.data }], guard := none }
def fd7 : Oper := { dst := some 10, op := Go.Op.fieldAddr 77 (Go.Operand.tmp 9) 1, type := 0, pos := "file.go:66", after := #[{ on := 6, ground := Go.Ground.data }], guard := none }
def fd8 : Oper := { dst := some 11, op := Go.Op.load 74 (Go.Operand.tmp 10), type := 74, pos := "file.go:66", after := #[{ on := 7, ground := Go.Ground.data }], guard := none }
def fd9 : Oper := { dst := some 12, op := Go.Op.call { callee := Go.Callee.value (Go.Operand.func 55), args := #[Go.Operand.tmp 11], argTypes := #[74] }, type := 74, pos := "file.go:66", after := #[{ on := 8, ground := Go.Ground.data }, { on := 4, ground := Go.Ground.chain }], guard := none }
def fd10 : Oper := { dst := some 13, op := Go.Op.move (Go.Operand.tmp 0), type := 61, pos := "file.go:66", after := #[], guard := none }
def fd11 : Oper := { dst := some 14, op := Go.Op.nilCheck (Go.Operand.tmp 13), type := 0, pos := "file.go:66", after := #[{ on := 10, ground := Go.Ground.data }], guard := none }
def fd12 : Oper := { dst := some 15, op := Go.Op.fieldAddr 77 (Go.Operand.tmp 14) 2, type := 0, pos := "file.go:66", after := #[{ on := 11, ground := Go.Ground.data }], guard := none }
def fd13 : Oper := { dst := some 16, op := Go.Op.load 75 (Go.Operand.tmp 15), type := 75, pos := "file.go:66", after := #[{ on := 12, ground := Go.Ground.data }], guard := none }
def fd14 : Oper := { dst := some 17, op := Go.Op.call { callee := Go.Callee.value (Go.Operand.func 56), args := #[Go.Operand.tmp 16], argTypes := #[75] }, type := 75, pos := "file.go:66", after := #[{ on := 13, ground := Go.Ground.data }, { on := 9, ground := Go.Ground.chain }], guard := none }
def fd15 : Oper := { dst := some 18, op := Go.Op.build 77 #[(0, Go.Operand.tmp 7), (1, Go.Operand.tmp 12), (2, Go.Operand.tmp 17)], type := 77, pos := "file.go:66", after := #[{ on := 4, ground := Go.Ground.data }, { on := 9, ground := Go.Ground.data }, { on := 14, ground := Go.Ground.data }], guard := none }
def fd16 : Oper := { dst := some 19, op := Go.Op.box 77 (Go.Operand.tmp 18), type := 61, pos := "file.go:66", after := #[{ on := 15, ground := Go.Ground.data }], guard := none }
def fd17 : Oper := { dst := some 2, op := Go.Op.assign (Go.Operand.tmp 19), type := 61, pos := "file.go:66", after := #[{ on := 16, ground := Go.Ground.data }, { on := 14, ground := Go.Ground.chain }, { on := 0, ground := Go.Ground.phase }, { on := 1, ground := Go.Ground.phase }, { on := 2, ground := Go.Ground.phase }, { on := 3, ground := Go.Ground.phase }, { on := 4, ground := Go.Ground.phase }, { on := 5, ground := Go.Ground.phase }, { on := 6, ground := Go.Ground.phase }, { on := 7, ground := Go.Ground.phase }, { on := 8, ground := Go.Ground.phase }, { on := 9, ground := Go.Ground.phase }, { on := 10, ground := Go.Ground.phase }, { on := 11, ground := Go.Ground.phase }, { on := 12, ground := Go.Ground.phase }, { on := 13, ground := Go.Ground.phase }, { on := 14, ground := Go.Ground.phase }, { on := 15, ground := Go.Ground.phase }, { on := 16, ground := Go.Ground.phase }], guard := none }

set_option maxRecDepth 100000 in
set_option maxHeartbeats 8000000 in
theorem fclone_any (w : World) (m : Fm) (l st : List Bs) (ws : List Dw) (h : FileAt w l st ws m) (hl : l.length ≤ 100000) (hst : st.length ≤ 100000) (hws : ws.length ≤ 1000000) :
    Calls Tryz.prog 25 #[.pointer (some ⟨m.p, 0, none⟩)] w fun e w' => ∃ m' : Fm, e = .returned (.pointer (some ⟨m'.p, 0, none⟩)) ∧ FileAt w' l st ws m' ∧ Below w.heap.size w w' ∧ (∀ k ∈ m'.blocks, w.heap.size ≤ k) ∧ m'.blocks.Nodup := by
  obtain ⟨a1, c1, hv1⟩ := row_shape h.pg
  obtain ⟨a2, c2, hv2⟩ := row_shape h.st
  obtain ⟨a3, c3, hv3⟩ := row_shape h.op
  obtain ⟨n1, hn1⟩ : ∃ n1, n1 = l.length := ⟨_, rfl⟩
  obtain ⟨n2, hn2⟩ : ∃ n2, n2 = st.length := ⟨_, rfl⟩
  obtain ⟨n3, hn3⟩ : ∃ n3, n3 = ws.length := ⟨_, rfl⟩
  have hrows : ∀ W, Below w.heap.size w W → W.ownsRow 0 83 256 (.slice a1 n1 c1) l.length (pcs l) ∧ W.ownsRow 0 83 256 (.slice a2 n2 c2) st.length (pcs st) ∧ W.ownsRow 0 87 258 (.slice a3 n3 c3) ws.length (wcs ws) := fun W hB => by
    have h' := h.same (w' := W) (fun g hg => hB.block g (h.lt hg))
    refine ⟨?_, ?_, ?_⟩
    · rw [hn1, ← hv1]; exact h'.pg
    · rw [hn2, ← hv2]; exact h'.st
    · rw [hn3, ← hv3]; exact h'.op
  have HC1 : Hid (∀ W, Below w.heap.size w W → Calls Tryz.prog 55 #[.agg #[.slice a1 n1 c1]] W fun e w' => ∃ v, e = .returned v ∧ ∃ b1 d1, v = .agg #[.slice b1 n1 d1] ∧ w'.ownsRow 0 83 256 (.slice b1 n1 d1) n1 (pcs l) ∧ Below W.heap.size W w' ∧ ∀ k ∈ ob (.slice b1 n1 d1), W.heap.size ≤ k) := hid (fun W hB => by
    refine (clonec_any W (.slice a1 n1 c1) l (hrows W hB).1 hl).mono ?_
    rintro e w' ⟨v', he, q1, q2, q3⟩
    obtain ⟨b1, d1, hv⟩ := row_shape q1
    rw [← hn1] at q1 hv
    exact ⟨_, he, b1, d1, by rw [hv], by rw [← hv]; exact q1, q2, by rw [← hv]; exact q3⟩)
  have HC2 : Hid (∀ W, Below w.heap.size w W → Calls Tryz.prog 55 #[.agg #[.slice a2 n2 c2]] W fun e w' => ∃ v, e = .returned v ∧ ∃ b1 d1, v = .agg #[.slice b1 n2 d1] ∧ w'.ownsRow 0 83 256 (.slice b1 n2 d1) n2 (pcs st) ∧ Below W.heap.size W w' ∧ ∀ k ∈ ob (.slice b1 n2 d1), W.heap.size ≤ k) := hid (fun W hB => by
    refine (clonec_any W (.slice a2 n2 c2) st (hrows W hB).2.1 hst).mono ?_
    rintro e w' ⟨v', he, q1, q2, q3⟩
    obtain ⟨b1, d1, hv⟩ := row_shape q1
    rw [← hn2] at q1 hv
    exact ⟨_, he, b1, d1, by rw [hv], by rw [← hv]; exact q1, q2, by rw [← hv]; exact q3⟩)
  have HC3 : Hid (∀ W, Below w.heap.size w W → Calls Tryz.prog 56 #[.slice a3 n3 c3] W fun e w' => ∃ v, e = .returned v ∧ ∃ b1 d1, v = .slice b1 n3 d1 ∧ w'.ownsRow 0 87 258 (.slice b1 n3 d1) n3 (wcs ws) ∧ Below W.heap.size W w' ∧ ∀ k ∈ ob (.slice b1 n3 d1), W.heap.size ≤ k) := hid (fun W hB => by
    refine (clonew_any W (.slice a3 n3 c3) ws (hrows W hB).2.2 hws).mono ?_
    rintro e w' ⟨v', he, q1, q2, q3⟩
    obtain ⟨b1, d1, hv⟩ := row_shape q1
    rw [← hn3] at q1 hv
    exact ⟨_, he, b1, d1, hv, by rw [← hv]; exact q1, q2, by rw [← hv]; exact q3⟩)
  have HDB : Hid (∀ W W', Below w.heap.size w W → Below W.heap.size W W' → Below w.heap.size w W') := hid (fun W W' h1 h2 => below_comp h1 h2)
  have HD0 : Hid (Below w.heap.size w w.drew) := hid ⟨rfl, rfl, rfl, Nat.le_refl _, fun _ _ => rfl⟩
  have hs0 : (fun W : World => W.cell? ⟨m.p, 0, none⟩ = some (.slice a1 n1 c1) ∧ W.cell? ⟨m.p, 1, none⟩ = some (.slice a2 n2 c2) ∧ W.cell? ⟨m.p, 2, none⟩ = some (.slice a3 n3 c3)) w.drew := ⟨by rw [hn1, ← hv1]; exact (cell_of_heap h.blk 0).trans rfl, by rw [hn2, ← hv2]; exact (cell_of_heap h.blk 1).trans rfl, by rw [hn3, ← hv3]; exact (cell_of_heap h.blk 2).trans rfl⟩
  have hpl := lt_of_block h.blk
  have HSS : Hid (∀ W W' : World, (fun W : World => W.cell? ⟨m.p, 0, none⟩ = some (.slice a1 n1 c1) ∧ W.cell? ⟨m.p, 1, none⟩ = some (.slice a2 n2 c2) ∧ W.cell? ⟨m.p, 2, none⟩ = some (.slice a3 n3 c3)) W → Below W.heap.size W W' → (fun W : World => W.cell? ⟨m.p, 0, none⟩ = some (.slice a1 n1 c1) ∧ W.cell? ⟨m.p, 1, none⟩ = some (.slice a2 n2 c2) ∧ W.cell? ⟨m.p, 2, none⟩ = some (.slice a3 n3 c3)) W') := hid (fun W W' h1 hB => by
    have hpp : m.p < W.heap.size := World.block_lt_of_cell? W ⟨m.p, 0, none⟩ h1.1
    have e : ∀ o, W'.cell? ⟨m.p, o, none⟩ = W.cell? ⟨m.p, o, none⟩ := fun o => World.cell?_of_block (hB.block m.p hpp)
    exact ⟨(e 0).trans h1.1, (e 1).trans h1.2.1, (e 2).trans h1.2.2⟩)
  have HN1 := hid hn1
  have HN2 := hid hn2
  have HN3 := hid hn3
  clear h hl hst hws hv1 hv2 hv3 hn1 hn2 hn3 hrows hpl
  go_enter Tryz.func25, Tryz.ntmps25
  go_wp2_with fail
  refine wp_region_held (S := fun W : World => W.cell? ⟨m.p, 0, none⟩ = some (.slice a1 n1 c1) ∧ W.cell? ⟨m.p, 1, none⟩ = some (.slice a2 n2 c2) ∧ W.cell? ⟨m.p, 2, none⟩ = some (.slice a3 n3 c3)) (by kernel_rfl) ?_
  refine wpAnyH_take (i := 0) (oi := fd0) (v := .pointer (some ⟨m.p, 0, none⟩)) rfl (by kernel_rfl) (by kernel_rfl) (by kernel_rfl) (fun _ _ _ h => h) (y_all rfl (fun _ => rfl)) hs0 ?_
  simp only [Act.put, fd0, List.setIfInBounds_toArray, List.set_cons_zero, List.set_cons_succ]
  refine wpAnyH_take (i := 5) (oi := fd5) (v := .pointer (some ⟨m.p, 0, none⟩)) rfl (by kernel_rfl) (by kernel_rfl) (by kernel_rfl) (fun _ _ _ h => h) (y_all rfl (fun _ => rfl)) hs0 ?_
  simp only [Act.put, fd5, List.setIfInBounds_toArray, List.set_cons_zero, List.set_cons_succ]
  refine wpAnyH_take (i := 10) (oi := fd10) (v := .pointer (some ⟨m.p, 0, none⟩)) rfl (by kernel_rfl) (by kernel_rfl) (by kernel_rfl) (fun _ _ _ h => h) (y_all rfl (fun _ => rfl)) hs0 ?_
  simp only [Act.put, fd10, List.setIfInBounds_toArray, List.set_cons_zero, List.set_cons_succ]
  refine wpAnyH_take (i := 1) (oi := fd1) (v := .pointer (some ⟨m.p, 0, none⟩)) rfl (by kernel_rfl) (by kernel_rfl) (by kernel_rfl) (fun _ _ _ h => h) (y_all rfl (fun _ => rfl)) hs0 ?_
  simp only [Act.put, fd1, List.setIfInBounds_toArray, List.set_cons_zero, List.set_cons_succ]
  refine wpAnyH_take (i := 6) (oi := fd6) (v := .pointer (some ⟨m.p, 0, none⟩)) rfl (by kernel_rfl) (by kernel_rfl) (by kernel_rfl) (fun _ _ _ h => h) (y_all rfl (fun _ => rfl)) hs0 ?_
  simp only [Act.put, fd6, List.setIfInBounds_toArray, List.set_cons_zero, List.set_cons_succ]
  refine wpAnyH_take (i := 11) (oi := fd11) (v := .pointer (some ⟨m.p, 0, none⟩)) rfl (by kernel_rfl) (by kernel_rfl) (by kernel_rfl) (fun _ _ _ h => h) (y_all rfl (fun _ => rfl)) hs0 ?_
  simp only [Act.put, fd11, List.setIfInBounds_toArray, List.set_cons_zero, List.set_cons_succ]
  refine wpAnyH_take (i := 2) (oi := fd2) (v := .pointer (some ⟨m.p, 0, none⟩)) rfl (by kernel_rfl) (by kernel_rfl) (by kernel_rfl) (fun _ _ _ h => h) (y_all rfl (fun _ => by simp only [fd2]; go_simp)) hs0 ?_
  simp only [Act.put, fd2, List.setIfInBounds_toArray, List.set_cons_zero, List.set_cons_succ]
  refine wpAnyH_take (i := 7) (oi := fd7) (v := .pointer (some ⟨m.p, 1, none⟩)) rfl (by kernel_rfl) (by kernel_rfl) (by kernel_rfl) (fun _ _ _ h => h) (y_all rfl (fun _ => by simp only [fd7]; go_simp)) hs0 ?_
  simp only [Act.put, fd7, List.setIfInBounds_toArray, List.set_cons_zero, List.set_cons_succ]
  refine wpAnyH_take (i := 12) (oi := fd12) (v := .pointer (some ⟨m.p, 2, none⟩)) rfl (by kernel_rfl) (by kernel_rfl) (by kernel_rfl) (fun _ _ _ h => h) (y_all rfl (fun _ => by simp only [fd12]; go_simp)) hs0 ?_
  simp only [Act.put, fd12, List.setIfInBounds_toArray, List.set_cons_zero, List.set_cons_succ]
  refine wpAnyH_take (i := 3) (oi := fd3) (v := .agg #[.slice a1 n1 c1]) rfl (by kernel_rfl) (by kernel_rfl) (by kernel_rfl) (fun _ _ _ h => h) (y_load (v := .agg #[.slice a1 n1 c1]) rfl 74 (.tmp 5) rfl m.p 0 rfl (fun w hw => load70 hw.1)) hs0 ?_
  simp only [Act.put, fd3, List.setIfInBounds_toArray, List.set_cons_zero, List.set_cons_succ]
  refine wpAnyH_take (i := 8) (oi := fd8) (v := .agg #[.slice a2 n2 c2]) rfl (by kernel_rfl) (by kernel_rfl) (by kernel_rfl) (fun _ _ _ h => h) (y_load (v := .agg #[.slice a2 n2 c2]) rfl 74 (.tmp 10) rfl m.p 1 rfl (fun w hw => load70 hw.2.1)) hs0 ?_
  simp only [Act.put, fd8, List.setIfInBounds_toArray, List.set_cons_zero, List.set_cons_succ]
  refine wpAnyH_take (i := 13) (oi := fd13) (v := .slice a3 n3 c3) rfl (by kernel_rfl) (by kernel_rfl) (by kernel_rfl) (fun _ _ _ h => h) (y_load rfl 75 (.tmp 15) rfl m.p 2 rfl (fun w hw => run_load_cell (hw.2.2))) hs0 ?_
  simp only [Act.put, fd13, List.setIfInBounds_toArray, List.set_cons_zero, List.set_cons_succ]
  refine wpAnyH_all (rs := [4]) (by kernel_rfl) (by simp) (all1 ?_)
  refine op_call (o := fd4) (f := 55) (args := #[.agg #[.slice a1 n1 c1]]) (R := fun v w' => ∃ b1 d1, v = .agg #[.slice b1 n1 d1] ∧ w'.ownsRow 0 83 256 (.slice b1 n1 d1) n1 (pcs l) ∧ Below w.drew.heap.size w.drew w' ∧ ∀ k ∈ ob (.slice b1 n1 d1), w.drew.heap.size ≤ k) rfl rfl (by simp only [fd4]; go_simp) (HC1.out w.drew HD0.out) ?_
  rintro v0 w1 ⟨b1, d1, rfl, q1, q2, q3⟩
  have Q1 := hid q1
  have Q2 := hid q2
  have Q3 := hid q3
  have hs0 := HSS.out w.drew w1 hs0 q2
  clear q1 q2 q3
  refine ⟨hs0, ?_⟩
  simp only [Act.put, fd4, List.setIfInBounds_toArray, List.set_cons_zero, List.set_cons_succ]
  refine wpAnyH_all (rs := [9]) (by kernel_rfl) (by simp) (all1 ?_)
  refine op_call (o := fd9) (f := 55) (args := #[.agg #[.slice a2 n2 c2]]) (R := fun v w' => ∃ b2 d2, v = .agg #[.slice b2 n2 d2] ∧ w'.ownsRow 0 83 256 (.slice b2 n2 d2) n2 (pcs st) ∧ Below w1.heap.size w1 w' ∧ ∀ k ∈ ob (.slice b2 n2 d2), w1.heap.size ≤ k) rfl rfl (by simp only [fd9]; go_simp) (HC2.out w1 (HDB.out w.drew w1 HD0.out Q2.out)) ?_
  rintro v0 w2 ⟨b2, d2, rfl, q1, q2, q3⟩
  have R1 := hid q1
  have R2 := hid q2
  have R3 := hid q3
  have hs0 := HSS.out w1 w2 hs0 q2
  clear q1 q2 q3
  refine ⟨hs0, ?_⟩
  simp only [Act.put, fd9, List.setIfInBounds_toArray, List.set_cons_zero, List.set_cons_succ]
  refine wpAnyH_all (rs := [14]) (by kernel_rfl) (by simp) (all1 ?_)
  refine op_call (o := fd14) (f := 56) (args := #[.slice a3 n3 c3]) (R := fun v w' => ∃ b3 d3, v = .slice b3 n3 d3 ∧ w'.ownsRow 0 87 258 (.slice b3 n3 d3) n3 (wcs ws) ∧ Below w2.heap.size w2 w' ∧ ∀ k ∈ ob (.slice b3 n3 d3), w2.heap.size ≤ k) rfl rfl (by simp only [fd14]; go_simp) (HC3.out w2 (HDB.out w1 w2 (HDB.out w.drew w1 HD0.out Q2.out) R2.out)) ?_
  rintro v0 w3 ⟨b3, d3, rfl, q1, q2, q3⟩
  have S1 := hid q1
  have S2 := hid q2
  have S3 := hid q3
  have hs0 := HSS.out w2 w3 hs0 q2
  clear q1 q2 q3
  refine ⟨hs0, ?_⟩
  simp only [Act.put, fd14, List.setIfInBounds_toArray, List.set_cons_zero, List.set_cons_succ]
  refine wpAnyH_take (i := 15) (oi := fd15) (v := .agg #[.slice b1 n1 d1, .slice b2 n2 d2, .slice b3 n3 d3]) rfl (by kernel_rfl) (by kernel_rfl) (by kernel_rfl) (fun _ _ _ h => h) (y_all rfl (fun _ => by simp only [fd15]; go_simp)) hs0 ?_
  simp only [Act.put, fd15, List.setIfInBounds_toArray, List.set_cons_zero, List.set_cons_succ]
  refine wpAnyH_all (rs := [16]) (by kernel_rfl) (by simp) (all1 ?_)
  refine op_ok (o := fd16) (v := .pointer (some ⟨w3.heap.size, 0, none⟩)) (w' := w3.alloc (.cells #[.slice b1 n1 d1, .slice b2 n2 d2, .slice b3 n3 d3] 77)) rfl rfl (by simp only [fd16]; go_simp) ?_
  have hs0 := HSS.out w3 _ hs0 ((Below.refl _ _).alloc (Nat.le_refl _) (.cells #[.slice b1 n1 d1, .slice b2 n2 d2, .slice b3 n3 d3] 77))
  refine ⟨hs0, ?_⟩
  simp only [Act.put, fd16, List.setIfInBounds_toArray, List.set_cons_zero, List.set_cons_succ]
  refine wpAnyH_take (i := 17) (oi := fd17) (v := .pointer (some ⟨w3.heap.size, 0, none⟩)) rfl (by kernel_rfl) (by kernel_rfl) (by kernel_rfl) (fun _ _ _ h => h) (y_all rfl (fun _ => rfl)) hs0 ?_
  simp only [Act.put, fd17, List.setIfInBounds_toArray, List.set_cons_zero, List.set_cons_succ]
  refine wpAnyH_done (by kernel_rfl) ?_ _
  clear hs0
  go_wp2_with fail
  go_ret
  have z1 : w.heap.size ≤ w1.heap.size := Q2.out.size
  have z2 := R2.out.size
  have z3 := S2.out.size
  have t1 : ∀ k ∈ ob (Value.slice b1 n1 d1), w.heap.size ≤ k ∧ k < w1.heap.size := fun k hk => ⟨Q3.out k hk, (Q1.out.lt k (mem_ob.1 hk)).2⟩
  have t2 : ∀ k ∈ ob (Value.slice b2 n2 d2), w1.heap.size ≤ k ∧ k < w2.heap.size := fun k hk => ⟨R3.out k hk, (R1.out.lt k (mem_ob.1 hk)).2⟩
  have t3 : ∀ k ∈ ob (Value.slice b3 n3 d3), w2.heap.size ≤ k ∧ k < w3.heap.size := fun k hk => ⟨S3.out k hk, (S1.out.lt k (mem_ob.1 hk)).2⟩
  have hB4 : Below w3.heap.size w3 (w3.alloc (.cells #[.slice b1 n1 d1, .slice b2 n2 d2, .slice b3 n3 d3] 77)) := (Below.refl _ _).alloc (Nat.le_refl _) _
  refine ⟨⟨w3.heap.size, .slice b1 n1 d1, .slice b2 n2 d2, .slice b3 n3 d3⟩, rfl, ⟨heap_alloc_new _ _, ?_, ?_, ?_⟩, ?_, fun k hk => ?_, ?_⟩
  · rw [← HN1.out]
    refine ownsRow_same Q1.out (fun k hk => ?_)
    have := t1 k (mem_ob.2 hk)
    rw [hB4.block k (by omega), S2.out.block k (by omega), R2.out.block k (by omega)]
  · rw [← HN2.out]
    refine ownsRow_same R1.out (fun k hk => ?_)
    have := t2 k (mem_ob.2 hk)
    rw [hB4.block k (by omega), S2.out.block k (by omega)]
  · rw [← HN3.out]
    refine ownsRow_same S1.out (fun k hk => ?_)
    have := t3 k (mem_ob.2 hk)
    rw [hB4.block k (by omega)]
  · exact below_comp (below_comp (below_comp (below_comp HD0.out Q2.out) R2.out) S2.out) hB4
  · have hk : k ∈ w3.heap.size :: (ob (Value.slice b1 n1 d1) ++ (ob (Value.slice b2 n2 d2) ++ ob (Value.slice b3 n3 d3))) := hk
    simp only [List.mem_cons, List.mem_append] at hk
    rcases hk with e | e | e | e
    · omega
    · exact (t1 k e).1
    · have := (t2 k e).1; omega
    · have := (t3 k e).1; omega
  · show (w3.heap.size :: (ob (Value.slice b1 n1 d1) ++ (ob (Value.slice b2 n2 d2) ++ ob (Value.slice b3 n3 d3)))).Nodup
    have nd : ∀ v : Value, (ob v).Nodup := fun v => by unfold ob; cases v.ownBlock <;> simp
    rw [List.nodup_cons, List.nodup_append, List.nodup_append]
    refine ⟨fun hk => ?_, nd _, ⟨nd _, nd _, fun a ha b hb e => ?_⟩, fun a ha b hb e => ?_⟩
    · simp only [List.mem_append] at hk
      rcases hk with e | e | e
      · have := (t1 _ e).2; omega
      · have := (t2 _ e).2; omega
      · have := (t3 _ e).2; omega
    · have := t2 a ha; have := t3 b hb; omega
    · have := t1 a ha
      rcases List.mem_append.1 hb with h | h
      · have := t2 b h; omega
      · have := t3 b h; omega
end Go.Proofs.YtojnembakhhgiaaGreat
