import Derived.Test.YtojnembakhhgiaaGreatRiAll
/- The document's disk: one file more. -/
namespace Go.Proofs.YtojnembakhhgiaaGreat
open Go.RowKit

theorem info87 : (Tryz.prog.info? 92).map (fun i => (i.zero, i.size, i.bytes)) = some (some (.agg #[.int .i64 0, St [], .slice none 0 0]), 3, 48) := by kernel_rfl
theorem info90 : (Tryz.prog.info? 95).map (fun i => (i.zero, i.size, i.bytes)) = some (some (.agg #[.int .i64 0, .int .i64 0, St []]), 3, 32) := by kernel_rfl
theorem fc_one (f : Df) {v : Value} (hv : v.oneCell' = true) : ∀ u ∈ fc f v, u.oneCell' = true := fun u hu => by
  simp only [List.mem_cons, List.not_mem_nil, or_false] at hu
  rcases hu with rfl | rfl | rfl
  · rfl
  · rfl
  · exact hv
theorem oc_one (x : Dw) : ∀ u ∈ oc x, u.oneCell' = true := fun u hu => by
  simp only [List.mem_cons, List.not_mem_nil, or_false] at hu
  rcases hu with rfl | rfl | rfl <;> rfl
/-- a file put behind a row of files -/
theorem file_more {W : World} {v : Value} {l : List (Df × Value)} (h : W.ownsRow 0 92 3 v l.length (fcs l)) (f : Df) {sv : Value} (hsv : sv.oneCell' = true) (hl : l.length ≤ 1000000) : ∃ v' w', (∀ ty, (Builtin.append_ #[57, 57] ty #[v, .slice (some ⟨W.heap.size, 0, none⟩) 1 1]).run Tryz.prog (W.alloc (.cells #[.int .i64 (f.no : Int), St f.name, sv] 92)) = .ok v' w') ∧ w'.ownsRow 0 92 3 v' (l ++ [(f, sv)]).length (fcs (l ++ [(f, sv)])) ∧ W.grownBy w' v.ownBlock ∧ (v'.ownBlock = v.ownBlock ∨ v'.ownBlock = some (W.heap.size + 1)) := by
  obtain ⟨i0, hi, hz0, hz1, hz2⟩ := info_get info87
  obtain ⟨v', w', h1, h2, h3, _, h4⟩ := run_append_own_at (P := Tryz.prog) (W.alloc (.cells #[.int .i64 (f.no : Int), St f.name, sv] 92)) 0 57 57 92 i0 _ 3 48 Tryz.underlying57 hi hz0 hz1 hz2 rfl (by decide) v l.length (fcs l) (h.alloc _) ⟨W.heap.size, 0, none⟩ 1 1 (fc f sv) rfl (fun j u hu => by
    rw [Addr.add_mid, Nat.zero_add, cell_of_heap (heap_alloc_new W _), List.getElem?_toArray]
    exact hu) (fc_one f hsv) (by unfold maxLen; omega) (by omega) (Nat.zero_le _)
  have e : fcs (l ++ [(f, sv)]) = fcs l ++ fc f sv := by
    unfold fcs
    rw [List.flatMap_append, List.flatMap_cons, List.flatMap_nil, List.append_nil]
  refine ⟨v', w', fun ty => h1, by rw [e, List.length_append]; exact h2, (World.grownBy_alloc W _ v.ownBlock).trans h3, ?_⟩
  rcases h4 with h4 | h4
  · exact .inl h4
  · exact .inr (by rw [h4]; simp)
/-- a write put behind a row of writes -/
theorem open_more {W : World} {v : Value} {l : List Dw} (h : W.ownsRow 0 95 3 v l.length (ocs l)) (x : Dw) (hl : l.length ≤ 1000000) : ∃ v' w', (∀ ty, (Builtin.append_ #[58, 58] ty #[v, .slice (some ⟨W.heap.size, 0, none⟩) 1 1]).run Tryz.prog (W.alloc (.cells #[.int .i64 (x.no : Int), .int .i64 (x.at' : Int), St x.pg] 95)) = .ok v' w') ∧ w'.ownsRow 0 95 3 v' (l ++ [x]).length (ocs (l ++ [x])) ∧ W.grownBy w' v.ownBlock ∧ (v'.ownBlock = v.ownBlock ∨ v'.ownBlock = some (W.heap.size + 1)) := by
  obtain ⟨i0, hi, hz0, hz1, hz2⟩ := info_get info90
  obtain ⟨v', w', h1, h2, h3, _, h4⟩ := run_append_own_at (P := Tryz.prog) (W.alloc (.cells #[.int .i64 (x.no : Int), .int .i64 (x.at' : Int), St x.pg] 95)) 0 58 58 95 i0 _ 3 32 Tryz.underlying58 hi hz0 hz1 hz2 rfl (by decide) v l.length (ocs l) (h.alloc _) ⟨W.heap.size, 0, none⟩ 1 1 (oc x) rfl (fun j u hu => by
    rw [Addr.add_mid, Nat.zero_add, cell_of_heap (heap_alloc_new W _), List.getElem?_toArray]
    exact hu) (oc_one x) (by unfold maxLen; omega) (by omega) (Nat.zero_le _)
  have e : ocs (l ++ [x]) = ocs l ++ oc x := by
    unfold ocs
    rw [List.flatMap_append, List.flatMap_cons, List.flatMap_nil, List.append_nil]
  refine ⟨v', w', fun ty => h1, by rw [e, List.length_append]; exact h2, (World.grownBy_alloc W _ v.ownBlock).trans h3, ?_⟩
  rcases h4 with h4 | h4
  · exact .inl h4
  · exact .inr (by rw [h4]; simp)
/-- the disk with one file more -/
theorem Rv.more {w w2 : World} {q : Nat} {s : Ds} {fv ov : Value} {ss : List Value} (h : Rv w q s fv ov ss) {t : Bs} (hn : findF s t = none) (ht : named t = true) (h256 : s.files.length < 256) (hnx : s.next + 1 < 1000000) (hoff : s.off = false) {fv' : Value} (hr : w2.ownsRow 0 92 3 fv' (s.files.zip ss ++ [((⟨s.next, t, []⟩ : Df), Value.slice none 0 0)]).length (fcs (s.files.zip ss ++ [((⟨s.next, t, []⟩ : Df), Value.slice none 0 0)]))) (hg : w.grownBy w2 fv.ownBlock) (hv : fv'.ownBlock = fv.ownBlock ∨ fv'.ownBlock = some (w.heap.size + 1)) :
    Rv ((w2.setCell ⟨q, 0, none⟩ fv').setCell ⟨q, 2, none⟩ (.int .i64 ((s.next + 1 : Nat) : Int))) q (addF s t) fv' ov (ss ++ [.slice none 0 0]) ∧ Kf (Rm q fv ov) w ((w2.setCell ⟨q, 0, none⟩ fv').setCell ⟨q, 2, none⟩ (.int .i64 ((s.next + 1 : Nat) : Int))) ∧ ∀ g ∈ Rm q fv' ov ++ Rr (ss ++ [.slice none 0 0]), g ∈ Rm q fv ov ++ Rr ss ∨ w.heap.size ≤ g := by
  obtain ⟨i, k, hb, hik, hi2⟩ := h.blk
  have hql := lt_of_block hb
  have hqf : some q ≠ fv.ownBlock := fun e => h.ap1.1 (mem_ob.2 e.symm)
  have hb2 : w2.heap[q]? = some (.cells (rcells s fv ov i k) 60 (0, 0)) := (hg.block q hql hqf).trans hb
  have hset : ∀ g, g ≠ q → ((w2.setCell ⟨q, 0, none⟩ fv').setCell ⟨q, 2, none⟩ (.int .i64 ((s.next + 1 : Nat) : Int))).heap[g]? = w2.heap[g]? := fun g hgq => by rw [Below.heap_setCell _ _ _ _ hgq, Below.heap_setCell _ _ _ _ hgq]
  have hfb : ∀ g ∈ ob fv', g ∈ ob fv ∨ g = w.heap.size + 1 := fun g hm => by
    rcases hv with e | e
    · exact .inl (mem_ob.2 (by rw [← e]; exact mem_ob.1 hm))
    · have := mem_ob.1 hm
      rw [e] at this
      cases this
      exact .inr rfl
  have hovl : ∀ g ∈ ob ov, g < w.heap.size := fun g hm => (h.opn.lt g (mem_ob.1 hm)).2
  have hzl : (s.files.zip ss).length = s.files.length := by rw [List.length_zip, h.len]; omega
  have hzip : (s.files ++ [(⟨s.next, t, []⟩ : Df)]).zip (ss ++ [Value.slice none 0 0]) = s.files.zip ss ++ [((⟨s.next, t, []⟩ : Df), Value.slice none 0 0)] := by
    rw [List.zip_append h.len.symm]
    rfl
  have hold : ∀ g, g < w.heap.size → g ∉ ob fv → g ≠ q → ((w2.setCell ⟨q, 0, none⟩ fv').setCell ⟨q, 2, none⟩ (.int .i64 ((s.next + 1 : Nat) : Int))).heap[g]? = w.heap[g]? := fun g hgl hgf hgq => (hset g hgq).trans (hg.block g hgl (fun e => hgf (mem_ob.2 e.symm)))
  refine ⟨⟨⟨i, k, ?_, hik, hi2⟩, ?_, ?_, fun x hx => ?_, ?_, ⟨fun hm => ?_, h.ap1.2.1, fun g hm hm2 => ?_⟩, fun v hvm g hm hm2 => ?_, addF_ok h.ok hn ht h256, fun ho => ?_, ⟨h.small.1, hnx⟩⟩, ?_, fun g hm => ?_⟩
  · rw [heap_setCell_same (heap_setCell_same hb2 0 _) 2 _]
    rfl
  · show (ss ++ [_]).length = (s.files ++ [_]).length
    rw [List.length_append, List.length_append, h.len]
    rfl
  · show World.ownsRow _ 0 92 3 fv' (s.files ++ [_]).length (fcs ((s.files ++ [_]).zip (ss ++ [_])))
    rw [hzip]
    have e : (s.files ++ [(⟨s.next, t, []⟩ : Df)]).length = (s.files.zip ss ++ [((⟨s.next, t, []⟩ : Df), Value.slice none 0 0)]).length := by rw [List.length_append, List.length_append, hzl]; rfl
    rw [e]
    refine ownsRow_same hr (fun g hgm => hset g (fun e => ?_))
    rcases hfb g (mem_ob.2 hgm) with h1 | h1
    · exact h.ap1.1 (e ▸ h1)
    · omega
  · have hx' : x ∈ s.files.zip ss ++ [((⟨s.next, t, []⟩ : Df), Value.slice none 0 0)] := by rw [← hzip]; exact hx
    rcases List.mem_append.1 hx' with hx' | hx'
    · have h1 := h.set x hx'
      refine ownsRow_same h1 (fun g hgm => ?_)
      have h2 := h.ap2 x.2 (List.of_mem_zip hx').2 g (mem_ob.2 hgm)
      simp only [List.mem_cons, List.mem_append, not_or] at h2
      exact hold g (h1.lt g hgm).2 h2.2.1 h2.1
    · rw [List.mem_singleton.1 hx']
      exact World.ownsRow_nil _ _ _ _
  · exact ownsRow_same h.opn (fun g hgm => hold g (h.opn.lt g hgm).2 (fun hm => h.ap1.2.2 g hm (mem_ob.2 hgm)) (fun e => h.ap1.2.1 (e ▸ mem_ob.2 hgm)))
  · rcases hfb q hm with h1 | h1
    · exact h.ap1.1 h1
    · omega
  · rcases hfb g hm with h1 | h1
    · exact h.ap1.2.2 g h1 hm2
    · have := hovl g hm2
      omega
  · rcases List.mem_append.1 hvm with hvm | hvm
    · have h3 := h.ap2 v hvm g hm
      have hgl := h.lt (g := g) (List.mem_append.2 (.inr (List.mem_flatMap.2 ⟨v, hvm, hm⟩)))
      simp only [List.mem_cons, List.mem_append, not_or] at h3
      simp only [List.mem_cons, List.mem_append] at hm2
      rcases hm2 with e | e | e
      · exact h3.1 e
      · rcases hfb g e with h4 | h4
        · exact h3.2.1 h4
        · omega
      · exact h3.2.2 e
    · rw [List.mem_singleton.1 hvm] at hm
      cases hm
  · have : s.off = true := ho
    rw [hoff] at this
    cases this
  · have k1 : Kf (Rm q fv ov) w w2 := ⟨hg.os, hg.tape, hg.output, hg.size, fun g hgl hF => hg.block g hgl (fun e => hF (by have := mem_ob.2 e.symm; simp [Rm, this]))⟩
    exact (k1.trans (Kf.set (F := [q]) _ (by simp) _ _) (fun g hm => .inl (by simp at hm; simp [Rm, hm]))).trans (Kf.set (F := [q]) _ (by simp) _ _) (fun g hm => .inl (by simp at hm; simp [Rm, hm]))
  · unfold Rm Rr at hm ⊢
    rw [List.flatMap_append] at hm
    simp only [List.mem_append, List.mem_cons, List.flatMap_cons, List.flatMap_nil, List.append_nil] at hm ⊢
    rcases hm with (e | e | e) | e | e
    · exact .inl (.inl (.inl e))
    · rcases hfb g e with h1 | h1
      · exact .inl (.inl (.inr (.inl h1)))
      · exact .inr (by omega)
    · exact .inl (.inl (.inr (.inr e)))
    · exact .inl (.inr e)
    · cases e
end Go.Proofs.YtojnembakhhgiaaGreat

/- The document's disk: Create. -/
namespace Go.Proofs.YtojnembakhhgiaaGreat
open Go.RowKit

theorem load56 {w : World} {b o : Nat} {v : Value} (h : w.cell? ⟨b, o, none⟩ = some v) : (Instr.loadAt 57 (.pointer (some ⟨b, o, none⟩))).run Tryz.prog w = .ok v w := by go_simp
def kc0 : Oper := { dst := some 30, op := Go.Op.move (Go.Operand.tmp 0), type := 26, pos := "ref.go:114", after := #[], guard := none }
def kc1 : Oper := { dst := some 31, op := Go.Op.move (Go.Operand.tmp 0), type := 26, pos := "ref.go:114", after := #[], guard := none }
def kc2 : Oper := { dst := some 32, op := Go.Op.nilCheck (Go.Operand.tmp 31), type := 0, pos := "ref.go:114", after := #[{ on := 1, ground := Go.Ground.data }], guard := none }
def kc3 : Oper := { dst := some 33, op := Go.Op.fieldAddr 60 (Go.Operand.tmp 32) 0, type := 0, pos := "ref.go:114", after := #[{ on := 2, ground := Go.Ground.data }], guard := none }
def kc4 : Oper := { dst := some 34, op := Go.Op.load 57 (Go.Operand.tmp 33), type := 57, pos := "ref.go:114", after := #[{ on := 3, ground := Go.Ground.data }], guard := none }
def kc5 : Oper := { dst := some 35, op := Go.Op.move (Go.Operand.tmp 0), type := 26, pos := "ref.go:114", after := #[], guard := none }
def kc6 : Oper := { dst := some 36, op := Go.Op.nilCheck (Go.Operand.tmp 35), type := 0, pos := "ref.go:114", after := #[{ on := 5, ground := Go.Ground.data }], guard := none }
def kc7 : Oper := { dst := some 37, op := Go.Op.fieldAddr 60 (Go.Operand.tmp 36) 2, type := 0, pos := "ref.go:114", after := #[{ on := 6, ground := Go.Ground.data }], guard := none }
def kc8 : Oper := { dst := some 38, op := Go.Op.load 3 (Go.Operand.tmp 37), type := 3, pos := "ref.go:114", after := #[{ on := 7, ground := Go.Ground.data }], guard := none }
def kc9 : Oper := { dst := some 39, op := Go.Op.move (Go.Operand.tmp 1), type := 9, pos := "ref.go:114", after := #[], guard := none }
def kc10 : Oper := { dst := some 40, op := Go.Op.build 92 #[(0, Go.Operand.tmp 38), (1, Go.Operand.tmp 39)], type := 92, pos := "ref.go:114", after := #[{ on := 8, ground := Go.Ground.data }, { on := 9, ground := Go.Ground.data }], guard := none }
def kc11 : Oper := { dst := some 41, op := Go.Op.buildSlice 57 1 #[(0, Go.Operand.tmp 40)], type := 57, pos := "ref.go:114", after := #[{ on := 10, ground := Go.Ground.data }], guard := none }
def kc12 : Oper := { dst := some 42, op := Go.Op.call { callee := Go.Callee.builtin Go.Builtin.append, args := #[Go.Operand.tmp 34, Go.Operand.tmp 41], argTypes := #[57, 57] }, type := 57, pos := "ref.go:114", after := #[{ on := 4, ground := Go.Ground.data }, { on := 11, ground := Go.Ground.data }], guard := none }
def kc13 : Oper := { dst := some 43, op := Go.Op.nilCheck (Go.Operand.tmp 30), type := 0, pos := "ref.go:114", after := #[{ on := 0, ground := Go.Ground.data }, { on := 0, ground := Go.Ground.phase }, { on := 1, ground := Go.Ground.phase }, { on := 2, ground := Go.Ground.phase }, { on := 3, ground := Go.Ground.phase }, { on := 4, ground := Go.Ground.phase }, { on := 5, ground := Go.Ground.phase }, { on := 6, ground := Go.Ground.phase }, { on := 7, ground := Go.Ground.phase }, { on := 8, ground := Go.Ground.phase }, { on := 9, ground := Go.Ground.phase }, { on := 10, ground := Go.Ground.phase }, { on := 11, ground := Go.Ground.phase }, { on := 12, ground := Go.Ground.phase }], guard := none }
def kc14 : Oper := { dst := some 44, op := Go.Op.fieldAddr 60 (Go.Operand.tmp 43) 0, type := 0, pos := "ref.go:114", after := #[{ on := 13, ground := Go.Ground.data }, { on := 0, ground := Go.Ground.phase }, { on := 1, ground := Go.Ground.phase }, { on := 2, ground := Go.Ground.phase }, { on := 3, ground := Go.Ground.phase }, { on := 4, ground := Go.Ground.phase }, { on := 5, ground := Go.Ground.phase }, { on := 6, ground := Go.Ground.phase }, { on := 7, ground := Go.Ground.phase }, { on := 8, ground := Go.Ground.phase }, { on := 9, ground := Go.Ground.phase }, { on := 10, ground := Go.Ground.phase }, { on := 11, ground := Go.Ground.phase }, { on := 12, ground := Go.Ground.phase }], guard := none }
def kc15 : Oper := { dst := none, op := Go.Op.store 57 (Go.Operand.tmp 44) (Go.Operand.tmp 42), type := 0, pos := "ref.go:114", after := #[{ on := 14, ground := Go.Ground.data }, { on := 12, ground := Go.Ground.data }, { on := 12, ground := Go.Ground.chain }, { on := 0, ground := Go.Ground.phase }, { on := 1, ground := Go.Ground.phase }, { on := 2, ground := Go.Ground.phase }, { on := 3, ground := Go.Ground.phase }, { on := 4, ground := Go.Ground.phase }, { on := 5, ground := Go.Ground.phase }, { on := 6, ground := Go.Ground.phase }, { on := 7, ground := Go.Ground.phase }, { on := 8, ground := Go.Ground.phase }, { on := 9, ground := Go.Ground.phase }, { on := 10, ground := Go.Ground.phase }, { on := 11, ground := Go.Ground.phase }, { on := 12, ground := Go.Ground.phase }], guard := none }
set_option maxRecDepth 100000 in
set_option maxHeartbeats 8000000 in
theorem rcreate_any (w : World) (q : Nat) (s : Ds) (fv ov : Value) (ss : List Value) (h : Rv w q s fv ov ss) (hst : s.steps + 1 < 1000000) (hnx : s.next + 1 < 1000000) (t : Bs) :
    Calls Tryz.prog 26 #[.pointer (some ⟨q, 0, none⟩), St t] w fun e w' => e = .returned (.int .i64 ((createD s t).1 : Int)) ∧ Rleft w q fv ov ss (createD s t).2 w' := by
  obtain ⟨i0, k0, hb, _⟩ := h.blk
  have c8 : w.cell? ⟨q, 8, none⟩ = some (.bool s.off) := (cell_of_heap hb 8).trans rfl
  obtain ⟨ao, cap, hfv⟩ := row_shape h.fil
  obtain ⟨n, hn⟩ : ∃ n, n = s.files.length := ⟨_, rfl⟩
  have c0 : w.cell? ⟨q, 0, none⟩ = some (.slice ao n cap) := by rw [hn, ← hfv]; exact (cell_of_heap hb 0).trans rfl
  have HFI := hid (rfind_any w q s fv ov ss h t)
  have HNM := hid (rnamed_any w t)
  have HST : Hid (Rleft w q fv ov ss s w) := hid (Rleft.stay h (Below.refl _ _))
  obtain ⟨R, hR⟩ : ∃ R, R = createD s t := ⟨_, rfl⟩
  rw [← hR]
  cases ho : s.off with
  | true =>
    rw [ho] at c8
    have HRE : Hid (R = (7, s)) := hid (by rw [hR]; unfold createD; rw [if_pos ho])
    clear h hb hR hfv hn
    go_enter Tryz.func26, Tryz.ntmps26
    go_wp2_with fail
    go_ret
    rw [HRE.out]
    exact ⟨rfl, HST.out⟩
  | false =>
    rw [ho] at c8
    have hR1 : R = if named t = false then (2, s) else if (findF s t).isSome = true then (90, s) else if 256 ≤ s.files.length then (3, s) else doD s fun s => addF s t := by
      rw [hR]
      unfold createD
      rw [if_neg (by rw [ho]; decide)]
      rfl
    cases hnm : named t with
    | false =>
      rw [hnm] at HNM
      have HRE : Hid (R = (2, s)) := hid (by rw [hR1, if_pos hnm])
      clear h hb hR hR1 hfv hn
      go_enter Tryz.func26, Tryz.ntmps26
      go_wp2_with fail
      refine HNM.out.mono ?_
      rintro e w1 ⟨rfl, hw⟩
      subst hw
      go_wp2_with fail
      go_ret
      rw [HRE.out]
      exact ⟨rfl, HST.out⟩
    | true =>
      rw [hnm] at HNM
      rw [if_neg (by rw [hnm]; decide)] at hR1
      cases hf : findF s t with
      | some f =>
        obtain ⟨ix, hi, e1, e2⟩ := fidx_some hf
        rw [e1] at HFI
        have HRE : Hid (R = (90, s)) := hid (by rw [hR1, if_pos (by rw [hf]; rfl)])
        have hi0 : (0 : Int) ≤ (ix : Int) := Int.natCast_nonneg _
        clear h hb hR hR1 hfv hn hf e1 e2 hi
        go_enter Tryz.func26, Tryz.ntmps26
        go_wp2_with fail
        refine HNM.out.mono ?_
        rintro e w1 ⟨rfl, hw⟩
        subst hw
        go_wp2_with fail
        refine HFI.out.mono ?_
        rintro e w1 ⟨rfl, hw⟩
        subst hw
        go_wp2_with fail
        go_ret
        rw [HRE.out]
        exact ⟨rfl, HST.out⟩
      | none =>
        rw [fidx_none hf] at HFI
        rw [if_neg (by rw [hf]; decide)] at hR1
        by_cases h256 : 256 ≤ s.files.length
        · have HRE : Hid (R = (3, s)) := hid (by rw [hR1, if_pos h256])
          have hn1 : (256 : Int) ≤ (n : Int) := by omega
          clear h hb hR hR1 hfv hn hf h256
          go_enter Tryz.func26, Tryz.ntmps26
          go_wp2_with fail
          refine HNM.out.mono ?_
          rintro e w1 ⟨rfl, hw⟩
          subst hw
          go_wp2_with fail
          refine HFI.out.mono ?_
          rintro e w1 ⟨rfl, hw⟩
          subst hw
          go_wp2_with fail
          go_ret
          rw [HRE.out]
          exact ⟨rfl, HST.out⟩
        · rw [if_neg h256] at hR1
          have hn1 : ¬ (256 : Int) ≤ (n : Int) := by omega
          cases hs : stepD s with
          | none =>
            have HSP := hid (rstep_no w q s fv ov ss h hs)
            have HRE : Hid (R = (7, offD s)) := hid (by rw [hR1]; unfold doD; rw [hs])
            have HLE : Hid (∀ w', Rv w' q (offD s) fv ov ss → Kf [q] w w' → Rleft w q fv ov ss (offD s) w') := hid (fun w' h1 h2 => ⟨fv, ov, ss, h1, h2.more (fun g hg => by simp at hg; simp [Rm, hg]), fun g hg => .inl hg⟩)
            clear h hb hR hR1 hfv hn hf h256 hs
            go_enter Tryz.func26, Tryz.ntmps26
            go_wp2_with fail
            refine HNM.out.mono ?_
            rintro e w1 ⟨rfl, hw⟩
            subst hw
            go_wp2_with fail
            refine HFI.out.mono ?_
            rintro e w1 ⟨rfl, hw⟩
            subst hw
            go_wp2_with fail
            refine HSP.out.mono ?_
            rintro e w2 ⟨rfl, h1, h2⟩
            have HL := hid (HLE.out w2 h1 h2)
            clear h1 h2
            go_wp2_with fail
            go_ret
            rw [HRE.out]
            exact ⟨rfl, HL.out⟩
          | some s' =>
            have HSP := hid (rstep_yes w q s s' fv ov ss h hs hst)
            have HRE : Hid (R = (0, addF s' t)) := hid (by rw [hR1]; unfold doD; rw [hs])
            obtain ⟨hok, e1, e2, e3, e4, e5, e6⟩ := step_ok h.ok hs
            have HH : Hid (∀ w2, Rv w2 q s' fv ov ss → Kf [q] w w2 → ∃ a4 n4 c4 w4, (∀ ty, (Builtin.append_ #[57, 57] ty #[.slice ao n cap, .slice (some ⟨w2.heap.size, 0, none⟩) 1 1]).run Tryz.prog (w2.drew.alloc (.cells #[.int .i64 (s'.next : Int), St t, .slice none 0 0] 92)) = .ok (.slice a4 n4 c4) w4) ∧ (w2.cell? ⟨q, 0, none⟩ = some (.slice ao n cap) ∧ w2.cell? ⟨q, 2, none⟩ = some (.int .i64 (s'.next : Int))) ∧ ((w2.drew.alloc (.cells #[.int .i64 (s'.next : Int), St t, .slice none 0 0] 92)).cell? ⟨q, 0, none⟩ = some (.slice ao n cap) ∧ (w2.drew.alloc (.cells #[.int .i64 (s'.next : Int), St t, .slice none 0 0] 92)).cell? ⟨q, 2, none⟩ = some (.int .i64 (s'.next : Int))) ∧ (w4.cell? ⟨q, 0, none⟩ = some (.slice ao n cap) ∧ w4.cell? ⟨q, 2, none⟩ = some (.int .i64 (s'.next : Int))) ∧ (w4.frozen? ⟨q, 0, none⟩ = false ∧ w4.frozen? ⟨q, 2, none⟩ = false) ∧ Rleft w q fv ov ss (addF s' t) ((w4.setCell ⟨q, 0, none⟩ (.slice a4 n4 c4)).setCell ⟨q, 2, none⟩ (.int .i64 ((s'.next + 1 : Nat) : Int)))) := hid (fun w2 h1 h2 => by
            obtain ⟨i1, k1, hb1, _⟩ := h1.blk
            have hzl : (s'.files.zip ss).length = s'.files.length := by rw [List.length_zip, h1.len]; omega
            have hrow : w2.drew.ownsRow 0 92 3 fv (s'.files.zip ss).length (fcs (s'.files.zip ss)) := by rw [hzl]; exact ownsRow_same h1.fil (fun _ _ => rfl)
            obtain ⟨v4, w4, hrun, hr4, hg4, hv4⟩ := file_more (W := w2.drew) hrow ⟨s'.next, t, []⟩ (sv := .slice none 0 0) rfl (by rw [hzl, e1]; omega)
            obtain ⟨a4, c4, hv4s⟩ := row_shape hr4
            have hqf : some q ≠ fv.ownBlock := fun e => h1.ap1.1 (mem_ob.2 e.symm)
            have hb4 : w4.heap[q]? = some (.cells (rcells s' fv ov i1 k1) 60 (0, 0)) := (hg4.block q (lt_of_block hb1) hqf).trans hb1
            have hbA : (w2.drew.alloc (.cells #[.int .i64 (s'.next : Int), St t, .slice none 0 0] 92)).heap[q]? = some (.cells (rcells s' fv ov i1 k1) 60 (0, 0)) := (Below.heap_alloc _ _ _ (lt_of_block hb1)).trans hb1
            have hfv2 : fv = .slice ao n cap := by rw [hfv, hn]
            obtain ⟨m1, m2, m3⟩ := Rv.more (w := w2) (w2 := w4) h1 (by rw [find_same e1]; exact hf) hnm (by rw [e1]; omega) (by omega) (by rw [e6]; exact ho) hr4 ⟨hg4.os, hg4.tape, hg4.output, hg4.size, hg4.block⟩ hv4
            refine ⟨a4, (s'.files.zip ss ++ [((⟨s'.next, t, []⟩ : Df), Value.slice none 0 0)]).length, c4, w4, fun ty => ?_, ⟨?_, ?_⟩, ⟨?_, ?_⟩, ⟨?_, ?_⟩, ⟨frozen_of_heap hb4 0, frozen_of_heap hb4 2⟩, ?_⟩
            · rw [← hfv2, ← hv4s]
              exact hrun ty
            · rw [← hfv2]; exact (cell_of_heap hb1 0).trans rfl
            · exact (cell_of_heap hb1 2).trans rfl
            · rw [← hfv2]; exact (cell_of_heap hbA 0).trans rfl
            · exact (cell_of_heap hbA 2).trans rfl
            · rw [← hfv2]; exact (cell_of_heap hb4 0).trans rfl
            · exact (cell_of_heap hb4 2).trans rfl
            · rw [← hv4s]
              refine ⟨v4, ov, _, m1, (h2.more (fun g hg => by simp at hg; simp [Rm, hg])).trans m2 (fun g hg => .inl hg), fun g hg => ?_⟩
              rcases m3 g hg with h5 | h5
              · exact .inl h5
              · exact .inr (Nat.le_trans h2.size h5))
            have hnw : IntKind.i64.wrap ((s'.next : Int) + 1) = ((s'.next + 1 : Nat) : Int) := by rw [IntKind.wrap_i64]; omega
            clear h hb hR hR1 hfv hn hf h256 hs hok e1 e2 e3 e4 e5 e6
            go_enter Tryz.func26, Tryz.ntmps26
            go_wp2_with fail
            refine HNM.out.mono ?_
            rintro e w1 ⟨rfl, hw⟩
            subst hw
            go_wp2_with fail
            refine HFI.out.mono ?_
            rintro e w1 ⟨rfl, hw⟩
            subst hw
            go_wp2_with fail
            refine HSP.out.mono ?_
            rintro e w2 ⟨rfl, h1, h2⟩
            obtain ⟨a4, n4, c4, w4, hrn, ⟨d0, d2⟩, hsa, hs4, hf4, hL⟩ := HH.out w2 h1 h2
            have HRN := hid hrn
            have HSA := hid hsa
            have HS4 := hid hs4
            have HF4 := hid hf4
            have HL := hid hL
            have e2' := hs4.2
            have f2' := hf4.2
            clear h1 h2 hrn hsa hs4 hf4 hL
            go_wp2_with fail
            have hs0 : (fun W => W.cell? ⟨q, 0, none⟩ = some (.slice ao n cap) ∧ W.cell? ⟨q, 2, none⟩ = some (.int .i64 (s'.next : Int))) w2.drew := ⟨d0, d2⟩
            refine region_z (fun W => W.cell? ⟨q, 0, none⟩ = some (.slice ao n cap) ∧ W.cell? ⟨q, 2, none⟩ = some (.int .i64 (s'.next : Int))) 15 (by kernel_rfl) ?_
            refine z_take (i := 0) (oi := kc0) (v := .pointer (some ⟨q, 0, none⟩)) rfl (by kernel_rfl) (by kernel_rfl) (by kernel_rfl) (fun _ _ _ h => h) (by kernel_rfl) (by decide) (y_all rfl (fun _ => rfl)) hs0 ?_
            refine z_take (i := 1) (oi := kc1) (v := .pointer (some ⟨q, 0, none⟩)) rfl (by kernel_rfl) (by kernel_rfl) (by kernel_rfl) (fun _ _ _ h => h) (by kernel_rfl) (by decide) (y_all rfl (fun _ => rfl)) hs0 ?_
            simp only [Act.put, kc0, kc1, List.setIfInBounds_toArray, List.set_cons_zero, List.set_cons_succ]
            refine z_take (i := 2) (oi := kc2) (v := .pointer (some ⟨q, 0, none⟩)) rfl (by kernel_rfl) (by kernel_rfl) (by kernel_rfl) (fun _ _ _ h => h) (by kernel_rfl) (by decide) (y_all rfl (fun _ => rfl)) hs0 ?_
            simp only [Act.put, kc2, List.setIfInBounds_toArray, List.set_cons_zero, List.set_cons_succ]
            refine z_take (i := 3) (oi := kc3) (v := .pointer (some ⟨q, 0, none⟩)) rfl (by kernel_rfl) (by kernel_rfl) (by kernel_rfl) (fun _ _ _ h => h) (by kernel_rfl) (by decide) (y_all rfl (fun _ => by simp only [kc3]; go_simp)) hs0 ?_
            simp only [Act.put, kc3, List.setIfInBounds_toArray, List.set_cons_zero, List.set_cons_succ]
            refine z_take (i := 4) (oi := kc4) (v := .slice ao n cap) rfl (by kernel_rfl) (by kernel_rfl) (by kernel_rfl) (fun _ _ _ h => h) (by kernel_rfl) (by decide) (y_load rfl 57 (.tmp 33) rfl q 0 rfl (fun w hw => load56 hw.1)) hs0 ?_
            refine z_take (i := 5) (oi := kc5) (v := .pointer (some ⟨q, 0, none⟩)) rfl (by kernel_rfl) (by kernel_rfl) (by kernel_rfl) (fun _ _ _ h => h) (by kernel_rfl) (by decide) (y_all rfl (fun _ => rfl)) hs0 ?_
            simp only [Act.put, kc4, kc5, List.setIfInBounds_toArray, List.set_cons_zero, List.set_cons_succ]
            refine z_take (i := 6) (oi := kc6) (v := .pointer (some ⟨q, 0, none⟩)) rfl (by kernel_rfl) (by kernel_rfl) (by kernel_rfl) (fun _ _ _ h => h) (by kernel_rfl) (by decide) (y_all rfl (fun _ => rfl)) hs0 ?_
            simp only [Act.put, kc6, List.setIfInBounds_toArray, List.set_cons_zero, List.set_cons_succ]
            refine z_take (i := 7) (oi := kc7) (v := .pointer (some ⟨q, 2, none⟩)) rfl (by kernel_rfl) (by kernel_rfl) (by kernel_rfl) (fun _ _ _ h => h) (by kernel_rfl) (by decide) (y_all rfl (fun _ => by simp only [kc7]; go_simp)) hs0 ?_
            simp only [Act.put, kc7, List.setIfInBounds_toArray, List.set_cons_zero, List.set_cons_succ]
            refine z_take (i := 8) (oi := kc8) (v := .int .i64 (s'.next : Int)) rfl (by kernel_rfl) (by kernel_rfl) (by kernel_rfl) (fun _ _ _ h => h) (by kernel_rfl) (by decide) (y_load rfl 3 (.tmp 37) rfl q 2 rfl (fun w hw => load3 hw.2)) hs0 ?_
            refine z_take (i := 9) (oi := kc9) (v := St t) rfl (by kernel_rfl) (by kernel_rfl) (by kernel_rfl) (fun _ _ _ h => h) (by kernel_rfl) (by decide) (y_all rfl (fun _ => rfl)) hs0 ?_
            simp only [Act.put, kc8, kc9, List.setIfInBounds_toArray, List.set_cons_zero, List.set_cons_succ]
            refine z_take (i := 10) (oi := kc10) (v := .agg #[.int .i64 (s'.next : Int), St t, .slice none 0 0]) rfl (by kernel_rfl) (by kernel_rfl) (by kernel_rfl) (fun _ _ _ h => h) (by kernel_rfl) (by decide) (y_all rfl (fun _ => by simp only [kc10]; go_simp)) hs0 ?_
            simp only [Act.put, kc10, List.setIfInBounds_toArray, List.set_cons_zero, List.set_cons_succ]
            refine z_all (rs := [11]) (by kernel_rfl) (by simp) (all1 ?_)
            refine op_ok (o := kc11) rfl rfl (v := .slice (some ⟨w2.heap.size, 0, none⟩) 1 1) (w' := w2.drew.alloc (.cells #[.int .i64 (s'.next : Int), St t, .slice none 0 0] 92)) (by simp only [kc11]; go_simp) ?_
            have hs0 := HSA.out
            refine ⟨fun _ => hs0, ?_⟩
            simp only [Act.put, kc11, List.setIfInBounds_toArray, List.set_cons_zero, List.set_cons_succ]
            refine z_all (rs := [12]) (by kernel_rfl) (by simp) (all1 ?_)
            refine op_append (o := kc12) (v' := .slice a4 n4 c4) (w' := w4) rfl rfl (.tmp 34) (.tmp 41) 57 rfl (by rfl) (by rfl) HRN.out ?_
            have hs0 := HS4.out
            refine ⟨fun _ => hs0, ?_⟩
            simp only [Act.put, kc12, List.setIfInBounds_toArray, List.set_cons_zero, List.set_cons_succ]
            refine z_all (rs := [13]) (by kernel_rfl) (by simp) (all1 ?_)
            refine op_ok (o := kc13) (v := .pointer (some ⟨q, 0, none⟩)) (w' := w4) rfl rfl rfl ?_
            refine ⟨fun _ => hs0, ?_⟩
            simp only [Act.put, kc13, List.setIfInBounds_toArray, List.set_cons_zero, List.set_cons_succ]
            refine z_all (rs := [14]) (by kernel_rfl) (by simp) (all1 ?_)
            refine op_ok (o := kc14) (v := .pointer (some ⟨q, 0, none⟩)) (w' := w4) rfl rfl (by simp only [kc14]; go_simp) ?_
            refine ⟨fun _ => hs0, ?_⟩
            simp only [Act.put, kc14, List.setIfInBounds_toArray, List.set_cons_zero, List.set_cons_succ]
            refine z_all (rs := [15]) (by kernel_rfl) (by simp) (all1 ?_)
            have h00 := hs0.1
            have ff := HF4.out
            refine op_skip (o := kc15) (w' := w4.setCell ⟨q, 0, none⟩ (.slice a4 n4 c4)) rfl rfl (by simp only [kc15]; go_simp) ?_
            refine ⟨fun h => absurd rfl h, ?_⟩
            refine z_done (by kernel_rfl) ?_ _
            simp only [Act.put, kc15]
            clear hs0 h00
            go_wp2_with fail
            go_ret
            rw [HRE.out]
            exact ⟨rfl, HL.out⟩
end Go.Proofs.YtojnembakhhgiaaGreat
