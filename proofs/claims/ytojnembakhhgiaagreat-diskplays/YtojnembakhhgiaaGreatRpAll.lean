import Derived.Test.YtojnembakhhgiaaGreatRnAll
/- The document's disk: a file put behind the others. -/
namespace Go.Proofs.YtojnembakhhgiaaGreat
open Go.RowKit

def putF (s : Ds) (f : Df) : Ds := { s with files := s.files ++ [f] }
theorem Rv.putf {w w2 : World} {q : Nat} {s : Ds} {fv ov : Value} {ss : List Value} (h : Rv w q s fv ov ss) {f : Df} {sv : Value} (htx : Tx w sv f.settled) (hap : ∀ g ∈ ob sv, g ∉ q :: (ob fv ++ ob ov)) (hok : Dok (putF s f)) {fv' : Value} (hr : w2.ownsRow 0 92 3 fv' (s.files.zip ss ++ [(f, sv)]).length (fcs (s.files.zip ss ++ [(f, sv)]))) (hg : w.grownBy w2 fv.ownBlock) (hv : fv'.ownBlock = fv.ownBlock ∨ fv'.ownBlock = some (w.heap.size + 1)) :
    Rv (w2.setCell ⟨q, 0, none⟩ fv') q (putF s f) fv' ov (ss ++ [sv]) ∧ Kf (Rm q fv ov) w (w2.setCell ⟨q, 0, none⟩ fv') ∧ ∀ g ∈ ob fv', g ∈ ob fv ∨ w.heap.size ≤ g := by
  obtain ⟨i, k, hb, hik, hi2⟩ := h.blk
  have hql := lt_of_block hb
  have hqf : some q ≠ fv.ownBlock := fun e => h.ap1.1 (mem_ob.2 e.symm)
  have hb2 : w2.heap[q]? = some (.cells (rcells s fv ov i k) 60 (0, 0)) := (hg.block q hql hqf).trans hb
  have hset : ∀ g, g ≠ q → (w2.setCell ⟨q, 0, none⟩ fv').heap[g]? = w2.heap[g]? := fun g hgq => by rw [Below.heap_setCell _ _ _ _ hgq]
  have hfb : ∀ g ∈ ob fv', g ∈ ob fv ∨ g = w.heap.size + 1 := fun g hm => by
    rcases hv with e | e
    · exact .inl (mem_ob.2 (by rw [← e]; exact mem_ob.1 hm))
    · have := mem_ob.1 hm
      rw [e] at this
      cases this
      exact .inr rfl
  have hovl : ∀ g ∈ ob ov, g < w.heap.size := fun g hm => (h.opn.lt g (mem_ob.1 hm)).2
  have hzl : (s.files.zip ss).length = s.files.length := by rw [List.length_zip, h.len]; omega
  have hzip : (s.files ++ [f]).zip (ss ++ [sv]) = s.files.zip ss ++ [(f, sv)] := by
    rw [List.zip_append h.len.symm]
    rfl
  have hold : ∀ g, g < w.heap.size → g ∉ ob fv → g ≠ q → (w2.setCell ⟨q, 0, none⟩ fv').heap[g]? = w.heap[g]? := fun g hgl hgf hgq => (hset g hgq).trans (hg.block g hgl (fun e => hgf (mem_ob.2 e.symm)))
  refine ⟨⟨⟨i, k, ?_, hik, hi2⟩, ?_, ?_, fun x hx => ?_, ?_, ⟨fun hm => ?_, h.ap1.2.1, fun g hm hm2 => ?_⟩, fun v hvm g hm hm2 => ?_, hok, h.off, h.small⟩, ?_, fun g hm => ?_⟩
  · rw [heap_setCell_same hb2 0 _]
    rfl
  · show (ss ++ [_]).length = (s.files ++ [_]).length
    rw [List.length_append, List.length_append, h.len]
    rfl
  · show World.ownsRow _ 0 92 3 fv' (s.files ++ [_]).length (fcs ((s.files ++ [_]).zip (ss ++ [_])))
    rw [hzip]
    have e : (s.files ++ [f]).length = (s.files.zip ss ++ [(f, sv)]).length := by rw [List.length_append, List.length_append, hzl]; rfl
    rw [e]
    refine ownsRow_same hr (fun g hgm => hset g (fun e => ?_))
    rcases hfb g (mem_ob.2 hgm) with h1 | h1
    · exact h.ap1.1 (e ▸ h1)
    · omega
  · have hx' : x ∈ s.files.zip ss ++ [(f, sv)] := by rw [← hzip]; exact hx
    rcases List.mem_append.1 hx' with hx' | hx'
    · have h1 := h.set x hx'
      refine ownsRow_same h1 (fun g hgm => ?_)
      have h2 := h.ap2 x.2 (List.of_mem_zip hx').2 g (mem_ob.2 hgm)
      simp only [List.mem_cons, List.mem_append, not_or] at h2
      exact hold g (h1.lt g hgm).2 h2.2.1 h2.1
    · rw [List.mem_singleton.1 hx']
      refine ownsRow_same htx (fun g hgm => ?_)
      have h2 := hap g (mem_ob.2 hgm)
      simp only [List.mem_cons, List.mem_append, not_or] at h2
      exact hold g (htx.lt g hgm).2 h2.2.1 h2.1
  · exact ownsRow_same h.opn (fun g hgm => hold g (h.opn.lt g hgm).2 (fun hm => h.ap1.2.2 g hm (mem_ob.2 hgm)) (fun e => h.ap1.2.1 (e ▸ mem_ob.2 hgm)))
  · rcases hfb q hm with h1 | h1
    · exact h.ap1.1 h1
    · omega
  · rcases hfb g hm with h1 | h1
    · exact h.ap1.2.2 g h1 hm2
    · have := hovl g hm2
      omega
  · have key : g < w.heap.size → g ∉ q :: (ob fv ++ ob ov) → False := fun hgl h3 => by
      simp only [List.mem_cons, List.mem_append, not_or] at h3
      simp only [List.mem_cons, List.mem_append] at hm2
      rcases hm2 with e | e | e
      · exact h3.1 e
      · rcases hfb g e with h4 | h4
        · exact h3.2.1 h4
        · omega
      · exact h3.2.2 e
    rcases List.mem_append.1 hvm with hvm | hvm
    · exact key (h.lt (g := g) (List.mem_append.2 (.inr (List.mem_flatMap.2 ⟨v, hvm, hm⟩)))) (h.ap2 v hvm g hm)
    · rw [List.mem_singleton.1 hvm] at hm
      exact key (htx.lt g (mem_ob.1 hm)).2 (hap g hm)
  · have k1 : Kf (Rm q fv ov) w w2 := ⟨hg.os, hg.tape, hg.output, hg.size, fun g hgl hF => hg.block g hgl (fun e => hF (by have := mem_ob.2 e.symm; simp [Rm, this]))⟩
    exact k1.trans (Kf.set (F := [q]) _ (by simp) _ _) (fun g hm => .inl (by simp at hm; simp [Rm, hm]))
  · rcases hfb g hm with h1 | h1
    · exact .inl h1
    · exact .inr (by omega)
end Go.Proofs.YtojnembakhhgiaaGreat

/- The document's disk: a file settled, its mathematics. -/
namespace Go.Proofs.YtojnembakhhgiaaGreat
open Go.RowKit

theorem rr_erase {ss : List Value} {ix g : Nat} (h : g ∈ Rr (ss.eraseIdx ix)) : g ∈ Rr ss := by
  unfold Rr at h ⊢
  obtain ⟨v, hv1, hv2⟩ := List.mem_flatMap.1 h
  exact List.mem_flatMap.2 ⟨v, List.mem_of_mem_eraseIdx hv1, hv2⟩
def Sst (q b : Nat) (f : Df) (pv fv4 : Value) (W : World) : Prop := W.cell? ⟨q, 0, none⟩ = some fv4 ∧ W.cell? ⟨b, 0, none⟩ = some (.int .i64 (f.no : Int)) ∧ W.cell? ⟨b, 1, none⟩ = some (St f.name) ∧ W.cell? ⟨b, 2, none⟩ = some pv
theorem settle_all {w w1 w2 w4 : World} {q ix : Nat} {s' : Ds} {f : Df} {fv ov : Value} {ss : List Value} {pv : Value} (h1 : Rv w1 q s' fv ov ss) (hk : Kf [q] w w1) (htx : Tx w2 pv (pagesOf s' f)) (hbe : Below w1.heap.size w1 w2) (hob : ∀ g ∈ ob pv, g ∈ Rr ss ∨ w1.heap.size ≤ g) (sv : Value) (hd : Rdrop (w2.alloc (.cells #[.int .i64 (f.no : Int), St f.name, sv] 92)) q s' ss ix f.no w4) (hok : Dok (putF (dropF s' f.no) { f with settled := pagesOf s' f })) :
    w4.heap[w2.heap.size]? = some (.cells #[.int .i64 (f.no : Int), St f.name, sv] 92 (0, 0)) ∧ ∃ a4 n4 c4 a6 n6 c6 w6, (∀ ty, (Builtin.append_ #[57, 57] ty #[.slice a4 n4 c4, .slice (some ⟨w4.heap.size, 0, none⟩) 1 1]).run Tryz.prog ((w4.setCell ⟨w2.heap.size, 2, none⟩ pv).drew.alloc (.cells #[.int .i64 (f.no : Int), St f.name, pv] 92)) = .ok (.slice a6 n6 c6) w6) ∧ Sst q w2.heap.size f pv (.slice a4 n4 c4) (w4.setCell ⟨w2.heap.size, 2, none⟩ pv) ∧ Sst q w2.heap.size f pv (.slice a4 n4 c4) ((w4.setCell ⟨w2.heap.size, 2, none⟩ pv).drew.alloc (.cells #[.int .i64 (f.no : Int), St f.name, pv] 92)) ∧ Sst q w2.heap.size f pv (.slice a4 n4 c4) w6 ∧ w6.frozen? ⟨q, 0, none⟩ = false ∧ Rleft w q fv ov ss (putF (dropF s' f.no) { f with settled := pagesOf s' f }) (w6.setCell ⟨q, 0, none⟩ (.slice a6 n6 c6)) := by
  obtain ⟨fv4, ov4, hv4, hk4, hn4⟩ := hd
  obtain ⟨i1, k1, hq1, _⟩ := h1.blk
  have hql := lt_of_block hq1
  have hq2 : q < w2.heap.size := Nat.lt_of_lt_of_le hql hbe.size
  have hsz3 : (w2.alloc (.cells #[.int .i64 (f.no : Int), St f.name, sv] 92)).heap.size = w2.heap.size + 1 := by simp
  have hb4 : w4.heap[w2.heap.size]? = some (.cells #[.int .i64 (f.no : Int), St f.name, sv] 92 (0, 0)) := (hk4.blk _ (by rw [hsz3]; omega) (by simp; omega)).trans (heap_alloc_new w2 _)
  have hb5 := heap_setCell_same hb4 2 pv
  have hne : ∀ g ∈ Rm q fv4 ov4 ++ Rr (ss.eraseIdx ix), g ≠ w2.heap.size := fun g hg e => by
    rcases List.mem_append.1 hg with h5 | h5
    · rcases List.mem_cons.1 h5 with h6 | h6
      · omega
      · have := hn4 g h6
        omega
    · have := h1.lt (List.mem_append_right _ (rr_erase h5))
      have := hbe.size
      omega
  have hv5 : Rv (w4.setCell ⟨w2.heap.size, 2, none⟩ pv) q (dropF s' f.no) fv4 ov4 (ss.eraseIdx ix) := hv4.same (fun g hg => Below.heap_setCell _ _ _ _ (hne g hg))
  have hpl : ∀ g ∈ ob pv, g < w2.heap.size ∧ g ≠ q := fun g hg => by
    refine ⟨(htx.lt g (mem_ob.1 hg)).2, ?_⟩
    rcases hob g hg with h5 | h5
    · exact h1.not_q (List.mem_append_right _ h5)
    · omega
  have htx5 : Tx (w4.setCell ⟨w2.heap.size, 2, none⟩ pv) pv (pagesOf s' f) := ownsRow_same htx (fun g hg => by
    obtain ⟨p1, p2⟩ := hpl g (mem_ob.2 hg)
    exact (Below.heap_setCell _ _ _ _ (Nat.ne_of_lt p1)).trans ((hk4.blk g (by omega) (by simpa using p2)).trans (Below.heap_alloc _ _ _ p1)))
  have hap : ∀ g ∈ ob pv, g ∉ q :: (ob fv4 ++ ob ov4) := fun g hg hm => by
    obtain ⟨p1, p2⟩ := hpl g hg
    rcases List.mem_cons.1 hm with h6 | h6
    · exact p2 h6
    · have := hn4 g h6
      omega
  obtain ⟨i5, k5, hq5, _⟩ := hv5.blk
  have hzl : ((dropF s' f.no).files.zip (ss.eraseIdx ix)).length = (dropF s' f.no).files.length := by rw [List.length_zip, hv5.len]; omega
  have hfew := hv5.ok.few
  have hrow : (w4.setCell ⟨w2.heap.size, 2, none⟩ pv).drew.ownsRow 0 92 3 fv4 ((dropF s' f.no).files.zip (ss.eraseIdx ix)).length (fcs ((dropF s' f.no).files.zip (ss.eraseIdx ix))) := by rw [hzl]; exact ownsRow_same hv5.fil (fun _ _ => rfl)
  obtain ⟨v6, w6, hrun, hr6, hg6, hv6⟩ := file_more (W := (w4.setCell ⟨w2.heap.size, 2, none⟩ pv).drew) hrow { f with settled := pagesOf s' f } (sv := pv) (tx_one_cell htx5) (by rw [hzl]; omega)
  obtain ⟨a6, c6, hs6⟩ := row_shape hr6
  obtain ⟨a4, c4, hs4⟩ := row_shape hv5.fil
  obtain ⟨m1, m2, m3⟩ := Rv.putf (w2 := w6) hv5 (f := { f with settled := pagesOf s' f }) htx5 hap hok hr6 ⟨hg6.os, hg6.tape, hg6.output, hg6.size, hg6.block⟩ hv6
  have hsz5 : (w4.setCell ⟨w2.heap.size, 2, none⟩ pv).drew.heap.size = w4.heap.size := by
    show (w4.setCell ⟨w2.heap.size, 2, none⟩ pv).heap.size = _
    simp
  have hkq : Kf [q] w w4 := ((hk.trans (below_kf (F := []) hbe) (fun g hg => by simp at hg)).trans (below_kf (F := []) ((Below.refl _ _).alloc (Nat.le_refl _) _)) (fun g hg => by simp at hg)).trans hk4 (fun g hg => .inl hg)
  have hb5' : (w4.setCell ⟨w2.heap.size, 2, none⟩ pv).heap[w2.heap.size]? = some (.cells #[.int .i64 (f.no : Int), St f.name, pv] 92 (0, 0)) := hb5
  have hnf : some q ≠ fv4.ownBlock := fun e => hv5.ap1.1 (mem_ob.2 e.symm)
  have hbf : some w2.heap.size ≠ fv4.ownBlock := fun e => by have := hn4 _ (List.mem_append_left _ (mem_ob.2 e.symm)); omega
  have hb6q : w6.heap[q]? = _ := (hg6.block q (lt_of_block hq5) hnf).trans hq5
  have hb6b : w6.heap[w2.heap.size]? = _ := (hg6.block w2.heap.size (lt_of_block hb5') hbf).trans hb5'
  refine ⟨hb4, a4, (dropF s' f.no).files.length, c4, a6, ((dropF s' f.no).files.zip (ss.eraseIdx ix) ++ [(({ f with settled := pagesOf s' f } : Df), pv)]).length, c6, w6, fun ty => ?_, ?_, ?_, ?_, frozen_of_heap hb6q 0, ?_⟩
  · rw [← hs4, ← hs6, ← hsz5]
    exact hrun ty
  · rw [← hs4]
    exact ⟨(cell_of_heap hq5 0).trans rfl, (cell_of_heap hb5' 0).trans rfl, (cell_of_heap hb5' 1).trans rfl, (cell_of_heap hb5' 2).trans rfl⟩
  · rw [← hs4]
    have hq7 := (Below.heap_alloc (w4.setCell ⟨w2.heap.size, 2, none⟩ pv).drew (.cells #[.int .i64 (f.no : Int), St f.name, pv] 92) _ (lt_of_block hq5)).trans hq5
    have hb7 := (Below.heap_alloc (w4.setCell ⟨w2.heap.size, 2, none⟩ pv).drew (.cells #[.int .i64 (f.no : Int), St f.name, pv] 92) _ (lt_of_block hb5')).trans hb5'
    exact ⟨(cell_of_heap hq7 0).trans rfl, (cell_of_heap hb7 0).trans rfl, (cell_of_heap hb7 1).trans rfl, (cell_of_heap hb7 2).trans rfl⟩
  · rw [← hs4]
    exact ⟨(cell_of_heap hb6q 0).trans rfl, (cell_of_heap hb6b 0).trans rfl, (cell_of_heap hb6b 1).trans rfl, (cell_of_heap hb6b 2).trans rfl⟩
  · rw [← hs6]
    have hz : w.heap.size ≤ w2.heap.size := Nat.le_trans hk.size hbe.size
    refine ⟨v6, ov4, _, m1, ?_, fun g hg => ?_⟩
    · refine ((hkq.more (G := Rm q fv ov) (fun g hg => by simp at hg; simp [Rm, hg])).trans (Kf.set (F := [w2.heap.size]) _ (by simp) _ _) (fun g hg => .inr (by simp at hg; omega))).trans m2 (fun g hg => ?_)
      rcases List.mem_cons.1 hg with h6 | h6
      · exact .inl (by simp [Rm, h6])
      · have := hn4 g h6
        exact .inr (by omega)
    · have hw4 := hk4.size
      rcases List.mem_append.1 hg with h5 | h5
      · rcases List.mem_cons.1 h5 with h6 | h6
        · left; rw [h6]; simp [Rm]
        · right
          rcases List.mem_append.1 h6 with h7 | h7
          · rcases m3 g h7 with h8 | h8
            · have := hn4 g (List.mem_append_left _ h8)
              omega
            · have h9 : w4.heap.size ≤ g := by rw [← hsz5]; exact h8
              omega
          · have := hn4 g (List.mem_append_right _ h7)
            omega
      · unfold Rr at h5
        rw [List.flatMap_append] at h5
        rcases List.mem_append.1 h5 with h6 | h6
        · exact .inl (List.mem_append_right _ (rr_erase h6))
        · simp only [List.flatMap_cons, List.flatMap_nil, List.append_nil] at h6
          rcases hob g h6 with h7 | h7
          · exact .inl (List.mem_append_right _ h7)
          · exact .inr (Nat.le_trans hk.size h7)
end Go.Proofs.YtojnembakhhgiaaGreat

/- The document's disk: Sync, the walk. -/
namespace Go.Proofs.YtojnembakhhgiaaGreat
open Go.RowKit

theorem load87 {w : World} {b : Nat} {x y z : Value} (hx : ∃ n, x = .int .i64 n) (hy : ∃ t, y = St t) (hz : ∃ a n c, z = .slice a n c) (h0 : w.cell? ⟨b, 0, none⟩ = some x) (h1 : w.cell? ⟨b, 1, none⟩ = some y) (h2 : w.cell? ⟨b, 2, none⟩ = some z) : (Instr.loadAt 92 (.pointer (some ⟨b, 0, none⟩))).run Tryz.prog w = .ok (.agg #[x, y, z]) w := by
  obtain ⟨n, rfl⟩ := hx
  obtain ⟨t, rfl⟩ := hy
  obtain ⟨a, m, c, rfl⟩ := hz
  go_simp
def sy0 : Oper := { dst := some 35, op := Go.Op.move (Go.Operand.tmp 0), type := 26, pos := "ref.go:207", after := #[], guard := none }
def sy1 : Oper := { dst := some 36, op := Go.Op.move (Go.Operand.tmp 0), type := 26, pos := "ref.go:207", after := #[], guard := none }
def sy2 : Oper := { dst := some 37, op := Go.Op.nilCheck (Go.Operand.tmp 36), type := 0, pos := "ref.go:207", after := #[{ on := 1, ground := Go.Ground.data }], guard := none }
def sy3 : Oper := { dst := some 38, op := Go.Op.fieldAddr 60 (Go.Operand.tmp 37) 0, type := 0, pos := "ref.go:207", after := #[{ on := 2, ground := Go.Ground.data }], guard := none }
def sy4 : Oper := { dst := some 39, op := Go.Op.load 57 (Go.Operand.tmp 38), type := 57, pos := "ref.go:207", after := #[{ on := 3, ground := Go.Ground.data }], guard := none }
def sy5 : Oper := { dst := some 40, op := Go.Op.load 92 (Go.Operand.tmp 7), type := 92, pos := "ref.go:207", after := #[], guard := none }
def sy6 : Oper := { dst := some 41, op := Go.Op.buildSlice 57 1 #[(0, Go.Operand.tmp 40)], type := 57, pos := "ref.go:207", after := #[{ on := 5, ground := Go.Ground.data }], guard := none }
def sy7 : Oper := { dst := some 42, op := Go.Op.call { callee := Go.Callee.builtin Go.Builtin.append, args := #[Go.Operand.tmp 39, Go.Operand.tmp 41], argTypes := #[57, 57] }, type := 57, pos := "ref.go:207", after := #[{ on := 4, ground := Go.Ground.data }, { on := 6, ground := Go.Ground.data }], guard := none }
def sy8 : Oper := { dst := some 43, op := Go.Op.nilCheck (Go.Operand.tmp 35), type := 0, pos := "ref.go:207", after := #[{ on := 0, ground := Go.Ground.data }, { on := 0, ground := Go.Ground.phase }, { on := 1, ground := Go.Ground.phase }, { on := 2, ground := Go.Ground.phase }, { on := 3, ground := Go.Ground.phase }, { on := 4, ground := Go.Ground.phase }, { on := 5, ground := Go.Ground.phase }, { on := 6, ground := Go.Ground.phase }, { on := 7, ground := Go.Ground.phase }], guard := none }
def sy9 : Oper := { dst := some 44, op := Go.Op.fieldAddr 60 (Go.Operand.tmp 43) 0, type := 0, pos := "ref.go:207", after := #[{ on := 8, ground := Go.Ground.data }, { on := 0, ground := Go.Ground.phase }, { on := 1, ground := Go.Ground.phase }, { on := 2, ground := Go.Ground.phase }, { on := 3, ground := Go.Ground.phase }, { on := 4, ground := Go.Ground.phase }, { on := 5, ground := Go.Ground.phase }, { on := 6, ground := Go.Ground.phase }, { on := 7, ground := Go.Ground.phase }], guard := none }
def sy10 : Oper := { dst := none, op := Go.Op.store 57 (Go.Operand.tmp 44) (Go.Operand.tmp 42), type := 0, pos := "ref.go:207", after := #[{ on := 9, ground := Go.Ground.data }, { on := 7, ground := Go.Ground.data }, { on := 7, ground := Go.Ground.chain }, { on := 0, ground := Go.Ground.phase }, { on := 1, ground := Go.Ground.phase }, { on := 2, ground := Go.Ground.phase }, { on := 3, ground := Go.Ground.phase }, { on := 4, ground := Go.Ground.phase }, { on := 5, ground := Go.Ground.phase }, { on := 6, ground := Go.Ground.phase }, { on := 7, ground := Go.Ground.phase }], guard := none }

set_option maxRecDepth 100000 in
set_option maxHeartbeats 8000000 in
theorem rsync_any (w : World) (q : Nat) (s : Ds) (fv ov : Value) (ss : List Value) (h : Rv w q s fv ov ss) (hst : s.steps + 1 < 1000000) (hqu : usedN s ≤ s.quota) (t : Bs) :
    Calls Tryz.prog 29 #[.pointer (some ⟨q, 0, none⟩), St t] w fun e w' => e = .returned (.int .i64 ((syncD s t).1 : Int)) ∧ Rleft w q fv ov ss (syncD s t).2 w' := by
  obtain ⟨i0, k0, hb, _⟩ := h.blk
  have c8 : w.cell? ⟨q, 8, none⟩ = some (.bool s.off) := (cell_of_heap hb 8).trans rfl
  have HFI := hid (rfind_any w q s fv ov ss h t)
  have HST : Hid (Rleft w q fv ov ss s w) := hid (Rleft.stay h (Below.refl _ _))
  obtain ⟨R, hR⟩ : ∃ R, R = syncD s t := ⟨_, rfl⟩
  rw [← hR]
  have hok2 := sync_ok h.ok t
  rw [← hR] at hok2
  cases ho : s.off with
  | true =>
    rw [ho] at c8
    have HRE : Hid (R = (7, s)) := hid (by rw [hR]; unfold syncD; rw [if_pos ho])
    clear h hb hR hok2 hqu
    go_enter Tryz.func29, Tryz.ntmps29
    go_wp2_with fail
    go_ret
    rw [HRE.out]
    exact ⟨rfl, HST.out⟩
  | false =>
    rw [ho] at c8
    have hR1 : R = match findF s t with
        | none => (91, s)
        | some f => doD s fun s => putF (dropF s f.no) { f with settled := pagesOf s f } := by
      rw [hR]
      unfold syncD
      rw [if_neg (by rw [ho]; decide)]
      cases findF s t <;> rfl
    cases hf : findF s t with
    | none =>
      rw [fidx_none hf] at HFI
      rw [hf] at hR1
      have HRE : Hid (R = (91, s)) := hid hR1
      clear h hb hR hR1 hf hok2 hqu
      go_enter Tryz.func29, Tryz.ntmps29
      go_wp2_with fail
      refine HFI.out.mono ?_
      rintro e w1 ⟨rfl, hw⟩
      subst hw
      go_wp2_with fail
      go_ret
      rw [HRE.out]
      exact ⟨rfl, HST.out⟩
    | some f =>
      obtain ⟨ix, hix, hfx, hfe⟩ := fidx_some hf
      rw [hfx] at HFI
      rw [hf] at hR1
      have hR2 : R = doD s fun s => putF (dropF s f.no) { f with settled := pagesOf s f } := hR1
      have hi0 : ¬ (ix : Int) < 0 := by omega
      cases hs : stepD s with
      | none =>
        have HSP := hid (rstep_no w q s fv ov ss h hs)
        have HRE : Hid (R = (7, offD s)) := hid (by rw [hR2]; unfold doD; rw [hs])
        have HLE : Hid (∀ w', Rv w' q (offD s) fv ov ss → Kf [q] w w' → Rleft w q fv ov ss (offD s) w') := hid (fun w' h1 h2 => ⟨fv, ov, ss, h1, h2.more (fun g hg => by simp at hg; simp [Rm, hg]), fun g hg => .inl hg⟩)
        clear h hb hR hR1 hR2 hf hs hfx hfe hix hok2 hqu
        go_enter Tryz.func29, Tryz.ntmps29
        go_wp2_with fail
        refine HFI.out.mono ?_
        rintro e w1 ⟨rfl, hw⟩
        subst hw
        go_wp2_with fail
        refine HSP.out.mono ?_
        rintro e w2 ⟨rfl, h1, h2⟩
        have HL := hid (HLE.out w2 h1 h2)
        clear h1 h2
        go_wp2_with fail
        go_ret
        rw [HRE.out]
        exact ⟨rfl, HL.out⟩
      | some s' =>
        have HSP := hid (rstep_yes w q s s' fv ov ss h hs hst)
        have hRE : R = (0, putF (dropF s' f.no) { f with settled := pagesOf s' f }) := by rw [hR2]; unfold doD; rw [hs]
        have HRE := hid hRE
        rw [hRE] at hok2
        obtain ⟨hok, e1, e2, e3, e4, e5, e6⟩ := step_ok h.ok hs
        have hix' : ix < s'.files.length := by rw [e1]; exact hix
        have hfe' : s'.files[ix] = f := by rw [← hfe]; simp only [e1]
        have hfew := hok.few
        have hqs := quo_step hqu h.ok hs
        have HPG : Hid (∀ w1, Rv w1 q s' fv ov ss → ∃ g cap a2 n2 c2, fv = .slice (some ⟨g, 0, none⟩) s'.files.length cap ∧ (Calls Tryz.prog 60 #[.pointer (some ⟨q, 0, none⟩), .int .i64 (ix : Int)] w1 fun e w' => ∃ ao n c, e = .returned (.slice ao n c) ∧ (w'.cell? ⟨q, 0, none⟩ = some fv ∧ w'.cell? ⟨g, ix * 3, none⟩ = some (.int .i64 (f.no : Int)) ∧ w'.cell? ⟨g, ix * 3 + 1, none⟩ = some (St f.name) ∧ w'.cell? ⟨g, ix * 3 + 2, none⟩ = some (.slice a2 n2 c2)) ∧ Tx w' (.slice ao n c) (pagesOf s' f) ∧ Below w1.heap.size w1 w' ∧ ∀ g ∈ ob (.slice ao n c), g ∈ Rr ss ∨ w1.heap.size ≤ g)) := hid (fun w1 h1 => by
          have hzl : (s'.files.zip ss).length = s'.files.length := by rw [List.length_zip, h1.len]; omega
          have hrow : w1.ownsRow 0 92 3 fv (s'.files.zip ss).length ((s'.files.zip ss).flatMap fun x => fc x.1 x.2) := by rw [hzl]; exact h1.fil
          obtain ⟨g, cap, hv, hcap, hcell⟩ := row_cells fc_len hrow (by omega)
          have hxl : ix < (s'.files.zip ss).length := by omega
          have hil : ix < ss.length := by rw [h1.len]; exact hix'
          have hzx : (s'.files.zip ss)[ix] = (f, ss[ix]) := by rw [List.getElem_zip, hfe']
          have htx := h1.set _ (List.getElem_mem hxl)
          rw [hzx] at htx
          obtain ⟨a2, c2, hss⟩ := row_shape htx
          have hc0 := hcell ix hxl 0 (by omega)
          have hc1 := hcell ix hxl 1 (by omega)
          have hc2 := hcell ix hxl 2 (by omega)
          rw [hzx] at hc0 hc1 hc2
          have hgl : g < w1.heap.size := h1.lt (List.mem_append_left _ (List.mem_cons_of_mem _ (List.mem_append_left _ (mem_ob.2 (by rw [hv]; rfl)))))
          obtain ⟨i1, k1, hq1, _⟩ := h1.blk
          refine ⟨g, cap, a2, f.settled.length, c2, by rw [hv, hzl], ?_⟩
          refine (rpages_any w1 q s' fv ov ss h1 hqs ix hix').mono ?_
          rintro e w' ⟨v, he, ht, hB, hg⟩
          rw [hfe'] at ht
          obtain ⟨ao, c, hv2⟩ := row_shape ht
          subst hv2
          have hcg : ∀ o, w'.cell? ⟨g, o, none⟩ = w1.cell? ⟨g, o, none⟩ := fun o => by
            have := hB.block g hgl
            unfold World.cell?
            rw [this]
          refine ⟨ao, _, c, he, ⟨?_, ?_, ?_, ?_⟩, ht, hB, hg⟩
          · exact (cell_of_heap ((hB.block q (lt_of_block hq1)).trans hq1) 0).trans rfl
          · rw [hcg]; exact hc0
          · rw [hcg]; exact hc1
          · rw [hcg, hc2]
            exact congrArg some hss)
        have HDR : Hid (∀ w1 w2 sv, Rv w1 q s' fv ov ss → Below w1.heap.size w1 w2 → Calls Tryz.prog 61 #[.pointer (some ⟨q, 0, none⟩), .int .i64 (ix : Int)] (w2.alloc (.cells #[.int .i64 (f.no : Int), St f.name, sv] 92)) fun e w' => e = .returned (.tuple #[]) ∧ Rdrop (w2.alloc (.cells #[.int .i64 (f.no : Int), St f.name, sv] 92)) q s' ss ix f.no w') := hid (fun w1 w2 sv h1 hB => by
          refine (rdrop_any _ q s' fv ov ss (h1.low (hB.alloc hB.size _)) ix hix').mono ?_
          rintro e w' ⟨he, hd⟩
          rw [hfe'] at hd
          exact ⟨he, hd⟩)
        have HOK := hid hok2
        have hixn : (ix : Int) < (s'.files.length : Int) := by omega
        have hix0 : (0 : Int) ≤ (ix : Int) := by omega
        obtain ⟨n, hn⟩ : ∃ n, n = s'.files.length := ⟨_, rfl⟩
        rw [← hn] at hixn HPG
        clear h hb hR hR1 hR2 hRE hf hs hfx hfe hix hok e1 e2 e3 e4 e5 e6 hix' hfe' hok2 hqu hn hfew hqs
        go_enter Tryz.func29, Tryz.ntmps29
        go_wp2_with fail
        refine HFI.out.mono ?_
        rintro e w0 ⟨rfl, hw⟩
        subst hw
        go_wp2_with fail
        refine HSP.out.mono ?_
        rintro e w1 ⟨rfl, h1, h2⟩
        obtain ⟨g, cap, a2, n2, c2, hfv, hcl⟩ := HPG.out w1 h1
        have HCL := hid hcl
        have HK := hid h2
        have HR1 := hid h1
        clear h1 h2 hcl
        go_wp2_with fail
        refine HCL.out.mono ?_
        rintro e w2 ⟨ao, m, c, rfl, ⟨d0, g0, g1, g2⟩, htx, hbe, hob⟩
        have HD := hid (HDR.out w1 w2 (.slice a2 n2 c2) HR1.out hbe)
        have HTX := hid htx
        have HBE := hid hbe
        have HOB := hid hob
        clear htx hbe hob
        rw [hfv] at d0
        go_wp2_with fail
        refine HD.out.mono ?_
        rintro e w4 ⟨rfl, hd⟩
        obtain ⟨hb4, a4, n4, c4, a6, n6, c6, w6, hrn, s5, s5a, s6, f6, hL⟩ := settle_all HR1.out HK.out HTX.out HBE.out HOB.out _ hd HOK.out
        have b0 : w4.cell? ⟨w2.heap.size, 0, none⟩ = some (.int .i64 (f.no : Int)) := (cell_of_heap hb4 0).trans rfl
        have b1 : w4.cell? ⟨w2.heap.size, 1, none⟩ = some (St f.name) := (cell_of_heap hb4 1).trans rfl
        have b2 : w4.cell? ⟨w2.heap.size, 2, none⟩ = some (.slice a2 n2 c2) := (cell_of_heap hb4 2).trans rfl
        have fb2 : w4.frozen? ⟨w2.heap.size, 2, none⟩ = false := frozen_of_heap hb4 2
        have HRN := hid hrn
        have HS5 := hid s5
        have HSA := hid s5a
        have HS6 := hid s6
        have HF6 := hid f6
        have HL := hid hL
        clear hd hrn s5 s5a s6 f6 hL hb4 d0 g0 g1 g2
        generalize w2.heap.size = b at *
        go_wp2_with fail
        have hs0 : Sst q b f (.slice ao m c) (.slice a4 n4 c4) (w4.setCell ⟨b, 2, none⟩ (.slice ao m c)).drew := HS5.out
        refine region_z (Sst q b f (.slice ao m c) (.slice a4 n4 c4)) 10 (by kernel_rfl) ?_
        refine z_take (i := 0) (oi := sy0) (v := .pointer (some ⟨q, 0, none⟩)) rfl (by kernel_rfl) (by kernel_rfl) (by kernel_rfl) (fun _ _ _ h => h) (by kernel_rfl) (by decide) (y_all rfl (fun _ => rfl)) hs0 ?_
        refine z_take (i := 1) (oi := sy1) (v := .pointer (some ⟨q, 0, none⟩)) rfl (by kernel_rfl) (by kernel_rfl) (by kernel_rfl) (fun _ _ _ h => h) (by kernel_rfl) (by decide) (y_all rfl (fun _ => rfl)) hs0 ?_
        simp only [Act.put, sy0, sy1, List.setIfInBounds_toArray, List.set_cons_zero, List.set_cons_succ]
        refine z_take (i := 2) (oi := sy2) (v := .pointer (some ⟨q, 0, none⟩)) rfl (by kernel_rfl) (by kernel_rfl) (by kernel_rfl) (fun _ _ _ h => h) (by kernel_rfl) (by decide) (y_all rfl (fun _ => rfl)) hs0 ?_
        simp only [Act.put, sy2, List.setIfInBounds_toArray, List.set_cons_zero, List.set_cons_succ]
        refine z_take (i := 3) (oi := sy3) (v := .pointer (some ⟨q, 0, none⟩)) rfl (by kernel_rfl) (by kernel_rfl) (by kernel_rfl) (fun _ _ _ h => h) (by kernel_rfl) (by decide) (y_all rfl (fun _ => by simp only [sy3]; go_simp)) hs0 ?_
        simp only [Act.put, sy3, List.setIfInBounds_toArray, List.set_cons_zero, List.set_cons_succ]
        refine z_take (i := 4) (oi := sy4) (v := .slice a4 n4 c4) rfl (by kernel_rfl) (by kernel_rfl) (by kernel_rfl) (fun _ _ _ h => h) (by kernel_rfl) (by decide) (y_load rfl 57 (.tmp 38) rfl q 0 rfl (fun w hw => load56 hw.1)) hs0 ?_
        refine z_take (i := 5) (oi := sy5) (v := .agg #[.int .i64 (f.no : Int), St f.name, .slice ao m c]) rfl (by kernel_rfl) (by kernel_rfl) (by kernel_rfl) (fun _ _ _ h => h) (by kernel_rfl) (by decide) (y_load rfl 92 (.tmp 7) rfl b 0 rfl (fun w hw => load87 ⟨_, rfl⟩ ⟨_, rfl⟩ ⟨_, _, _, rfl⟩ hw.2.1 hw.2.2.1 hw.2.2.2)) hs0 ?_
        simp only [Act.put, sy4, sy5, List.setIfInBounds_toArray, List.set_cons_zero, List.set_cons_succ]
        refine z_all (rs := [6]) (by kernel_rfl) (by simp) (all1 ?_)
        refine op_ok (o := sy6) rfl rfl (v := .slice (some ⟨w4.heap.size, 0, none⟩) 1 1) (w' := (w4.setCell ⟨b, 2, none⟩ (.slice ao m c)).drew.alloc (.cells #[.int .i64 (f.no : Int), St f.name, .slice ao m c] 92)) (by simp only [sy6]; go_simp) ?_
        have hs0 := HSA.out
        refine ⟨fun _ => hs0, ?_⟩
        simp only [Act.put, sy6, List.setIfInBounds_toArray, List.set_cons_zero, List.set_cons_succ]
        refine z_all (rs := [7]) (by kernel_rfl) (by simp) (all1 ?_)
        refine op_append (o := sy7) (v' := .slice a6 n6 c6) (w' := w6) rfl rfl (.tmp 39) (.tmp 41) 57 rfl (by rfl) (by rfl) HRN.out ?_
        have hs0 := HS6.out
        refine ⟨fun _ => hs0, ?_⟩
        simp only [Act.put, sy7, List.setIfInBounds_toArray, List.set_cons_zero, List.set_cons_succ]
        refine z_all (rs := [8]) (by kernel_rfl) (by simp) (all1 ?_)
        refine op_ok (o := sy8) (v := .pointer (some ⟨q, 0, none⟩)) (w' := w6) rfl rfl rfl ?_
        refine ⟨fun _ => hs0, ?_⟩
        simp only [Act.put, sy8, List.setIfInBounds_toArray, List.set_cons_zero, List.set_cons_succ]
        refine z_all (rs := [9]) (by kernel_rfl) (by simp) (all1 ?_)
        refine op_ok (o := sy9) (v := .pointer (some ⟨q, 0, none⟩)) (w' := w6) rfl rfl (by simp only [sy9]; go_simp) ?_
        refine ⟨fun _ => hs0, ?_⟩
        simp only [Act.put, sy9, List.setIfInBounds_toArray, List.set_cons_zero, List.set_cons_succ]
        refine z_all (rs := [10]) (by kernel_rfl) (by simp) (all1 ?_)
        have h00 := hs0.1
        have ff := HF6.out
        refine op_skip (o := sy10) (w' := w6.setCell ⟨q, 0, none⟩ (.slice a6 n6 c6)) rfl rfl (by simp only [sy10]; go_simp) ?_
        refine ⟨fun h => absurd rfl h, ?_⟩
        refine z_done (by kernel_rfl) ?_ _
        simp only [Act.put, sy10]
        clear hs0 h00
        go_wp2_with fail
        go_ret
        rw [HRE.out]
        exact ⟨rfl, HL.out⟩
end Go.Proofs.YtojnembakhhgiaaGreat
