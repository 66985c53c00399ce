import Derived.Test.YtojnembakhhgiaaGreatRsAll
import Derived.Deep.OwnRows
/- The document's disk: a write put behind the others, its mathematics. -/
namespace Go.Proofs.YtojnembakhhgiaaGreat
open Go.RowKit

def addO (s : Ds) (x : Dw) : Ds := { s with opn := s.opn ++ [x] }
theorem Rv.wrote {w w2 : World} {q : Nat} {s : Ds} {fv ov : Value} {ss : List Value} (h : Rv w q s fv ov ss) {x : Dw} (hok : Dok (addO s x)) {ov' : Value} (hr : w2.ownsRow 0 95 3 ov' (s.opn ++ [x]).length (ocs (s.opn ++ [x]))) (hg : w.grownBy w2 ov.ownBlock) (hv : ∀ g ∈ ob ov', g ∈ ob ov ∨ w.heap.size ≤ g) :
    Rv (w2.setCell ⟨q, 1, none⟩ ov') q (addO s x) fv ov' ss ∧ Kf (Rm q fv ov) w (w2.setCell ⟨q, 1, none⟩ ov') ∧ ∀ g ∈ Rm q fv ov' ++ Rr ss, g ∈ Rm q fv ov ++ Rr ss ∨ w.heap.size ≤ g := by
  obtain ⟨i, k, hb, hik, hi2⟩ := h.blk
  have hql := lt_of_block hb
  have hqo : some q ≠ ov.ownBlock := fun e => h.ap1.2.1 (mem_ob.2 e.symm)
  have hb2 : w2.heap[q]? = some (.cells (rcells s fv ov i k) 60 (0, 0)) := (hg.block q hql hqo).trans hb
  have hset : ∀ g, g ≠ q → (w2.setCell ⟨q, 1, none⟩ ov').heap[g]? = w2.heap[g]? := fun g hgq => by rw [Below.heap_setCell _ _ _ _ hgq]
  have hold : ∀ g, g < w.heap.size → g ∉ ob ov → g ≠ q → (w2.setCell ⟨q, 1, none⟩ ov').heap[g]? = w.heap[g]? := fun g hgl hgf hgq => (hset g hgq).trans (hg.block g hgl (fun e => hgf (mem_ob.2 e.symm)))
  have hfl : ∀ g ∈ ob fv, g < w.heap.size := fun g hm => (h.fil.lt g (mem_ob.1 hm)).2
  refine ⟨⟨⟨i, k, ?_, hik, hi2⟩, h.len, ?_, fun y hy => ?_, ?_, ⟨h.ap1.1, fun hm => ?_, fun g hm hm2 => ?_⟩, fun v hvm g hm hm2 => ?_, hok, h.off, h.small⟩, ?_, fun g hm => ?_⟩
  · rw [heap_setCell_same hb2 1 _]
    rfl
  · exact ownsRow_same h.fil (fun g hgm => hold g (h.fil.lt g hgm).2 (h.ap1.2.2 g (mem_ob.2 hgm)) (fun e => h.ap1.1 (e ▸ mem_ob.2 hgm)))
  · have h1 := h.set y hy
    refine ownsRow_same h1 (fun g hgm => ?_)
    have h2 := h.ap2 y.2 (List.of_mem_zip hy).2 g (mem_ob.2 hgm)
    simp only [List.mem_cons, List.mem_append, not_or] at h2
    exact hold g (h1.lt g hgm).2 h2.2.2 h2.1
  · refine ownsRow_same hr (fun g hgm => hset g (fun e => ?_))
    rcases hv g (mem_ob.2 hgm) with h1 | h1
    · exact h.ap1.2.1 (e ▸ h1)
    · omega
  · rcases hv q hm with h1 | h1
    · exact h.ap1.2.1 h1
    · omega
  · rcases hv g hm2 with h1 | h1
    · exact h.ap1.2.2 g hm h1
    · have := hfl g hm
      omega
  · have h3 := h.ap2 v hvm g hm
    have hgl := h.lt (g := g) (List.mem_append.2 (.inr (List.mem_flatMap.2 ⟨v, hvm, hm⟩)))
    simp only [List.mem_cons, List.mem_append, not_or] at h3
    simp only [List.mem_cons, List.mem_append] at hm2
    rcases hm2 with e | e | e
    · exact h3.1 e
    · exact h3.2.1 e
    · rcases hv g e with h4 | h4
      · exact h3.2.2 h4
      · omega
  · have k1 : Kf (Rm q fv ov) w w2 := ⟨hg.os, hg.tape, hg.output, hg.size, fun g hgl hF => hg.block g hgl (fun e => hF (by have := mem_ob.2 e.symm; simp [Rm, this]))⟩
    exact k1.trans (Kf.set (F := [q]) _ (by simp) _ _) (fun g hm => .inl (by simp at hm; simp [Rm, hm]))
  · rcases List.mem_append.1 hm with h5 | h5
    · rcases List.mem_cons.1 h5 with h6 | h6
      · exact .inl (by simp [Rm, h6])
      · rcases List.mem_append.1 h6 with h7 | h7
        · exact .inl (by simp [Rm, h7])
        · rcases hv g h7 with h8 | h8
          · exact .inl (by simp [Rm, h8])
          · exact .inr h8
    · exact .inl (List.mem_append_right _ h5)
end Go.Proofs.YtojnembakhhgiaaGreat

/- The document's disk: the text of a page that is written. -/
namespace Go.Proofs.YtojnembakhhgiaaGreat
open Go.RowKit

/-- so many noughts made -/
theorem make_n (n : Nat) (hn : n ≤ 1000000) (W : World) : (Instr.makeSlice 47 (.int .i64 (n : Int)) (.int .i64 (n : Int))).run Tryz.prog W = .ok (.slice (some ⟨W.heap.size, 0, none⟩) n n) (W.alloc (.cells (bcs (List.replicate n 0)).toArray 5)) := by
  have h := run_make_row' (P := Tryz.prog) 47 5 (.int .u8 0) 1 Tryz.underlying47 Tryz.info5 rfl .i64 .i64 n (by omega) (by omega) W
  rw [h]
  refine congrArg (fun l => Result.ok (Value.slice (some ⟨W.heap.size, 0, none⟩) n n) (W.alloc (.cells l 5))) ?_
  have e : (madeCells #[.int .u8 0] n).toList = bcs (List.replicate n 0) := by rw [toList_madeCells_one]; simp [bcs]
  rw [← e, Array.toArray_toList]
/-- their text -/
theorem text_n (n : Nat) (W : World) : (convert 47 9 (.slice (some ⟨W.heap.size, 0, none⟩) n n)).run Tryz.prog (W.alloc (.cells (bcs (List.replicate n 0)).toArray 5)) = .ok (St (List.replicate n 0)) (W.alloc (.cells (bcs (List.replicate n 0)).toArray 5)) := by
  have := run_convert_bytes_back (P := Tryz.prog) (W.alloc (.cells (bcs (List.replicate n 0)).toArray 5)) 47 9 5 ⟨W.heap.size, 0, none⟩ n (List.replicate n 0) Tryz.underlying47 Tryz.underlying5 Tryz.underlying9 (fun j hj => by
    rw [Addr.add_mid, Nat.zero_add, cell_of_heap (heap_alloc_new W _), List.getElem?_toArray]
    have hj' : j < n := by simpa using hj
    simp [bcs, hj'])
  rw [List.length_replicate] at this
  exact this
/-- the text of bytes that lie there -/
theorem text_br {W : World} {v : Value} {b : Bs} (h : Br W v b) : (convert 47 9 v).run Tryz.prog W = .ok (St b) W := by
  rcases h with ⟨rfl, rfl⟩ | ⟨g, rfl, hr⟩
  · first | kernel_rfl | go_simp
  · exact run_convert_bytes_back (P := Tryz.prog) W 47 9 5 ⟨g, 0, none⟩ b.length b Tryz.underlying47 Tryz.underlying5 Tryz.underlying9 (fun j hj => by
      rw [Addr.add_mid, Nat.zero_add]
      have := hr j (.int .u8 (b[j].toNat : Int)) (by simp [bcs, hj])
      simpa using this)
end Go.Proofs.YtojnembakhhgiaaGreat

/- The document's disk: Write, what its last region meets. -/
namespace Go.Proofs.YtojnembakhhgiaaGreat
open Go.RowKit

/-- what the region reads: the row of writes, the row of files, the file's number, the bytes -/
def Swr (q g ix no : Nat) (fv ov bv : Value) (b : Bs) (W : World) : Prop := W.cell? ⟨q, 1, none⟩ = some ov ∧ W.cell? ⟨q, 0, none⟩ = some fv ∧ W.cell? ⟨g, ix * 3, none⟩ = some (.int .i64 (no : Int)) ∧ Br W bv b
def noughts (b : Bs) : Obj := .cells (bcs (List.replicate (256 - b.length) 0)).toArray 5
theorem write_all {w : World} {q : Nat} {s : Ds} {fv ov bv : Value} {ss : List Value} {b : Bs} (h : Rv w q s fv ov ss) (hbr : ∀ W' : World, (∀ k, k < w.heap.size → k ∉ ob ov → W'.heap[k]? = w.heap[k]?) → Br W' bv b) {ix : Nat} (hi : ix < s.files.length) {x : Dw} (hok : Dok (addO s x)) :
    ∃ g n cap a1 n1 c1 a6 n6 c6 w6, fv = .slice (some ⟨g, 0, none⟩) n cap ∧ ix < n ∧ ov = .slice a1 n1 c1 ∧ (∀ ty, (Builtin.append_ #[58, 58] ty #[.slice a1 n1 c1, .slice (some ⟨w.heap.size + 1, 0, none⟩) 1 1]).run Tryz.prog ((w.drew.alloc (noughts b)).alloc (.cells #[.int .i64 (x.no : Int), .int .i64 (x.at' : Int), St x.pg] 95)) = .ok (.slice a6 n6 c6) w6) ∧ Swr q g ix s.files[ix].no fv ov bv b w.drew ∧ Swr q g ix s.files[ix].no fv ov bv b (w.drew.alloc (noughts b)) ∧ Swr q g ix s.files[ix].no fv ov bv b ((w.drew.alloc (noughts b)).alloc (.cells #[.int .i64 (x.no : Int), .int .i64 (x.at' : Int), St x.pg] 95)) ∧ Swr q g ix s.files[ix].no fv ov bv b w6 ∧ w6.frozen? ⟨q, 1, none⟩ = false ∧ Rleft w q fv ov ss (addO s x) (w6.setCell ⟨q, 1, none⟩ (.slice a6 n6 c6)) := by
  obtain ⟨i, k, hb, _⟩ := h.blk
  have hql := lt_of_block hb
  have hzl : (s.files.zip ss).length = s.files.length := by rw [List.length_zip, h.len]; omega
  have hrow : w.ownsRow 0 92 3 fv (s.files.zip ss).length ((s.files.zip ss).flatMap fun x => fc x.1 x.2) := by rw [hzl]; exact h.fil
  obtain ⟨g, cap, hv, hcap, hcell⟩ := row_cells fc_len hrow (by omega)
  rw [hzl] at hv
  have hc0 := hcell ix (by omega) 0 (by omega)
  rw [List.getElem_zip] at hc0
  have hgm : g ∈ ob fv := mem_ob.2 (by rw [hv]; rfl)
  have hgl : g < w.heap.size := (h.fil.lt g (mem_ob.1 hgm)).2
  have hgo : g ∉ ob ov := h.ap1.2.2 g hgm
  obtain ⟨a1, c1, ho⟩ := row_shape h.opn
  have hopn : s.opn.length ≤ 1000000 := by have := opn_len h.ok; have := h.small.1; omega
  have hS : ∀ W : World, (∀ k, k < w.heap.size → k ∉ ob ov → W.heap[k]? = w.heap[k]?) → Swr q g ix s.files[ix].no fv ov bv b W := fun W hW => by
    have hbq := (hW q hql h.ap1.2.1).trans hb
    refine ⟨(cell_of_heap hbq 1).trans rfl, (cell_of_heap hbq 0).trans rfl, ?_, hbr W hW⟩
    have e : W.cell? ⟨g, ix * 3, none⟩ = w.cell? ⟨g, ix * 3, none⟩ := by
      unfold World.cell?
      rw [hW g hgl hgo]
    rw [e]
    exact hc0
  have h1 : ∀ k, k < w.heap.size → k ∉ ob ov → (w.drew.alloc (noughts b)).heap[k]? = w.heap[k]? := fun k hk _ => Below.heap_alloc w.drew _ _ hk
  have hz1 : (w.drew.alloc (noughts b)).heap.size = w.heap.size + 1 := by
    have : (w.drew.alloc (noughts b)).heap.size = w.drew.heap.size + 1 := by simp
    exact this
  have h2 : ∀ k, k < w.heap.size → k ∉ ob ov → ((w.drew.alloc (noughts b)).alloc (.cells #[.int .i64 (x.no : Int), .int .i64 (x.at' : Int), St x.pg] 95)).heap[k]? = w.heap[k]? := fun k hk hn => (Below.heap_alloc _ _ _ (by rw [hz1]; omega)).trans (h1 k hk hn)
  have hrow1 : (w.drew.alloc (noughts b)).ownsRow 0 95 3 ov s.opn.length (ocs s.opn) := ownsRow_same h.opn (fun k hk => Below.heap_alloc w.drew _ _ (h.opn.lt k hk).2)
  obtain ⟨v6, w6, hrun, hr6, hg6, hv6⟩ := open_more (W := w.drew.alloc (noughts b)) hrow1 x hopn
  obtain ⟨a6, c6, hs6⟩ := row_shape hr6
  have hg : w.grownBy w6 ov.ownBlock := by
    have := (World.grownBy_alloc w.drew (noughts b) ov.ownBlock).trans hg6
    exact ⟨this.os, this.tape, this.output, this.size, this.block⟩
  have hv : ∀ k ∈ ob v6, k ∈ ob ov ∨ w.heap.size ≤ k := fun k hk => by
    rcases hv6 with e | e
    · exact .inl (mem_ob.2 (by rw [← e]; exact mem_ob.1 hk))
    · have h3 := mem_ob.1 hk
      rw [e] at h3
      cases h3
      exact .inr (by rw [hz1]; omega)
  obtain ⟨m1, m2, m3⟩ := h.wrote (x := x) hok hr6 hg hv
  have h6 : ∀ k, k < w.heap.size → k ∉ ob ov → w6.heap[k]? = w.heap[k]? := fun k hk hn => hg.block k hk (fun e => hn (mem_ob.2 e.symm))
  refine ⟨g, s.files.length, cap, a1, s.opn.length, c1, a6, (s.opn ++ [x]).length, c6, w6, by assumption, hi, ho, fun ty => ?_, hS _ (fun _ _ _ => rfl), hS _ h1, hS _ h2, hS _ h6, frozen_of_heap ((h6 q hql h.ap1.2.1).trans hb) 1, ?_⟩
  · rw [← ho, ← hs6, ← hz1]
    exact hrun ty
  · rw [← hs6]
    exact ⟨fv, v6, ss, m1, m2, m3⟩
end Go.Proofs.YtojnembakhhgiaaGreat
