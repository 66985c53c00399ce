import Derived.Test.YtojnembakhhgiaaGreatPagAll
import Derived.Maps.AppendAt
import Derived.Deep.MidRow
/- A page more. -/
namespace Go.Proofs.YtojnembakhhgiaaGreat
open Go.RowKit

theorem nought_len : nought.length = 256 := List.length_replicate
theorem zero_is : Tryz.zeroCells83 = (bcs nought).toArray := by kernel_rfl
theorem info78 : (Tryz.prog.info? 83).map (fun i => (i.zero, i.size, i.bytes)) = some (some (.agg Tryz.zeroCells83), 256, 256) := by kernel_rfl
theorem info_get {t : TypeId} {z : Value} {s b : Nat} (h : (Tryz.prog.info? t).map (fun i => (i.zero, i.size, i.bytes)) = some (some z, s, b)) : ∃ i, Tryz.prog.info? t = some i ∧ i.zero = some z ∧ i.size = s ∧ i.bytes = b := by
  cases hi : Tryz.prog.info? t with
  | none => rw [hi] at h; cases h
  | some i =>
    rw [hi] at h
    simp only [Option.map_some, Option.some.injEq, Prod.mk.injEq] at h
    exact ⟨i, rfl, h.1, h.2.1, h.2.2⟩
/-- append, its run known -/
theorem wpList_append_run {P : Program} {w : World} {ops : Array Oper} {rest : List Oper} {o : Oper} {a : Act} {Q : Exit → Act → World → Prop} (hgd : o.guard = none) (s x : Operand) (t : TypeId)
    (ho : o.op = .call { callee := .builtin .append, args := #[s, x], argTypes := #[t, t] }) (v xv v' : Value) (w' : World) (hs : a.eval s = v) (hx : a.eval x = xv)
    (hrun : ∀ ty, (Builtin.append_ #[t, t] ty #[v, xv]).run P w = .ok v' w') (h : wpList P ops Q rest (a.put o.dst v') w') : wpList P ops Q (o :: rest) a w := by
  refine wpList_plain hgd fun K hK => ?_
  unfold Oper.wp
  simp [execOp, ho, resolve, invoke, builtin, hs, hx, hrun, Result.andThen]
  exact hK _ _ h
/-- a page put behind a row of pages -/
theorem page_more {w : World} {v : Value} {l : List Bs} (h : w.ownsRow 0 83 256 v l.length (pcs l)) (q : Bs) (hq : q.length = 256) (hs : l.length ≤ 1000000) :
    ∃ v' w', (∀ ty, (Builtin.append_ #[72, 72] ty #[v, .slice (some ⟨w.heap.size, 0, none⟩) 1 1]).run Tryz.prog (w.alloc (.cells (bcs q).toArray 83)) = .ok v' w') ∧ w'.ownsRow 0 83 256 v' (l ++ [q]).length (pcs (l ++ [q])) ∧ w.grownBy w' v.ownBlock ∧ (v'.ownBlock = v.ownBlock ∨ v'.ownBlock = some (w.heap.size + 1)) := by
  obtain ⟨i0, hi, hz0, hz1, hz2⟩ := info_get info78
  have ha := h.alloc (.cells (bcs q).toArray 83)
  obtain ⟨v', w', h4, h5, h6, _, h7⟩ := run_append_own_at (P := Tryz.prog) (w.alloc (.cells (bcs q).toArray 83)) 0 72 72 83 i0 _ 256 256 Tryz.underlying72 hi hz0 hz1 hz2 zero78 (by decide) v l.length (pcs l) ha ⟨w.heap.size, 0, none⟩ 1 1 (bcs q) (by rw [bcs_len, hq])
    (fun j u hj => by
      rw [Addr.add_mid, Nat.zero_add, cell_of_heap (heap_alloc_new w _), List.getElem?_toArray]
      exact hj) (bcs_one q) (by simp only [maxLen]; omega) (by omega) (Nat.zero_le _)
  have hp : pcs (l ++ [q]) = pcs l ++ bcs q := by
    rw [pcs_app, pcs_cons, show pcs [] = [] from rfl, List.append_nil]
  refine ⟨v', w', fun ty => h4, by rw [hp, List.length_append]; exact h5, (World.grownBy_alloc w _ v.ownBlock).trans h6, ?_⟩
  rcases h7 with h7 | h7
  · exact .inl h7
  · exact .inr (by rw [h7]; simp)
end Go.Proofs.YtojnembakhhgiaaGreat

/- put: a page is laid. -/
namespace Go.Proofs.YtojnembakhhgiaaGreat
open Go.RowKit

/-- while pages are put behind a row that lies in a cell of a file -/
structure Pz (w : World) (p o : Nat) (C : Array Value) (v0 : Value) (T : List Bs) (v : Value) (wr : World) : Prop where
  blk : wr.heap[p]? = some (.cells (C.setIfInBounds o v) 77 (0, 0))
  row : wr.ownsRow 0 83 256 v T.length (pcs T)
  kf : Kf (p :: ob v0) w wr
  own : ∀ g ∈ ob v, g ≠ p ∧ (g ∈ ob v0 ∨ w.heap.size ≤ g)
theorem mem_ob {v : Value} {g : Nat} : g ∈ ob v ↔ v.ownBlock = some g := by
  unfold ob
  cases v.ownBlock <;> simp [eq_comm]
theorem grown_kf' {w w' : World} {v : Value} (h : w.grownBy w' v.ownBlock) : Kf (ob v) w w' := ⟨h.os, h.tape, h.output, h.size, fun g hg hF => h.block g hg (fun e => hF (mem_ob.2 e.symm))⟩
theorem Pz.more {w : World} {p o : Nat} {C : Array Value} {v0 : Value} {T : List Bs} {v : Value} {wr : World} (h : Pz w p o C v0 T v wr) {q : Bs} {v' : Value} {w1 : World} (ho : w1.ownsRow 0 83 256 v' (T ++ [q]).length (pcs (T ++ [q]))) (hg : wr.grownBy w1 v.ownBlock) (hv : v'.ownBlock = v.ownBlock ∨ v'.ownBlock = some (wr.heap.size + 1)) :
    Pz w p o C v0 (T ++ [q]) v' (w1.setCell ⟨p, o, none⟩ v') := by
  have hp : p < wr.heap.size := lt_of_block h.blk
  have hpv : some p ≠ v.ownBlock := fun e => (h.own p (mem_ob.2 e.symm)).1 rfl
  have hb1 : w1.heap[p]? = some (.cells (C.setIfInBounds o v) 77 (0, 0)) := (hg.block p hp hpv).trans h.blk
  have hov : ∀ g ∈ ob v', g ≠ p ∧ (g ∈ ob v0 ∨ w.heap.size ≤ g) := fun g hgm => by
    have e := mem_ob.1 hgm
    rcases hv with hv | hv
    · exact h.own g (mem_ob.2 (hv ▸ e))
    · rw [hv] at e
      cases e
      exact ⟨by omega, .inr (by have := h.kf.size; omega)⟩
  refine ⟨?_, ownsRow_same ho (fun g hgv => ?_), (h.kf.trans (grown_kf' hg) (fun g hgm => ?_)).trans (Kf.set (F := [p]) w1 (by simp) _ _) (fun g hgm => .inl (by simp at hgm; simp [hgm])), hov⟩
  · rw [heap_setCell_same hb1, Array.setIfInBounds_setIfInBounds]
  · have := (hov g (mem_ob.2 hgv)).1
    exact Below.heap_setCell _ _ _ _ this
  · rcases (h.own g hgm).2 with h1 | h1
    · exact .inl (by simp [h1])
    · exact .inr h1
end Go.Proofs.YtojnembakhhgiaaGreat

/- put: a page of noughts is built. -/
namespace Go.Proofs.YtojnembakhhgiaaGreat
open Go.RowKit
theorem build68 (W : World) : (Instr.buildSlice 72 1 #[(0, .agg Tryz.zeroCells83)]).run Tryz.prog W = .ok (.slice (some ⟨W.heap.size, 0, none⟩) 1 1) (W.alloc (.cells Tryz.zeroCells83 83)) := by
  kernel_rfl
/-- a row of one page of noughts is built -/
theorem wp_build68 {op : Oper} {a : Act} {w : World} {K : Act → World → Prop} {Q : Exit → Act → World → Prop} (x : Operand) (ho : op.op = .buildSlice 72 1 #[(0, x)]) (hx : a.eval x = .agg Tryz.zeroCells83) (h : K (a.put op.dst (.slice (some ⟨w.heap.size, 0, none⟩) 1 1)) (w.alloc (.cells Tryz.zeroCells83 83))) : op.wp Tryz.prog a w K Q := by
  have := build68 w
  unfold Oper.wp execOp
  simp only [ho, List.map_toArray, List.map_cons, List.map_nil, hx, Sem.run_bind, Sem.run_pure, this, Result.andThen_ok]
  exact h
end Go.Proofs.YtojnembakhhgiaaGreat

/- A page is stored in its place. -/
namespace Go.Proofs.YtojnembakhhgiaaGreat
open Go.RowKit

theorem page_set {w : World} {g cap : Nat} {T : List Bs} (h : w.ownsRow 0 83 256 (.slice (some ⟨g, 0, none⟩) T.length cap) T.length (pcs T)) (hT : ∀ x ∈ T, x.length = 256) (k : Nat) (hk : k < T.length) (q : Bs) (hq : q.length = 256) :
    w.there g (k * 256) 256 ∧ (w.setCells g (k * 256) (bcs q)).ownsRow 0 83 256 (.slice (some ⟨g, 0, none⟩) T.length cap) T.length (pcs (T.set k q)) := by
  rcases h.2 with ⟨h1, h2⟩ | ⟨g', cap', cur, h1, h2, h3, h4, h5, h6, h7⟩
  · omega
  · cases h1
    have hsz : k * 256 + 256 ≤ cur.size := by rw [h6]; omega
    have hA : (pcs (T.take k)).length = k * 256 := by
      rw [pcs_len (fun x hx => hT x (List.mem_of_mem_take hx)), List.length_take]
      congr 1
      omega
    have hS : T = T.take k ++ T[k] :: T.drop (k + 1) := by rw [List.getElem_cons_drop, List.take_append_drop]
    have hB : (bcs T[k]).length = 256 := by rw [bcs_len]; exact hT _ (List.getElem_mem hk)
    have hX : pcs T = pcs (T.take k) ++ (bcs T[k] ++ pcs (T.drop (k + 1))) := by
      conv => lhs; rw [hS]
      rw [pcs_app, pcs_cons]
    obtain ⟨A, eA⟩ : ∃ A, A = pcs (T.take k) := ⟨_, rfl⟩
    obtain ⟨B, eB⟩ : ∃ B, B = bcs T[k] := ⟨_, rfl⟩
    obtain ⟨D, eD⟩ : ∃ D, D = pcs (T.drop (k + 1)) := ⟨_, rfl⟩
    have hXl : (pcs T).length = T.length * 256 := h.1
    rw [← eA, ← eB, ← eD] at hX
    rw [← eA] at hA
    rw [← eB] at hB
    obtain ⟨R, eR⟩ : ∃ R, R = cur.toList.drop (T.length * 256) := ⟨_, rfl⟩
    have hcur : cur.toList = A ++ (B ++ (D ++ R)) := by
      rw [← List.take_append_drop (T.length * 256) cur.toList, h7, hX, ← eR, List.append_assoc, List.append_assoc]
    have hY : pcs (T.set k q) = A ++ (bcs q ++ D) := by
      rw [List.set_eq_take_append_cons_drop, if_pos hk, pcs_app, pcs_cons, eA, eD]
    have hl : (A ++ (bcs q ++ D)).length = T.length * 256 := by
      rw [← hXl, hX, List.length_append, List.length_append, List.length_append, List.length_append, bcs_len, hq, hB]
    refine ⟨there_blk h3 hsz, by rw [hY]; exact hl, .inr ⟨g, cap, _, rfl, Nat.zero_le _, heap_cells (bcs q) w g (k * 256) cur 83 h3 (by rw [bcs_len, hq]; exact hsz), h4, h5, ?_, ?_⟩⟩
    · rw [List.size_toArray, List.length_append, List.length_append, List.length_take, List.length_drop, Array.length_toList, bcs_len, hq, ← h6]
      omega
    · show List.take (T.length * 256) (cur.toList.take (k * 256) ++ bcs q ++ cur.toList.drop (k * 256 + (bcs q).length)) = _
      rw [hcur, List.take_left' hA, bcs_len, hq, hY, ← List.append_assoc A B, List.drop_left' (by rw [List.length_append, hA, hB]), List.append_assoc, ← List.append_assoc (bcs q), ← List.append_assoc A, List.take_left' hl]
end Go.Proofs.YtojnembakhhgiaaGreat

/- put: the walk. -/
namespace Go.Proofs.YtojnembakhhgiaaGreat
open Go.RowKit

set_option maxRecDepth 100000 in
set_option maxHeartbeats 4000000 in
theorem put_any (w : World) (p o : Nat) (C : Array Value) (v0 : Value) (l : List Bs) (at' : Nat) (q : Bs) (hblk : w.heap[p]? = some (.cells C 77 (0, 0))) (hv : C[o]? = some v0) (h : w.ownsRow 0 83 256 v0 l.length (pcs l)) (hap : ∀ g ∈ ob v0, g ≠ p) (hpg : ∀ x ∈ l, x.length = 256) (hq : q.length = 256) (hl : l.length ≤ 100000) (hat : at' ≤ 100000) :
    Calls Tryz.prog 71 #[.pointer (some ⟨p, o, none⟩), .int .i64 (at' : Int), .agg (bcs q).toArray] w fun e w' => e = .returned (.tuple #[]) ∧ ∃ v', w'.heap[p]? = some (.cells (C.setIfInBounds o v') 77 (0, 0)) ∧ w'.ownsRow 0 83 256 v' (lay l at' q).length (pcs (lay l at' q)) ∧ Kf (p :: ob v0) w w' ∧ ∀ g ∈ ob v', g ∈ ob v0 ∨ w.heap.size ≤ g := by
  obtain ⟨cs, hcs⟩ : ∃ cs, cs = bcs q := ⟨_, rfl⟩
  rw [← hcs]
  have hcl : cs.length = 256 := by rw [hcs, bcs_len, hq]
  have ho : o < C.size := (Array.getElem?_eq_some_iff.1 hv).1
  obtain ⟨w0, hw0⟩ : ∃ w0, w0 = w.alloc (.cells cs.toArray 83) := ⟨_, rfl⟩
  have hb0 : Below w.heap.size w w0 := hw0 ▸ (Below.refl _ _).alloc (Nat.le_refl _) _
  have hx0 : w0.heap[w.heap.size]? = some (.cells cs.toArray 83 (0, 0)) := by rw [hw0]; exact heap_alloc_new _ _
  have hp : p < w.heap.size := lt_of_block hblk
  have HZ : Hid (Pz w0 p o C v0 l v0 w0) := hid ⟨by
    rw [hb0.block p hp, hblk]
    congr 2
    apply Array.ext_getElem?
    intro i
    rw [Array.getElem?_setIfInBounds]
    split
    · rename_i e
      subst e
      first | (rw [if_pos ho, hv]) | exact hv
    · rfl, ownsRow_same h (fun g hg => hb0.block g (h.lt g hg).2), ⟨rfl, rfl, rfl, Nat.le_refl _, fun _ _ _ => rfl⟩, fun g hg => ⟨hap g hg, .inl hg⟩⟩
  have HOB : Hid (∀ g ∈ ob v0, g < w.heap.size) := hid (fun g hg => (h.lt g (mem_ob.1 hg)).2)
  have HB0 := hid hb0
  have HS : Hid (w.heap.size < w0.heap.size) := hid (by rw [hw0]; simp)
  have HX := hid hx0
  have HCS := hid hcs
  have HO := hid ho
  have HPG := hid hpg
  clear hx0 hb0 hblk hv h hap hcs ho hpg
  go_enter Tryz.func71, Tryz.ntmps71
  go_wp2_with fail
  rw [← hw0]
  clear hw0
  go_loopg [] (at' + 1 - l.length) (fun gg wr => ∃ (v : Value) (k : Nat), gg = at' + 1 - (l.length + k) ∧ (k = 0 ∨ l.length + k ≤ at' + 1) ∧ Pz w0 p o C v0 (l ++ List.replicate k nought) v wr ∧ wr.heap[w.heap.size]? = some (.cells cs.toArray 83 (0, 0)))
  case atStart => exact ⟨v0, 0, rfl, .inl rfl, by simpa using HZ.out, HX.out⟩
  case round =>
    obtain ⟨v, k, rfl, hk, hz, hx⟩ := hrel
    obtain ⟨ao, cap, rfl⟩ := row_shape hz.row
    have hTl : (l ++ List.replicate k nought).length = l.length + k := by simp
    have c0 : wr.cell? ⟨p, o, none⟩ = some (.slice ao (l.length + k) cap) := by
      rw [cell_of_heap hz.blk, Array.getElem?_setIfInBounds, if_pos rfl, if_pos HO.out, hTl]
    by_cases hin : l.length + k ≤ at'
    · have hT6 : (l ++ List.replicate k nought).length ≤ 1000000 := by omega
      obtain ⟨v1, w1, hrun, ho1, hg1, hv1⟩ := page_more hz.row nought nought_len hT6
      rw [← zero_is] at hrun
      rw [hTl] at hrun
      obtain ⟨a1, k1, rfl⟩ := row_shape ho1
      obtain ⟨m, hm⟩ : ∃ m, m = (l ++ List.replicate k nought ++ [nought]).length := ⟨_, rfl⟩
      rw [← hm] at hrun ho1 hv1
      have hz1 := hz.more (by rw [← hm]; exact ho1) hg1 hv1
      have HZ1 := hid hz1
      have HR := hid hrun
      have hsz := HZ.out.kf.size
      have hpw : p < wr.heap.size := lt_of_block hz.blk
      have hpv : some p ≠ (Value.slice ao (l ++ List.replicate k nought).length cap).ownBlock := fun e => (hz.own p (mem_ob.2 e.symm)).1 rfl
      have hb1 := (hg1.block p hpw hpv).trans hz.blk
      have c1 : w1.cell? ⟨p, o, none⟩ = some (.slice ao (l.length + k) cap) := by
        rw [cell_of_heap hb1, Array.getElem?_setIfInBounds, if_pos rfl, if_pos HO.out, hTl]
      have f1 : w1.frozen? ⟨p, o, none⟩ = false := frozen_of_heap hb1 _
      have HX1 : Hid ((w1.setCell ⟨p, o, none⟩ (.slice a1 m k1)).heap[w.heap.size]? = some (.cells cs.toArray 83 (0, 0))) := hid (by
        rw [Below.heap_setCell _ _ _ _ (by omega : w.heap.size ≠ p), hg1.block w.heap.size (lt_of_block hx) (fun e => ?_)]
        · exact hx
        · rcases (hz.own w.heap.size (mem_ob.2 e.symm)).2 with h3 | h3
          · have := HOB.out _ h3; omega
          · have := HS.out; omega)
      have HIN := hid hin
      have hin2 : ((l.length + k : Nat) : Int) ≤ (at' : Int) := by omega
      clear hz hx hz1 hrun ho1 hg1 hv1 hTl hT6 hb1 hpv hpw hsz hm
      obtain ⟨n, hn⟩ : ∃ n, n = l.length + k := ⟨_, rfl⟩
      have HN := hid hn
      rw [← hn] at c0 c1 hin2 HR
      clear hn hin hk
      go_wp2_with fail
      refine wp_build68 (.tmp 18) rfl rfl ?_
      go_wp2_with (first | (at_builtin; refine wpList_append_run rfl _ _ 72 rfl _ _ (.slice a1 m k1) w1 rfl rfl HR.out ?_) | fail)
      go_roundg (at' + 1 - (l.length + (k + 1)))
      case measure => have := HIN.out; omega
      case rel =>
        have h5 := HIN.out
        exact ⟨.slice a1 m k1, k + 1, rfl, .inr (by omega), by rw [List.replicate_succ', ← List.append_assoc]; exact HZ1.out, HX1.out⟩
    · have hT : l ++ List.replicate k nought = l ++ List.replicate (at' + 1 - l.length) nought := by
        congr 2
        omega
      have hP : ∀ x ∈ l ++ List.replicate k nought, x.length = 256 := fun x hx => by
        rcases List.mem_append.1 hx with h1 | h1
        · exact HPG.out x h1
        · rw [(List.mem_replicate.1 h1).2]
          exact nought_len
      have hlay : lay l at' q = (l ++ List.replicate k nought).set at' q := by rw [hT]; rfl
      obtain ⟨T, eT⟩ : ∃ T, T = l ++ List.replicate k nought := ⟨_, rfl⟩
      rw [← eT] at hz hTl hP hlay
      have hkT : at' < T.length := by omega
      obtain ⟨g, _, hv', hjunk, hju2, _⟩ := page_at hz.row hP at' hkT
      cases hv'
      have hrow : wr.drew.ownsRow 0 83 256 (.slice (some ⟨g, 0, none⟩) T.length cap) T.length (pcs T) := ownsRow_same hz.row (fun _ _ => rfl)
      obtain ⟨hth, hset⟩ := page_set hrow hP at' hkT q hq
      have hth : wr.there g (at' * 256) 256 := hth
      have hra : wr.rangeAt w.heap.size 0 cs := fun j u hu => by rw [cell_of_heap hx, Nat.zero_add, List.getElem?_toArray]; exact hu
      rw [← HCS.out] at hset
      have hgo := hz.own g (by simp [ob, Value.ownBlock])
      have HF : Hid (∃ v', (wr.drew.setCells g (at' * 256) cs).heap[p]? = some (.cells (C.setIfInBounds o v') 77 (0, 0)) ∧ (wr.drew.setCells g (at' * 256) cs).ownsRow 0 83 256 v' (lay l at' q).length (pcs (lay l at' q)) ∧ Kf (p :: ob v0) w (wr.drew.setCells g (at' * 256) cs) ∧ ∀ g ∈ ob v', g ∈ ob v0 ∨ w.heap.size ≤ g) := hid (by
        have hkc := kf_cells cs wr.drew g (at' * 256)
        refine ⟨.slice (some ⟨g, 0, none⟩) T.length cap, ?_, ?_, ?_, fun b hb => ?_⟩
        · rw [hkc.blk p (lt_of_block hz.blk) (by simpa using fun e => hgo.1 e.symm)]
          exact hz.blk
        · rw [hlay, List.length_set]
          exact hset
        · have k1 : Kf (p :: ob v0) w0 wr.drew := ⟨hz.kf.os, hz.kf.tape, hz.kf.output, hz.kf.size, hz.kf.blk⟩
          refine ((below_kf HB0.out).trans k1 (fun b hb => .inl hb)).trans hkc (fun b hb => ?_)
          rw [List.mem_singleton.1 hb]
          rcases hgo.2 with h1 | h1
          · exact .inl (by simp [h1])
          · exact .inr (by have := HS.out; omega)
        · have e := mem_ob.1 hb
          cases e
          rcases hgo.2 with h1 | h1
          · exact .inl h1
          · exact .inr (by have := HS.out; show w.heap.size ≤ g; omega))
      have hu := Tryz.underlying83
      have hi : (Tryz.prog.info? 83).map (·.size) = some cs.length := by rw [size78, hcl]
      have h1c : ∀ v ∈ cs, v.oneCell' = true := by rw [HCS.out]; exact bcs_one q
      have hk0 : (0 : Int) ≤ (at' : Int) := Int.natCast_nonneg _
      have hk1 : (at' : Int) < (T.length : Int) := by omega
      rw [← hTl] at c0
      have hin2 : ¬ ((T.length : Nat) : Int) ≤ (at' : Int) := by omega
      have hgw : w.heap.size ≠ g := by
        rcases hgo.2 with h1 | h1
        · have := HOB.out g h1; omega
        · have := HS.out; omega
      have hrp : (wr.drew.setCells g (at' * 256) cs).rangeAt w.heap.size 0 cs := World.rangeAt_setCells_apart (show wr.drew.rangeAt w.heap.size 0 cs from hra) g (at' * 256) cs (.inl hgw)
      have hcp : (wr.drew.setCells g (at' * 256) cs).cell? ⟨p, o, none⟩ = some (.slice (some ⟨g, 0, none⟩) T.length cap) := by
        rw [World.cell?_of_block (w := wr.drew) ((kf_cells cs wr.drew g (at' * 256)).blk p (lt_of_block hz.blk) (by simpa using fun e => hgo.1 e.symm))]
        exact c0
      clear hset hrow hgo hz hx hP hlay hT hk hTl eT hjunk hkT hju2 hin
      generalize T.length = n at *
      go_wp2_with fail
      go_region_held3 (fun w' => w'.rangeAt w.heap.size 0 cs ∧ w'.there g (at' * 256) 256 ∧ w'.cell? ⟨p, o, none⟩ = some (.slice (some ⟨g, 0, none⟩) n cap)) (first | go_keep_ranges | (refine And.intro ?_ (And.intro ?_ ?_) <;> first | assumption | go_keep_ranges)) (fail)
      refine bodyPost_end (results_none rfl _ _ _) rfl ?_
      exact ⟨rfl, HF.out⟩
end Go.Proofs.YtojnembakhhgiaaGreat
