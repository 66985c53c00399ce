/- A step of the disk. -/
import Derived.Test.YtojnembakhhgiaaGreatView
namespace Go.Proofs.YtojnembakhhgiaaGreat
open Go.RowKit

/-- the blocks of a disk -/
def Fp (d : Nat) (mb : Option Nat) (ms : List Fm) : List Nat := d :: (mb.toList ++ ms.flatMap Fm.blocks)
/-- all but the blocks F is as it was -/
structure Kf (F : List Nat) (w w' : World) : Prop where
  os : w'.os = w.os
  tape : w'.tape = w.tape
  output : w'.output = w.output
  size : w.heap.size ≤ w'.heap.size
  blk : ∀ g, g < w.heap.size → g ∉ F → w'.heap[g]? = w.heap[g]?
theorem Kf.refl (F : List Nat) (w : World) : Kf F w w := ⟨rfl, rfl, rfl, Nat.le_refl _, fun _ _ _ => rfl⟩
theorem Kf.set {F : List Nat} (w : World) {g : Nat} (hg : g ∈ F) (o : Nat) (v : Value) : Kf F w (w.setCell ⟨g, o, none⟩ v) :=
  ⟨rfl, rfl, rfl, by simp [World.setCell], fun k _ hk => Below.heap_setCell _ _ _ _ (fun e => hk (e ▸ hg))⟩
/-- two steps: what is new in the first may be touched by the second -/
theorem Kf.trans {F G : List Nat} {w w1 w2 : World} (h : Kf F w w1) (h2 : Kf G w1 w2) (hs : ∀ g ∈ G, g ∈ F ∨ w.heap.size ≤ g) : Kf F w w2 :=
  ⟨h2.os.trans h.os, h2.tape.trans h.tape, h2.output.trans h.output, Nat.le_trans h.size h2.size, fun g hg hF => (h2.blk g (Nat.lt_of_lt_of_le hg h.size) (fun hG => by
    rcases hs g hG with h3 | h3
    · exact hF h3
    · omega)).trans (h.blk g hg hF)⟩
theorem heap_setCell_same {w : World} {b : Nat} {cs : Array Value} {t : TypeId} (h : w.heap[b]? = some (.cells cs t (0, 0))) (o : Nat) (v : Value) :
    (w.setCell ⟨b, o, none⟩ v).heap[b]? = some (.cells (cs.setIfInBounds o v) t (0, 0)) := by
  simp [World.setCell, Array.getElem?_modify, h]
theorem ownsRow_same {w w' : World} {base : Nat} {e : TypeId} {size : Nat} {v : Value} {n : Nat} {xs : List Value} (h : w.ownsRow base e size v n xs) (hh : ∀ g, v.ownBlock = some g → w'.heap[g]? = w.heap[g]?) : w'.ownsRow base e size v n xs := by
  obtain ⟨h1, h2⟩ := h
  refine ⟨h1, ?_⟩
  rcases h2 with h2 | ⟨g, cap, cur, e1, e2, e3, e4⟩
  · exact Or.inl h2
  · refine Or.inr ⟨g, cap, cur, e1, e2, ?_, e4⟩
    rw [hh g (by rw [e1]; rfl)]
    exact e3
theorem ob_mem {v : Value} {g : Nat} (h : v.ownBlock = some g) : g ∈ ob v := by unfold ob; rw [h]; simp
theorem FileAt.same {w w' : World} {pages settled : List Bs} {ws : List Dw} {m : Fm} (h : FileAt w pages settled ws m) (hh : ∀ g ∈ m.blocks, w'.heap[g]? = w.heap[g]?) : FileAt w' pages settled ws m :=
  ⟨(hh _ (by simp [Fm.blocks])).trans h.blk, ownsRow_same h.pg (fun g e => hh g (by have := ob_mem e; simp [Fm.blocks, this])), ownsRow_same h.st (fun g e => hh g (by have := ob_mem e; simp [Fm.blocks, this])), ownsRow_same h.op (fun g e => hh g (by have := ob_mem e; simp [Fm.blocks, this]))⟩
/-- the cells of a disk's own block -/
def dcs (s : Ds) (mb : Option Nat) : Array Value := #[.int .i64 (s.quota : Int), .map mb, .int .i64 (s.steps : Int), .bool s.set, .int .i64 (s.inn : Int), .int .u64 (s.keep : Int), .bool s.off]
/-- a disk whose own block alone is another one -/
theorem Dv.upd {w w' : World} {d : Nat} {s s' : Ds} {mb : Option Nat} {ms : List Fm} (h : Dv w d s mb ms) (hf : s'.files = s.files) (ho : s'.opn = s.opn) (hok : Dok s') (hsm : s'.steps < 1000000 ∧ s'.inn < 9223372036854775808 ∧ s'.keep < 18446744073709551616) (hblk : w'.heap[d]? = some (.cells (dcs s' mb) 56 (0, 0))) (hr : ∀ g, g ∈ mb.toList ++ ms.flatMap Fm.blocks → w'.heap[g]? = w.heap[g]?) : Dv w' d s' mb ms := by
  refine ⟨hblk, by rw [hf]; exact h.len, fun i hi hi' => ?_, fun b e => ?_, fun e => by rw [hf]; exact h.nomap e, h.apart, hok, hsm⟩
  · have h1 : i < s.files.length := by rw [← hf]; exact hi
    have h2 := h.fil i h1 hi'
    have e1 : s'.files[i] = s.files[i] := by simp only [hf]
    rw [e1]
    have e2 : pagesOf s' s.files[i] = pagesOf s s.files[i] := by unfold pagesOf; rw [ho]
    rw [e2, ho]
    exact h2.same (fun g hg => hr g (List.mem_append.2 (.inr (List.mem_flatMap.2 ⟨ms[i], List.getElem_mem hi', hg⟩))))
  · have e1 : namesOf s' ms = namesOf s ms := by unfold namesOf; rw [hf]
    rw [e1]
    exact (h.map b e).same (hr b (by rw [e]; simp))
theorem Dv.same {w w' : World} {d : Nat} {s : Ds} {mb : Option Nat} {ms : List Fm} (h : Dv w d s mb ms) (hr : ∀ g ∈ Fp d mb ms, w'.heap[g]? = w.heap[g]?) : Dv w' d s mb ms :=
  h.upd rfl rfl h.ok h.small ((hr d (by simp [Fp])).trans h.blk) (fun g hg => hr g (List.mem_cons.2 (.inr hg)))
theorem Dv.not_d {w : World} {d : Nat} {s : Ds} {mb : Option Nat} {ms : List Fm} (h : Dv w d s mb ms) {g : Nat} (hg : g ∈ mb.toList ++ ms.flatMap Fm.blocks) : g ≠ d := fun e => (List.nodup_cons.1 h.apart).1 (e ▸ hg)
theorem new_any (w : World) (q : Int) : Calls Tryz.prog 6 #[.int .i64 q] w fun e w' => e = .returned (.pointer (some ⟨w.heap.size, 0, none⟩)) ∧ Dv w' w.heap.size (newD q) none [] ∧ Below w.heap.size w w' := by
  have HD : Hid (∀ x : Int, x = min (max q 0) 65536 → Dv (w.alloc (.cells #[.int .i64 x, .map none, .int .i64 0, .bool false, .int .i64 0, .int .u64 0, .bool false] 56)) w.heap.size (newD q) none []) := hid (fun x hx => by
    refine ⟨?_, rfl, fun i hi => (by simp [newD] at hi), fun b e => (by cases e), fun _ => rfl, by simp, new_ok q, ⟨by show 0 < 1000000; omega, by show 0 < 9223372036854775808; omega, by show 0 < 18446744073709551616; omega⟩⟩
    rw [heap_alloc_new]
    show _ = some (Obj.cells #[.int .i64 (((min (max q 0) 65536).toNat : Nat) : Int), .map none, .int .i64 ((0 : Nat) : Int), .bool false, .int .i64 ((0 : Nat) : Int), .int .u64 ((0 : Nat) : Int), .bool false] 56 (0, 0))
    rw [← hx, show (x.toNat : Int) = x by omega]
    rfl)
  go_enter Tryz.func6, Tryz.ntmps6
  go_wp2_with fail
  all_goals
    go_ret
    exact ⟨rfl, HD.out _ (by omega), (Below.refl _ _).alloc (Nat.le_refl _) _⟩
/-- Fail -/
theorem fail_any (w : World) (d : Nat) (s : Ds) (mb : Option Nat) (ms : List Fm) (h : Dv w d s mb ms) (i : Int) (hi : i < 9223372036854775808) (k : Nat) (hk : k < 18446744073709551616) :
    Calls Tryz.prog 14 #[.pointer (some ⟨d, 0, none⟩), .int .i64 i, .int .u64 (k : Int)] w fun e w' => e = .returned (.tuple #[]) ∧ Dv w' d (failD s i k) mb ms ∧ Kf [d] w w' := by
  have HR := hid (ready_any w d s mb ms h)
  have HD := hid h
  have c3 : w.cell? ⟨d, 3, none⟩ = some (.bool s.set) := (cell_of_heap h.blk 3).trans rfl
  have c4 : w.cell? ⟨d, 4, none⟩ = some (.int .i64 (s.inn : Int)) := (cell_of_heap h.blk 4).trans rfl
  have c5 : w.cell? ⟨d, 5, none⟩ = some (.int .u64 (s.keep : Int)) := (cell_of_heap h.blk 5).trans rfl
  have f3 := frozen_of_heap h.blk 3
  have f4 := frozen_of_heap h.blk 4
  have f5 := frozen_of_heap h.blk 5
  clear h
  cases ho : s.off with
  | true =>
    rw [ho] at HR
    have HE : Hid (failD s i k = s) := hid (by unfold failD; rw [if_pos ho])
    clear ho
    go_enter Tryz.func14, Tryz.ntmps14
    go_wp2_with fail
    refine HR.out.mono ?_
    rintro e w1 ⟨rfl, hw⟩
    subst hw
    go_wp2_with fail
    refine bodyPost_ret (results_none rfl _ _ _) rfl ?_
    exact ⟨rfl, by rw [HE.out]; exact HD.out, Kf.refl _ _⟩
  | false =>
    rw [ho] at HR
    have HE : Hid (∀ x : Int, x = max i 0 → Dv (((w.setCell ⟨d, 3, none⟩ (.bool true)).setCell ⟨d, 4, none⟩ (.int .i64 x)).setCell ⟨d, 5, none⟩ (.int .u64 (k : Int))) d (failD s i k) mb ms) := hid (fun x hx => by
      have e1 : failD s i k = { s with set := true, inn := (max i 0).toNat, keep := k } := by unfold failD; rw [if_neg (by rw [ho]; decide)]
      refine HD.out.upd (by rw [e1]) (by rw [e1]) (fail_ok HD.out.ok i k) (by rw [e1]; have := HD.out.small; refine ⟨this.1, ?_, hk⟩; show (max i 0).toNat < _; omega) ?_ (fun g hg => ?_)
      · rw [heap_setCell_same (heap_setCell_same (heap_setCell_same HD.out.blk 3 _) 4 _) 5 _, e1]
        show some (Obj.cells #[.int .i64 (s.quota : Int), .map mb, .int .i64 (s.steps : Int), .bool true, .int .i64 x, .int .u64 (k : Int), .bool s.off] 56 (0, 0)) = some (Obj.cells #[.int .i64 (s.quota : Int), .map mb, .int .i64 (s.steps : Int), .bool true, .int .i64 (((max i 0).toNat : Nat) : Int), .int .u64 (k : Int), .bool s.off] 56 (0, 0))
        rw [← hx, show (x.toNat : Int) = x by omega]
      · have hne := HD.out.not_d hg
        rw [Below.heap_setCell _ _ _ _ hne, Below.heap_setCell _ _ _ _ hne, Below.heap_setCell _ _ _ _ hne])
    have HK : Hid (∀ x : Int, Kf [d] w (((w.setCell ⟨d, 3, none⟩ (.bool true)).setCell ⟨d, 4, none⟩ (.int .i64 x)).setCell ⟨d, 5, none⟩ (.int .u64 (k : Int)))) := hid (fun x => ((Kf.set w (by simp) _ _).trans (Kf.set _ (List.mem_singleton.2 rfl) _ _) (fun g hg => .inl hg)).trans (Kf.set _ (List.mem_singleton.2 rfl) _ _) (fun g hg => .inl hg))
    clear ho
    go_enter Tryz.func14, Tryz.ntmps14
    go_wp2_with fail
    refine HR.out.mono ?_
    rintro e w1 ⟨rfl, hw⟩
    subst hw
    go_wp2_with fail
    all_goals
      go_end0
      exact ⟨rfl, HE.out _ (by omega), HK.out _⟩
/-- a step when the power fails -/
theorem step_crash (w : World) (d : Nat) (s : Ds) (mb : Option Nat) (ms : List Fm) (h : Dv w d s mb ms) (hs : stepD s = none) (f : Value) :
    Calls Tryz.prog 44 #[.pointer (some ⟨d, 0, none⟩), f] w fun e w' => e = .returned (.int .i64 7) ∧ Dv w' d (offD s) mb ms ∧ Kf [d] w w' := by
  have hc : s.set = true ∧ s.inn = 0 := by
    unfold stepD at hs
    split at hs
    · assumption
    · cases hs
  have c3 : w.cell? ⟨d, 3, none⟩ = some (.bool true) := by rw [cell_of_heap h.blk 3, ← hc.1]; rfl
  have c4 : w.cell? ⟨d, 4, none⟩ = some (.int .i64 0) := by rw [cell_of_heap h.blk 4]; show some (Value.int .i64 (s.inn : Int)) = _; rw [hc.2]; rfl
  have c6 : w.cell? ⟨d, 6, none⟩ = some (.bool s.off) := (cell_of_heap h.blk 6).trans rfl
  have f6 := frozen_of_heap h.blk 6
  have HE : Hid (Dv (w.setCell ⟨d, 6, none⟩ (.bool true)) d (offD s) mb ms) := hid (h.upd rfl rfl (off_ok h.ok) h.small (by rw [heap_setCell_same h.blk 6 _]; rfl) (fun g hg => Below.heap_setCell _ _ _ _ (h.not_d hg)))
  clear h hs hc
  go_enter Tryz.func44, Tryz.ntmps44
  go_wp2_with fail
  go_ret
  exact ⟨rfl, HE.out, Kf.set _ (List.mem_singleton.2 rfl) _ _⟩
/-- the disk when what may happen happens -/
def preD (s : Ds) : Ds := { s with inn := if s.set = true then s.inn - 1 else s.inn }
theorem pre_ok {s : Ds} (h : Dok s) : Dok (preD s) := ⟨h.quota, h.nos, h.names, h.lens, h.few, h.next, h.pgs, h.own, h.rise⟩
/-- a step that happens: what happens is a function of no arguments, with what it holds -/
theorem step_go (w : World) (d : Nat) (s s' : Ds) (mb : Option Nat) (ms : List Fm) (h : Dv w d s mb ms) (hs : stepD s = some s') (k : Nat) (caps : Array Value) (eg : ∀ args w, (callFunc k args).run Tryz.prog w = .ok (.enter k args) w) (Post : World → Prop)
    (HC : ∀ W, Dv W d (preD s) mb ms → Kf [d] w W → Calls Tryz.prog k caps W fun e w' => e = .returned (.tuple #[]) ∧ w'.cell? ⟨d, 2, none⟩ = some (.int .i64 (s.steps : Int)) ∧ w'.frozen? ⟨d, 2, none⟩ = false ∧ Post (w'.setCell ⟨d, 2, none⟩ (.int .i64 ((s.steps + 1 : Nat) : Int)))) :
    Calls Tryz.prog 44 #[.pointer (some ⟨d, 0, none⟩), .func (.func k) #[] caps] w fun e w' => e = .returned (.int .i64 0) ∧ Post w' := by
  have hst := h.small.1
  have hsw : IntKind.i64.wrap ((s.steps : Int) + 1) = ((s.steps + 1 : Nat) : Int) := by rw [IntKind.wrap_i64]; omega
  have c3 : w.cell? ⟨d, 3, none⟩ = some (.bool s.set) := (cell_of_heap h.blk 3).trans rfl
  have c4 : w.cell? ⟨d, 4, none⟩ = some (.int .i64 (s.inn : Int)) := (cell_of_heap h.blk 4).trans rfl
  have f4 := frozen_of_heap h.blk 4
  have HCH := hid HC
  have HD := hid h
  cases hset : s.set with
  | false =>
    have hpre : preD s = s := by unfold preD; rw [if_neg (by rw [hset]; decide)]
    have HG := hid (HC w (by rw [hpre]; exact h) (Kf.refl _ _))
    rw [hset] at c3
    clear h HC HCH HD hs hpre hset
    go_enter Tryz.func44, Tryz.ntmps44
    go_wp2_with fail
    refine HG.out.mono ?_
    rintro e w1 ⟨rfl, q2, q3, hp⟩
    have HP := hid hp
    clear hp HG
    go_wp2_with fail
    go_ret
    exact ⟨rfl, HP.out⟩
  | true =>
    have hn : s.inn ≠ 0 := fun e => by
      unfold stepD at hs
      rw [if_pos ⟨hset, e⟩] at hs
      cases hs
    have hi1 : ¬ (s.inn : Int) = 0 := by omega
    have hi2 : ((s.inn : Int) == 0) = false := by simpa using hi1
    have hi64 := h.small.2.1
    have hiw : IntKind.i64.wrap ((s.inn : Int) - 1) = ((s.inn - 1 : Nat) : Int) := by rw [IntKind.wrap_i64]; omega
    have hpre : preD s = { s with inn := s.inn - 1 } := by unfold preD; rw [if_pos hset]
    have HG := hid (HC (w.setCell ⟨d, 4, none⟩ (.int .i64 ((s.inn - 1 : Nat) : Int))) (h.upd (by rw [hpre]) (by rw [hpre]) (pre_ok h.ok) (by rw [hpre]; have := h.small; refine ⟨this.1, ?_, this.2.2⟩; show s.inn - 1 < _; omega) (by rw [heap_setCell_same h.blk 4 _, hpre]; rfl) (fun g hg => Below.heap_setCell _ _ _ _ (h.not_d hg))) (Kf.set _ (List.mem_singleton.2 rfl) _ _))
    rw [hset] at c3
    generalize ((s.inn - 1 : Nat) : Int) = I at hiw HG
    clear h HC HCH HD hs hpre hset hi64 hn
    go_enter Tryz.func44, Tryz.ntmps44
    go_wp2_with fail
    refine HG.out.mono ?_
    rintro e w1 ⟨rfl, q2, q3, hp⟩
    have HP := hid hp
    clear hp HG
    go_wp2_with fail
    go_ret
    exact ⟨rfl, HP.out⟩
end Go.Proofs.YtojnembakhhgiaaGreat
