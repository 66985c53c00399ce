/- A disk and the document's disk side by side. -/
import Derived.Test.YtojnembakhhgiaaGreatRzAll
import Derived.Test.YtojnembakhhgiaaGreatRY
import Derived.Test.YtojnembakhhgiaaGreatKmAll
namespace Go.Proofs.YtojnembakhhgiaaGreat
open Go.RowKit

/-- the blocks of K stay -/
structure Kw (K : Nat → Prop) (w w' : World) : Prop where
  os : w'.os = w.os
  tape : w'.tape = w.tape
  output : w'.output = w.output
  size : w.heap.size ≤ w'.heap.size
  blk : ∀ g, K g → w'.heap[g]? = w.heap[g]?
theorem Kw.refl (K : Nat → Prop) (w : World) : Kw K w w := ⟨rfl, rfl, rfl, Nat.le_refl _, fun _ _ => rfl⟩
theorem Kw.trans {K : Nat → Prop} {w w1 w2 : World} (h : Kw K w w1) (h2 : Kw K w1 w2) : Kw K w w2 :=
  ⟨h2.os.trans h.os, h2.tape.trans h.tape, h2.output.trans h.output, Nat.le_trans h.size h2.size, fun g hg => (h2.blk g hg).trans (h.blk g hg)⟩
theorem Kw.less {K K' : Nat → Prop} {w w' : World} (h : Kw K w w') (hs : ∀ g, K' g → K g) : Kw K' w w' := ⟨h.os, h.tape, h.output, h.size, fun g hg => h.blk g (hs g hg)⟩
theorem Kw.cell {K : Nat → Prop} {w w' : World} (h : Kw K w w') {g o : Nat} (hg : K g) : w'.cell? ⟨g, o, none⟩ = w.cell? ⟨g, o, none⟩ := World.cell?_of_block (h.blk g hg)
theorem below_kw {K : Nat → Prop} {w w' : World} (h : Below w.heap.size w w') (hK : ∀ g, K g → g < w.heap.size) : Kw K w w' := ⟨h.os, h.tape, h.output, h.size, fun g hg => h.block g (hK g hg)⟩
theorem kf_kw {F : List Nat} {K : Nat → Prop} {w w' : World} (h : Kf F w w') (hK : ∀ g, K g → g < w.heap.size ∧ g ∉ F) : Kw K w w' := ⟨h.os, h.tape, h.output, h.size, fun g hg => h.blk g (hK g hg).1 (hK g hg).2⟩
/-- the blocks of K and of J stay -/
structure Kj (J K : Nat → Prop) (w w' : World) : Prop where
  os : w'.os = w.os
  tape : w'.tape = w.tape
  output : w'.output = w.output
  size : w.heap.size ≤ w'.heap.size
  blk : ∀ g, K g → w'.heap[g]? = w.heap[g]?
  jlk : ∀ g, J g → w'.heap[g]? = w.heap[g]?
theorem Kj.refl (J K : Nat → Prop) (w : World) : Kj J K w w := ⟨rfl, rfl, rfl, Nat.le_refl _, fun _ _ => rfl, fun _ _ => rfl⟩
theorem Kj.trans {J K : Nat → Prop} {w w1 w2 : World} (h : Kj J K w w1) (h2 : Kj J K w1 w2) : Kj J K w w2 :=
  ⟨h2.os.trans h.os, h2.tape.trans h.tape, h2.output.trans h.output, Nat.le_trans h.size h2.size, fun g hg => (h2.blk g hg).trans (h.blk g hg), fun g hg => (h2.jlk g hg).trans (h.jlk g hg)⟩
theorem Kj.less {J K K' : Nat → Prop} {w w' : World} (h : Kj J K w w') (hs : ∀ g, K' g → K g) : Kj J K' w w' := ⟨h.os, h.tape, h.output, h.size, fun g hg => h.blk g (hs g hg), h.jlk⟩
theorem Kj.cell {J K : Nat → Prop} {w w' : World} (h : Kj J K w w') {g o : Nat} (hg : K g) : w'.cell? ⟨g, o, none⟩ = w.cell? ⟨g, o, none⟩ := World.cell?_of_block (h.blk g hg)
theorem below_kj {J K : Nat → Prop} {w w' : World} (h : Below w.heap.size w w') (hK : ∀ g, K g → g < w.heap.size) (hJ : ∀ g, J g → g < w.heap.size) : Kj J K w w' := ⟨h.os, h.tape, h.output, h.size, fun g hg => h.block g (hK g hg), fun g hg => h.block g (hJ g hg)⟩
theorem kf_kj {F : List Nat} {J K : Nat → Prop} {w w' : World} (h : Kf F w w') (hK : ∀ g, K g → g < w.heap.size ∧ g ∉ F) (hJ : ∀ g, J g → g < w.heap.size ∧ g ∉ F) : Kj J K w w' := ⟨h.os, h.tape, h.output, h.size, fun g hg => h.blk g (hK g hg).1 (hK g hg).2, fun g hg => h.blk g (hJ g hg).1 (hJ g hg).2⟩
/-- a settled text's block is no row of the disk's own -/
theorem Rv.tag {w : World} {q : Nat} {s : Ds} {fv ov : Value} {ss : List Value} (h : Rv w q s fv ov ss) {g : Nat} (hg : g ∈ Rr ss) : ∃ cs, w.heap[g]? = some (.cells cs 9 (0, 0)) := by
  obtain ⟨v, hv, hgv⟩ := List.mem_flatMap.1 hg
  obtain ⟨i, hi, rfl⟩ := List.getElem_of_mem hv
  have hz : (s.files.zip ss)[i]'(by rw [List.length_zip, h.len, Nat.min_self, ← h.len]; exact hi) = (s.files[i]'(by rw [← h.len]; exact hi), ss[i]) := List.getElem_zip
  have ht := h.set _ (List.getElem_mem (l := s.files.zip ss) (n := i) (by rw [List.length_zip, h.len, Nat.min_self, ← h.len]; exact hi))
  rw [hz] at ht
  obtain ⟨_, ⟨e, _⟩ | ⟨g', cap, cur, e, _, hb, _⟩⟩ := ht
  · have e' : ss[i] = .slice none 0 0 := e
    rw [e'] at hgv
    simp [ob, Value.ownBlock] at hgv
  · have e' : ss[i] = .slice (some ⟨g', 0, none⟩) _ cap := e
    rw [e'] at hgv
    have : g = g' := by simpa [ob, Value.ownBlock] using hgv
    exact ⟨cur, this ▸ hb⟩
theorem row_tag {w : World} {e : TypeId} {sz : Nat} {v : Value} {n : Nat} {xs : List Value} (h : w.ownsRow 0 e sz v n xs) {g : Nat} (hg : g ∈ ob v) : ∃ cs, w.heap[g]? = some (.cells cs e (0, 0)) := by
  obtain ⟨_, ⟨e, _⟩ | ⟨g', cap, cur, e, _, hb, _⟩⟩ := h
  · rw [e] at hg
    simp [ob, Value.ownBlock] at hg
  · rw [e] at hg
    have : g = g' := by simpa [ob, Value.ownBlock] using hg
    exact ⟨cur, this ▸ hb⟩
theorem Rv.untag {w : World} {q : Nat} {s : Ds} {fv ov : Value} {ss : List Value} (h : Rv w q s fv ov ss) {g : Nat} (hg : g ∈ Rm q fv ov) {cs : Array Value} (hb : w.heap[g]? = some (.cells cs 9 (0, 0))) : False := by
  unfold Rm at hg
  simp only [List.mem_cons, List.mem_append] at hg
  rcases hg with e | e | e
  · obtain ⟨i, k, h1, _⟩ := h.blk
    rw [e, h1] at hb
    simp at hb
  · obtain ⟨cs', h1⟩ := row_tag h.fil e
    rw [h1] at hb
    simp at hb
  · obtain ⟨cs', h1⟩ := row_tag h.opn e
    rw [h1] at hb
    simp at hb
/-- a pair of disks; K: kept and apart from it; J: kept, and perhaps among what the document's disk only reads -/
structure Pr (J K : Nat → Prop) (w : World) (d q : Nat) (s t : Ds) : Prop where
  ex : ∃ mb ms fv ov ss, Dv w d s mb ms ∧ Rv w q t fv ov ss ∧ ((∀ g ∈ Fp d mb ms, g ∉ Rm q fv ov ++ Rr ss) ∧ ∀ g, J g → g < w.heap.size ∧ g ∉ Fp d mb ms ∧ g ∉ Rm q fv ov) ∧ ∀ g, K g → g < w.heap.size ∧ g ∉ Fp d mb ms ∧ g ∉ Rm q fv ov ++ Rr ss
  qs : usedN s ≤ s.quota
  qt : usedN t ≤ t.quota
theorem Pr.lt {J K : Nat → Prop} {w : World} {d q : Nat} {s t : Ds} (h : Pr J K w d q s t) {g : Nat} (hg : K g) : g < w.heap.size := by
  obtain ⟨mb, ms, fv, ov, ss, _, _, _, h4⟩ := h.ex
  exact (h4 g hg).1
theorem Pr.jt {J K : Nat → Prop} {w : World} {d q : Nat} {s t : Ds} (h : Pr J K w d q s t) {g : Nat} (hg : J g) : g < w.heap.size := by
  obtain ⟨mb, ms, fv, ov, ss, _, _, h3, _⟩ := h.ex
  exact (h3.2 g hg).1
theorem Pr.ok {J K : Nat → Prop} {w : World} {d q : Nat} {s t : Ds} (h : Pr J K w d q s t) : Dok s ∧ Dok t := by
  obtain ⟨mb, ms, fv, ov, ss, h1, h2, _, _⟩ := h.ex
  exact ⟨h1.ok, h2.ok⟩
theorem Pr.less {J K K' : Nat → Prop} {w : World} {d q : Nat} {s t : Ds} (h : Pr J K w d q s t) (hs : ∀ g, K' g → K g) : Pr J K' w d q s t := by
  obtain ⟨mb, ms, fv, ov, ss, h1, h2, h3, h4⟩ := h.ex
  exact ⟨⟨mb, ms, fv, ov, ss, h1, h2, h3, fun g hg => h4 g (hs g hg)⟩, h.qs, h.qt⟩
/-- new memory is apart -/
theorem Pr.grow {J K : Nat → Prop} {w w' : World} {d q : Nat} {s t : Ds} (h : Pr J K w d q s t) (hb : Below w.heap.size w w') : Pr J (fun g => K g ∨ (w.heap.size ≤ g ∧ g < w'.heap.size)) w' d q s t := by
  obtain ⟨mb, ms, fv, ov, ss, h1, h2, h3, h4⟩ := h.ex
  refine ⟨⟨mb, ms, fv, ov, ss, h1.low hb, h2.low hb, ⟨h3.1, fun g hg => ⟨Nat.lt_of_lt_of_le (h3.2 g hg).1 hb.size, (h3.2 g hg).2⟩⟩, fun g hg => ?_⟩, h.qs, h.qt⟩
  rcases hg with hg | hg
  · obtain ⟨a, b, c⟩ := h4 g hg
    exact ⟨Nat.lt_of_lt_of_le a hb.size, b, c⟩
  · exact ⟨hg.2, fun hm => by have := h1.lt hm; omega, fun hm => by have := h2.lt hm; omega⟩
theorem Pr.low {J K : Nat → Prop} {w w' : World} {d q : Nat} {s t : Ds} (h : Pr J K w d q s t) (hb : Below w.heap.size w w') : Pr J K w' d q s t := (h.grow hb).less (fun _ hg => .inl hg)
/-- what lies in the blocks of K may change -/
theorem Pr.own {J K : Nat → Prop} {w w' : World} {d q : Nat} {s t : Ds} (h : Pr J K w d q s t) {g : Nat} (hg : K g) (hk : Kf [g] w w') : Pr J K w' d q s t := by
  obtain ⟨mb, ms, fv, ov, ss, h1, h2, h3, h4⟩ := h.ex
  obtain ⟨a, b, c⟩ := h4 g hg
  refine ⟨⟨mb, ms, fv, ov, ss, h1.same (fun k hm => hk.blk k (h1.lt hm) (fun e => ?_)), h2.same (fun k hm => hk.blk k (h2.lt hm) (fun e => ?_)), ⟨h3.1, fun k hJ => ⟨Nat.lt_of_lt_of_le (h3.2 k hJ).1 hk.size, (h3.2 k hJ).2⟩⟩, fun k hK => ?_⟩, h.qs, h.qt⟩
  · have : k = g := by simpa using e
    exact b (this ▸ hm)
  · have : k = g := by simpa using e
    exact c (this ▸ hm)
  · obtain ⟨x, y, z⟩ := h4 k hK
    exact ⟨Nat.lt_of_lt_of_le x hk.size, y, z⟩
theorem Pr.d {J K : Nat → Prop} {w : World} {d q : Nat} {s t s' : Ds} (h : Pr J K w d q s t) (hq : usedN s' ≤ s'.quota) {f : FuncId} {args : Array Value} {E : Ending} (hc : ∀ mb ms, Dv w d s mb ms → (∀ g, K g → g ∉ Fp d mb ms) → Calls Tryz.prog f args w fun e w' => e = E ∧ Left w d mb ms s' w') : Calls Tryz.prog f args w fun e w' => e = E ∧ Pr J K w' d q s' t ∧ Kj J K w w' := by
  obtain ⟨mb, ms, fv, ov, ss, h1, h2, h3, h4⟩ := h.ex
  refine (hc mb ms h1 (fun g hg => (h4 g hg).2.1)).mono ?_
  rintro e w' ⟨he, mb', ms', d1, d2, d3⟩
  refine ⟨he, ⟨⟨mb', ms', fv, ov, ss, d1, h2.same (fun g hg => d2.blk g (h2.lt hg) (fun hm => h3.1 g hm hg)), ⟨fun g hg hm => ?_, fun g hg => ?_⟩, fun g hg => ?_⟩, hq, h.qt⟩, kf_kj d2 (fun g hg => ⟨(h4 g hg).1, (h4 g hg).2.1⟩) (fun g hg => ⟨(h3.2 g hg).1, (h3.2 g hg).2.1⟩)⟩
  · rcases d3 g hg with x | x
    · exact h3.1 g x hm
    · have := h2.lt hm; omega
  · obtain ⟨a, b, c⟩ := h3.2 g hg
    refine ⟨Nat.lt_of_lt_of_le a d2.size, fun hm => ?_, c⟩
    rcases d3 g hm with x | x
    · exact b x
    · omega
  · obtain ⟨a, b, c⟩ := h4 g hg
    refine ⟨Nat.lt_of_lt_of_le a d2.size, fun hm => ?_, c⟩
    rcases d3 g hm with x | x
    · exact b x
    · omega
theorem Pr.m {J K : Nat → Prop} {w : World} {d q : Nat} {s t t' : Ds} (h : Pr J K w d q s t) (hq : usedN t' ≤ t'.quota) {f : FuncId} {args : Array Value} {E : Ending} (hc : ∀ fv ov ss, Rv w q t fv ov ss → (∀ g, K g → g ∉ Rm q fv ov) → Calls Tryz.prog f args w fun e w' => e = E ∧ Rleft w q fv ov ss t' w') : Calls Tryz.prog f args w fun e w' => e = E ∧ Pr J K w' d q s t' ∧ Kj J K w w' := by
  obtain ⟨mb, ms, fv, ov, ss, h1, h2, h3, h4⟩ := h.ex
  refine (hc fv ov ss h2 (fun g hg hm => (h4 g hg).2.2 (List.mem_append_left _ hm))).mono ?_
  rintro e w' ⟨he, fv', ov', ss', d1, d2, d3⟩
  refine ⟨he, ⟨⟨mb, ms, fv', ov', ss', h1.same (fun g hg => d2.blk g (h1.lt hg) (fun hm => h3.1 g hg (List.mem_append_left _ hm))), d1, ⟨fun g hg hm => ?_, fun g hg => ?_⟩, fun g hg => ?_⟩, h.qs, hq⟩, kf_kj d2 (fun g hg => ⟨(h4 g hg).1, fun hm => (h4 g hg).2.2 (List.mem_append_left _ hm)⟩) (fun g hg => ⟨(h3.2 g hg).1, (h3.2 g hg).2.2⟩)⟩
  · rcases d3 g hm with x | x
    · exact h3.1 g hg x
    · have := h1.lt hg; omega
  · obtain ⟨a, b, c⟩ := h3.2 g hg
    refine ⟨Nat.lt_of_lt_of_le a d2.size, b, fun hm => ?_⟩
    rcases d3 g (List.mem_append_left _ hm) with x | x
    · rcases List.mem_append.1 x with x | x
      · exact c x
      · obtain ⟨cs, hcs⟩ := h2.tag x
        exact d1.untag hm ((d2.blk g a c).trans hcs)
    · omega
  · obtain ⟨a, b, c⟩ := h4 g hg
    refine ⟨Nat.lt_of_lt_of_le a d2.size, b, fun hm => ?_⟩
    rcases d3 g hm with x | x
    · exact c x
    · omega
/-- room for so many steps more -/
def Sm (n : Nat) (s : Ds) : Prop := s.steps + n < 1000000 ∧ s.next + n < 1000000
section
variable {J K : Nat → Prop} {w : World} {d q : Nat} {s t : Ds} (h : Pr J K w d q s t) (n : Bs) (hn : n.length ≤ 140737488355328)
include h hn
theorem pd_create (hs : Sm 1 s) : Calls Tryz.prog 15 #[.pointer (some ⟨d, 0, none⟩), St n] w fun e w' => e = .returned (.int .i64 ((createD s n).1 : Int)) ∧ Pr J K w' d q (createD s n).2 t ∧ Kj J K w w' := h.d (quo_create h.qs h.ok.1 n) (fun mb ms hd _ => create_any w d s mb ms hd hs.1 n hn)
theorem pd_remove (hs : Sm 1 s) : Calls Tryz.prog 24 #[.pointer (some ⟨d, 0, none⟩), St n] w fun e w' => e = .returned (.int .i64 ((removeD s n).1 : Int)) ∧ Pr J K w' d q (removeD s n).2 t ∧ Kj J K w w' := h.d (quo_remove h.qs h.ok.1 n) (fun mb ms hd _ => remove_any w d s mb ms hd hs.1 n hn)
theorem pd_rename (hs : Sm 1 s) (to : Bs) : Calls Tryz.prog 30 #[.pointer (some ⟨d, 0, none⟩), St n, St to] w fun e w' => e = .returned (.int .i64 ((renameD s n to).1 : Int)) ∧ Pr J K w' d q (renameD s n to).2 t ∧ Kj J K w w' := h.d (quo_rename h.qs h.ok.1 n to) (fun mb ms hd _ => rename_any w d s mb ms hd hs.1 n to hn)
theorem pd_sync (hs : Sm 1 s) : Calls Tryz.prog 23 #[.pointer (some ⟨d, 0, none⟩), St n] w fun e w' => e = .returned (.int .i64 ((syncD s n).1 : Int)) ∧ Pr J K w' d q (syncD s n).2 t ∧ Kj J K w w' := h.d (quo_sync h.qs h.ok.1 n) (fun mb ms hd _ => sync_any w d s mb ms hd hs.1 h.qs n hn)
theorem pd_write (hs : Sm 1 s) (p : Int) (hp : -9223372036854775808 ≤ p ∧ p < 9223372036854775808) (v : Value) (b : Bs) (hv : Bo w v b) (hvK : ∀ g, v.ownBlock = some g → K g) (hbl : b.length ≤ 140737488355328) : Calls Tryz.prog 22 #[.pointer (some ⟨d, 0, none⟩), St n, .int .i64 p, v] w fun e w' => e = .returned (.int .i64 ((writeD s n p b).1 : Int)) ∧ Pr J K w' d q (writeD s n p b).2 t ∧ Kj J K w w' := by
  exact h.d (quo_write h.qs h.ok.1 n p b) (fun mb ms hd hK => write_call w d s mb ms hd hs.1 h.qs n hn p hp v b hv (fun g hg => ⟨hK g (hvK g hg), h.lt (hvK g hg)⟩) hbl)
theorem pd_len : Calls Tryz.prog 20 #[.pointer (some ⟨d, 0, none⟩), St n] w fun e w' => e = .returned (.tuple #[.int .i64 ((lenD s n).1 : Int), .int .i64 ((lenD s n).2 : Int)]) ∧ w' = w := by
  obtain ⟨mb, ms, fv, ov, ss, h1, h2, h3, h4⟩ := h.ex
  exact len_any w d s mb ms h1 n hn
theorem pd_read (p : Int) (hp : -9223372036854775808 ≤ p ∧ p < 9223372036854775808) : Calls Tryz.prog 21 #[.pointer (some ⟨d, 0, none⟩), St n, .int .i64 p] w fun e w' => (∃ v, e = .returned (.tuple #[v, .int .i64 ((readDk s n p).2 : Int)]) ∧ Bw w.heap.size w' v (readDk s n p).1) ∧ Below w.heap.size w w' := by
  obtain ⟨mb, ms, fv, ov, ss, h1, h2, h3, h4⟩ := h.ex
  exact read_own w d s mb ms h1 n hn p hp
omit hn in
theorem pm_create (hs : Sm 1 t) : Calls Tryz.prog 26 #[.pointer (some ⟨q, 0, none⟩), St n] w fun e w' => e = .returned (.int .i64 ((createD t n).1 : Int)) ∧ Pr J K w' d q s (createD t n).2 ∧ Kj J K w w' := h.m (quo_create h.qt h.ok.2 n) (fun fv ov ss hd _ => rcreate_any w q t fv ov ss hd hs.1 hs.2 n)
omit hn in
theorem pm_remove (hs : Sm 1 t) : Calls Tryz.prog 32 #[.pointer (some ⟨q, 0, none⟩), St n] w fun e w' => e = .returned (.int .i64 ((removeD t n).1 : Int)) ∧ Pr J K w' d q s (removeD t n).2 ∧ Kj J K w w' := h.m (quo_remove h.qt h.ok.2 n) (fun fv ov ss hd _ => rremove_any w q t fv ov ss hd hs.1 n)
omit hn in
theorem pm_rename (hs : Sm 1 t) (to : Bs) : Calls Tryz.prog 31 #[.pointer (some ⟨q, 0, none⟩), St n, St to] w fun e w' => e = .returned (.int .i64 ((renameD t n to).1 : Int)) ∧ Pr J K w' d q s (renameD t n to).2 ∧ Kj J K w w' := h.m (quo_rename h.qt h.ok.2 n to) (fun fv ov ss hd _ => rrename_any w q t fv ov ss hd hs.1 n to)
omit hn in
theorem pm_sync (hs : Sm 1 t) : Calls Tryz.prog 29 #[.pointer (some ⟨q, 0, none⟩), St n] w fun e w' => e = .returned (.int .i64 ((syncD t n).1 : Int)) ∧ Pr J K w' d q s (syncD t n).2 ∧ Kj J K w w' := h.m (quo_sync h.qt h.ok.2 n) (fun fv ov ss hd _ => rsync_any w q t fv ov ss hd hs.1 h.qt n)
omit hn in
theorem pm_write (hs : Sm 1 t) (p : Int) (ab : Option Addr) (cb : Nat) (b : Bs) (hbl : b.length ≤ 1000000) (hbr : ∀ W' : World, (∀ k, K k → W'.heap[k]? = w.heap[k]?) → Br W' (.slice ab b.length cb) b) : Calls Tryz.prog 28 #[.pointer (some ⟨q, 0, none⟩), St n, .int .i64 p, .slice ab b.length cb] w fun e w' => e = .returned (.int .i64 ((writeD t n p b).1 : Int)) ∧ Pr J K w' d q s (writeD t n p b).2 ∧ Kj J K w w' := by
  refine h.m (quo_write h.qt h.ok.2 n p b) (fun fv ov ss hd hK => rwrite_any w q t fv ov ss hd hs.1 h.qt n p ab cb b hbl (fun W' hW' => hbr W' (fun k hk => hW' k (h.lt hk) (hK k hk))))
omit hn in
theorem pm_len : Calls Tryz.prog 34 #[.pointer (some ⟨q, 0, none⟩), St n] w fun e w' => e = .returned (.tuple #[.int .i64 ((lenD t n).1 : Int), .int .i64 ((lenD t n).2 : Int)]) ∧ Below w.heap.size w w' := by
  obtain ⟨mb, ms, fv, ov, ss, h1, h2, h3, h4⟩ := h.ex
  exact rlen_any w q t fv ov ss h2 h.qt n
omit hn in
theorem pm_read (p : Int) (hp : -9223372036854775808 ≤ p ∧ p < 9223372036854775808) : Calls Tryz.prog 33 #[.pointer (some ⟨q, 0, none⟩), St n, .int .i64 p] w fun e w' => (∃ v, e = .returned (.tuple #[v, .int .i64 ((readDk t n p).2 : Int)]) ∧ Bo w' v (readDk t n p).1 ∧ ∀ g, v.ownBlock = some g → w.heap.size ≤ g) ∧ Below w.heap.size w w' := by
  obtain ⟨mb, ms, fv, ov, ss, h1, h2, h3, h4⟩ := h.ex
  exact rread_any w q t fv ov ss h2 h.qt n p hp
end
theorem pd_on {J K : Nat → Prop} {w : World} {d q : Nat} {s t : Ds} (h : Pr J K w d q s t) : Calls Tryz.prog 13 #[.pointer (some ⟨d, 0, none⟩)] w fun e w' => e = .returned (.tuple #[]) ∧ Pr J K w' d q (onD s) t ∧ Kj J K w w' := h.d (quo_on h.qs) (fun mb ms hd _ => on_any w d s mb ms hd h.qs)
theorem pm_on {J K : Nat → Prop} {w : World} {d q : Nat} {s t : Ds} (h : Pr J K w d q s t) : Calls Tryz.prog 36 #[.pointer (some ⟨q, 0, none⟩)] w fun e w' => e = .returned (.tuple #[]) ∧ Pr J K w' d q s (onD t) ∧ Kj J K w w' := h.m (quo_on h.qt) (fun fv ov ss hd _ => ron_any w q t fv ov ss hd h.qt)
theorem pd_fail {J K : Nat → Prop} {w : World} {d q : Nat} {s t : Ds} (h : Pr J K w d q s t) (i : Int) (hi : i < 9223372036854775808) (k : Nat) (hk : k < 18446744073709551616) : Calls Tryz.prog 14 #[.pointer (some ⟨d, 0, none⟩), .int .i64 i, .int .u64 (k : Int)] w fun e w' => e = .returned (.tuple #[]) ∧ Pr J K w' d q (failD s i k) t ∧ Kj J K w w' := h.d (quo_fail h.qs i k) (fun mb ms hd _ => (fail_any w d s mb ms hd i hi k hk).mono (by
  rintro e w' ⟨he, h1, h2⟩
  exact ⟨he, mb, ms, h1, h2.more (fun g hg => by simp at hg; simp [Fp, hg]), fun _ hg => .inl hg⟩))
theorem pm_fail {J K : Nat → Prop} {w : World} {d q : Nat} {s t : Ds} (h : Pr J K w d q s t) (i : Int) (hi : i < 9223372036854775808) (k : Nat) (hk : k < 18446744073709551616) : Calls Tryz.prog 35 #[.pointer (some ⟨q, 0, none⟩), .int .i64 i, .int .u64 (k : Int)] w fun e w' => e = .returned (.tuple #[]) ∧ Pr J K w' d q s (failD t i k) ∧ Kj J K w w' := h.m (quo_fail h.qt i k) (fun fv ov ss hd _ => (rfail_any w q t fv ov ss hd i hi k hk).mono (by
  rintro e w' ⟨he, h1, h2⟩
  exact ⟨he, fv, ov, ss, h1, h2.more (fun g hg => by simp at hg; simp [Rm, hg]), fun _ hg => .inl hg⟩))
theorem pd_off {J K : Nat → Prop} {w : World} {d q : Nat} {s t : Ds} (h : Pr J K w d q s t) : Calls Tryz.prog 12 #[.pointer (some ⟨d, 0, none⟩)] w fun e w' => e = .returned (.bool s.off) ∧ w' = w := by
  obtain ⟨mb, ms, fv, ov, ss, h1, h2, h3, h4⟩ := h.ex
  exact off_any w d s mb ms h1
end Go.Proofs.YtojnembakhhgiaaGreat
