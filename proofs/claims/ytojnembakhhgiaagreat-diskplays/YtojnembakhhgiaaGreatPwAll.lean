import Derived.Test.YtojnembakhhgiaaGreatPcAll
import Derived.Test.YtojnembakhhgiaaGreatP1
import Derived.Test.YtojnembakhhgiaaGreatP5
import Derived.Test.YtojnembakhhgiaaGreatP6
/- One call of a row, on a disk and on the document's: any. -/
namespace Go.Proofs.YtojnembakhhgiaaGreat
open Go.RowKit

/-- what a call of a row makes of a disk -/
def playD (s : Ds) (x : Ox) : Ds := match x.kind % 11 with
  | 0 => (createD s x.name).2
  | 1 => (writeD s x.name x.page (List.replicate (x.long % 300) x.fill)).2
  | 2 => (syncD s x.name).2
  | 3 => (renameD s x.name x.to).2
  | 4 => (removeD s x.name).2
  | 7 => failD s x.page x.keep
  | 8 => onD s
  | _ => s
theorem plays_any {J K : Nat → Prop} {w : World} {d q : Nat} {s t : Ds} (h : Pr J K w d q s t) (hs : Sm 1 s) (ht : Sm 1 t) (x : Ox) (hx : Oxr x) : Calls Tryz.prog 10 #[.pointer (some ⟨d, 0, none⟩), .pointer (some ⟨q, 0, none⟩), .agg (xcs x)] w (PlE J K w d q s t (playD s x) (playD t x)) := by
  have hlt : x.kind % 11 < 11 := Nat.mod_lt _ (by omega)
  unfold playD
  rcases (show x.kind % 11 = 0 ∨ x.kind % 11 = 1 ∨ x.kind % 11 = 2 ∨ x.kind % 11 = 3 ∨ x.kind % 11 = 4 ∨ x.kind % 11 = 5 ∨ x.kind % 11 = 6 ∨ x.kind % 11 = 7 ∨ x.kind % 11 = 8 ∨ x.kind % 11 = 9 ∨ x.kind % 11 = 10 by omega) with e | e | e | e | e | e | e | e | e | e | e <;> rw [e]
  · exact plays0 h hs ht x hx e
  · exact plays1 h hs ht x hx e
  · exact plays2 h hs ht x hx e
  · exact plays3 h hs ht x hx e
  · exact plays4 h hs ht x hx e
  · exact plays5 h hs ht x hx e
  · exact plays6 h hs ht x hx e
  · exact plays7 h hs ht x hx e
  · exact plays8 h hs ht x hx e
  · exact plays9 h hs ht x hx e
  · exact plays10 h hs ht x hx e
/-- how far a call counts -/
theorem do_small {s : Ds} {f : Ds → Ds} (hf : ∀ s', (f s').steps = s'.steps ∧ (f s').next ≤ s'.next + 1) : (doD s f).2.steps ≤ s.steps + 1 ∧ (doD s f).2.next ≤ s.next + 1 := by
  unfold doD stepD
  split
  · rename_i e
    exact ⟨Nat.le_succ _, Nat.le_succ _⟩
  · rename_i s' e
    split at e
    · cases e
    · cases e
      exact ⟨Nat.le_of_eq (hf _).1, (hf _).2⟩
theorem small_create (s : Ds) (n : Bs) : (createD s n).2.steps ≤ s.steps + 1 ∧ (createD s n).2.next ≤ s.next + 1 := by
  unfold createD
  repeat' split
  all_goals first
    | exact ⟨Nat.le_succ _, Nat.le_succ _⟩
    | exact do_small (fun _ => ⟨rfl, Nat.le_refl _⟩)
theorem small_write (s : Ds) (n : Bs) (p : Int) (b : Bs) : (writeD s n p b).2.steps ≤ s.steps + 1 ∧ (writeD s n p b).2.next ≤ s.next + 1 := by
  unfold writeD
  repeat' split
  all_goals first
    | exact ⟨Nat.le_succ _, Nat.le_succ _⟩
    | exact do_small (fun _ => ⟨rfl, Nat.le_succ _⟩)
theorem small_sync (s : Ds) (n : Bs) : (syncD s n).2.steps ≤ s.steps + 1 ∧ (syncD s n).2.next ≤ s.next + 1 := by
  unfold syncD
  repeat' split
  all_goals first
    | exact ⟨Nat.le_succ _, Nat.le_succ _⟩
    | exact do_small (fun _ => ⟨rfl, Nat.le_succ _⟩)
theorem small_remove (s : Ds) (n : Bs) : (removeD s n).2.steps ≤ s.steps + 1 ∧ (removeD s n).2.next ≤ s.next + 1 := by
  unfold removeD
  repeat' split
  all_goals first
    | exact ⟨Nat.le_succ _, Nat.le_succ _⟩
    | exact do_small (fun _ => ⟨rfl, Nat.le_succ _⟩)
theorem small_rename (s : Ds) (a b : Bs) : (renameD s a b).2.steps ≤ s.steps + 1 ∧ (renameD s a b).2.next ≤ s.next + 1 := by
  unfold renameD
  split
  · exact ⟨Nat.le_succ _, Nat.le_succ _⟩
  · split
    · exact ⟨Nat.le_succ _, Nat.le_succ _⟩
    · split
      · exact ⟨Nat.le_succ _, Nat.le_succ _⟩
      · refine do_small (fun s' => ?_)
        show (if a = b then s' else _).steps = _ ∧ (if a = b then s' else _).next ≤ _
        split
        · exact ⟨rfl, Nat.le_succ _⟩
        · split
          · exact ⟨rfl, Nat.le_succ _⟩
          · exact ⟨rfl, Nat.le_succ _⟩
theorem small_fail (s : Ds) (i : Int) (k : Nat) : (failD s i k).steps = s.steps ∧ (failD s i k).next = s.next := by
  unfold failD
  split
  · exact ⟨rfl, rfl⟩
  · exact ⟨rfl, rfl⟩
theorem small_on (s : Ds) : (onD s).steps = s.steps ∧ (onD s).next = s.next := by
  unfold onD
  split
  · exact ⟨rfl, rfl⟩
  · exact ⟨rfl, rfl⟩
theorem small_play (s : Ds) (x : Ox) : (playD s x).steps ≤ s.steps + 1 ∧ (playD s x).next ≤ s.next + 1 := by
  unfold playD
  split
  · exact small_create _ _
  · exact small_write _ _ _ _
  · exact small_sync _ _
  · exact small_rename _ _ _
  · exact small_remove _ _
  · have := small_fail s x.page x.keep; omega
  · have := small_on s; omega
  · exact ⟨Nat.le_succ _, Nat.le_succ _⟩
theorem Sm.play {n : Nat} {s : Ds} (h : Sm (n + 1) s) (x : Ox) : Sm n (playD s x) := by
  have := small_play s x
  obtain ⟨h1, h2⟩ := h
  exact ⟨by omega, by omega⟩
theorem Sm.less {n m : Nat} {s : Ds} (h : Sm n s) (hm : m ≤ n) : Sm m s := ⟨by have := h.1; omega, by have := h.2; omega⟩
theorem Kept.play {s : Ds} {t : Bs} {P : List Bs} (h : Kept s t P) (hok : Dok s) (x : Ox) (h1 : x.name ≠ t) (h2 : x.to ≠ t) : Kept (playD s x) t P := by
  unfold playD
  split
  · exact h.create hok _
  · exact h.write hok h1 _ _
  · exact h.sync hok h1
  · exact h.rename hok h1 h2
  · exact h.remove hok h1
  · exact h.fail _ _
  · exact h.on
  · exact h
end Go.Proofs.YtojnembakhhgiaaGreat

/- The short calls that stand in each law. -/
namespace Go.Proofs.YtojnembakhhgiaaGreat
open Go.RowKit

/-- a disk alone, and blocks apart from it -/
structure Dp (K : Nat → Prop) (w : World) (d : Nat) (s : Ds) : Prop where
  ex : ∃ mb ms, Dv w d s mb ms ∧ ∀ g, K g → g < w.heap.size ∧ g ∉ Fp d mb ms
  qs : usedN s ≤ s.quota
theorem Dp.lt {K : Nat → Prop} {w : World} {d : Nat} {s : Ds} (h : Dp K w d s) {g : Nat} (hg : K g) : g < w.heap.size := by
  obtain ⟨mb, ms, _, h4⟩ := h.ex
  exact (h4 g hg).1
theorem Dp.ok {K : Nat → Prop} {w : World} {d : Nat} {s : Ds} (h : Dp K w d s) : Dok s := by
  obtain ⟨mb, ms, h1, _⟩ := h.ex
  exact h1.ok
theorem Dp.less {K K' : Nat → Prop} {w : World} {d : Nat} {s : Ds} (h : Dp K w d s) (hs : ∀ g, K' g → K g) : Dp K' w d s := by
  obtain ⟨mb, ms, h1, h4⟩ := h.ex
  exact ⟨⟨mb, ms, h1, fun g hg => h4 g (hs g hg)⟩, h.qs⟩
theorem Dp.grow {K : Nat → Prop} {w w' : World} {d : Nat} {s : Ds} (h : Dp K w d s) (hb : Below w.heap.size w w') : Dp (fun g => K g ∨ (w.heap.size ≤ g ∧ g < w'.heap.size)) w' d s := by
  obtain ⟨mb, ms, h1, h4⟩ := h.ex
  refine ⟨⟨mb, ms, h1.low hb, fun g hg => ?_⟩, h.qs⟩
  rcases hg with hg | hg
  · obtain ⟨a, b⟩ := h4 g hg
    exact ⟨Nat.lt_of_lt_of_le a hb.size, b⟩
  · exact ⟨hg.2, fun hm => by have := h1.lt hm; omega⟩
theorem Dp.low {K : Nat → Prop} {w w' : World} {d : Nat} {s : Ds} (h : Dp K w d s) (hb : Below w.heap.size w w') : Dp K w' d s := (h.grow hb).less (fun _ hg => .inl hg)
theorem Dp.d {K : Nat → Prop} {w : World} {d : Nat} {s s' : Ds} (h : Dp K w d s) (hq : usedN s' ≤ s'.quota) {f : FuncId} {args : Array Value} {E : Ending} (hc : ∀ mb ms, Dv w d s mb ms → (∀ g, K g → g ∉ Fp d mb ms) → Calls Tryz.prog f args w fun e w' => e = E ∧ Left w d mb ms s' w') : Calls Tryz.prog f args w fun e w' => e = E ∧ Dp K w' d s' ∧ Kw K w w' := by
  obtain ⟨mb, ms, h1, h4⟩ := h.ex
  refine (hc mb ms h1 (fun g hg => (h4 g hg).2)).mono ?_
  rintro e w' ⟨he, mb', ms', d1, d2, d3⟩
  refine ⟨he, ⟨⟨mb', ms', d1, fun g hg => ?_⟩, hq⟩, kf_kw d2 h4⟩
  obtain ⟨a, b⟩ := h4 g hg
  refine ⟨Nat.lt_of_lt_of_le a d2.size, fun hm => ?_⟩
  rcases d3 g hm with x | x
  · exact b x
  · omega
theorem dp_new (w : World) (q : Int) : Calls Tryz.prog 6 #[.int .i64 q] w fun e w' => e = .returned (.pointer (some ⟨w.heap.size, 0, none⟩)) ∧ Dp (fun g => g < w.heap.size) w' w.heap.size (newD q) ∧ Below w.heap.size w w' := by
  refine (new_any w q).mono ?_
  rintro e w' ⟨he, h1, h2⟩
  refine ⟨he, ⟨⟨none, [], h1, fun g hg => ⟨Nat.lt_of_lt_of_le hg h2.size, fun hm => ?_⟩⟩, Nat.zero_le _⟩, h2⟩
  have : g = w.heap.size := by simpa [Fp] using hm
  omega
section
variable {K : Nat → Prop} {w : World} {d : Nat} {s : Ds} (h : Dp K w d s) (n : Bs) (hn : n.length ≤ 140737488355328)
include h hn
theorem dp_create (hs : Sm 1 s) : Calls Tryz.prog 15 #[.pointer (some ⟨d, 0, none⟩), St n] w fun e w' => e = .returned (.int .i64 ((createD s n).1 : Int)) ∧ Dp K w' d (createD s n).2 ∧ Kw K w w' := h.d (quo_create h.qs h.ok n) (fun mb ms hd _ => create_any w d s mb ms hd hs.1 n hn)
theorem dp_remove (hs : Sm 1 s) : Calls Tryz.prog 24 #[.pointer (some ⟨d, 0, none⟩), St n] w fun e w' => e = .returned (.int .i64 ((removeD s n).1 : Int)) ∧ Dp K w' d (removeD s n).2 ∧ Kw K w w' := h.d (quo_remove h.qs h.ok n) (fun mb ms hd _ => remove_any w d s mb ms hd hs.1 n hn)
theorem dp_rename (hs : Sm 1 s) (to : Bs) : Calls Tryz.prog 30 #[.pointer (some ⟨d, 0, none⟩), St n, St to] w fun e w' => e = .returned (.int .i64 ((renameD s n to).1 : Int)) ∧ Dp K w' d (renameD s n to).2 ∧ Kw K w w' := h.d (quo_rename h.qs h.ok n to) (fun mb ms hd _ => rename_any w d s mb ms hd hs.1 n to hn)
theorem dp_sync (hs : Sm 1 s) : Calls Tryz.prog 23 #[.pointer (some ⟨d, 0, none⟩), St n] w fun e w' => e = .returned (.int .i64 ((syncD s n).1 : Int)) ∧ Dp K w' d (syncD s n).2 ∧ Kw K w w' := h.d (quo_sync h.qs h.ok n) (fun mb ms hd _ => sync_any w d s mb ms hd hs.1 h.qs n hn)
theorem dp_write (hs : Sm 1 s) (p : Int) (hp : -9223372036854775808 ≤ p ∧ p < 9223372036854775808) (v : Value) (b : Bs) (hv : Bo w v b) (hvK : ∀ g, v.ownBlock = some g → K g) (hbl : b.length ≤ 140737488355328) : Calls Tryz.prog 22 #[.pointer (some ⟨d, 0, none⟩), St n, .int .i64 p, v] w fun e w' => e = .returned (.int .i64 ((writeD s n p b).1 : Int)) ∧ Dp K w' d (writeD s n p b).2 ∧ Kw K w w' :=
  h.d (quo_write h.qs h.ok n p b) (fun mb ms hd hK => write_call w d s mb ms hd hs.1 h.qs n hn p hp v b hv (fun g hg => ⟨hK g (hvK g hg), h.lt (hvK g hg)⟩) hbl)
theorem dp_len : Calls Tryz.prog 20 #[.pointer (some ⟨d, 0, none⟩), St n] w fun e w' => e = .returned (.tuple #[.int .i64 ((lenD s n).1 : Int), .int .i64 ((lenD s n).2 : Int)]) ∧ w' = w := by
  obtain ⟨mb, ms, h1, h4⟩ := h.ex
  exact len_any w d s mb ms h1 n hn
theorem dp_read (p : Int) (hp : -9223372036854775808 ≤ p ∧ p < 9223372036854775808) : Calls Tryz.prog 21 #[.pointer (some ⟨d, 0, none⟩), St n, .int .i64 p] w fun e w' => (∃ v, e = .returned (.tuple #[v, .int .i64 ((readDk s n p).2 : Int)]) ∧ Bw w.heap.size w' v (readDk s n p).1) ∧ Below w.heap.size w w' := by
  obtain ⟨mb, ms, h1, h4⟩ := h.ex
  exact read_own w d s mb ms h1 n hn p hp
end
theorem dp_on {K : Nat → Prop} {w : World} {d : Nat} {s : Ds} (h : Dp K w d s) : Calls Tryz.prog 13 #[.pointer (some ⟨d, 0, none⟩)] w fun e w' => e = .returned (.tuple #[]) ∧ Dp K w' d (onD s) ∧ Kw K w w' := h.d (quo_on h.qs) (fun mb ms hd _ => on_any w d s mb ms hd h.qs)
theorem dp_fail {K : Nat → Prop} {w : World} {d : Nat} {s : Ds} (h : Dp K w d s) (i : Int) (hi : i < 9223372036854775808) (k : Nat) (hk : k < 18446744073709551616) : Calls Tryz.prog 14 #[.pointer (some ⟨d, 0, none⟩), .int .i64 i, .int .u64 (k : Int)] w fun e w' => e = .returned (.tuple #[]) ∧ Dp K w' d (failD s i k) ∧ Kw K w w' := h.d (quo_fail h.qs i k) (fun mb ms hd _ => (fail_any w d s mb ms hd i hi k hk).mono (by
  rintro e w' ⟨he, h1, h2⟩
  exact ⟨he, mb, ms, h1, h2.more (fun g hg => by simp at hg; simp [Fp, hg]), fun _ hg => .inl hg⟩))
theorem kw_below {w w' : World} (h : Kw (fun g => g < w.heap.size) w w') : Below w.heap.size w w' := ⟨h.os, h.tape, h.output, h.size, fun g hg => h.blk g hg⟩
/-- the disks of the short calls -/
def wkF : Bs := [102]
def wk0 : Ds := newD 2
def wk1 : Ds := (createD wk0 wkF).2
def wk2 : Ds := (writeD wk1 wkF 0 [1, 2]).2
def wk3 : Ds := (syncD wk2 wkF).2
def wk4 : Ds := (writeD wk3 wkF 0 [3]).2
def wk5 : Ds := failD wk4 0 0
def wk6 : Ds := (removeD wk5 wkF).2
def wk7 : Ds := onD wk6
theorem wk_is : (createD wk0 wkF).1 = 0 ∧ (writeD wk1 wkF 0 [1, 2]).1 = 0 ∧ (syncD wk2 wkF).1 = 0 ∧ (writeD wk3 wkF 0 [3]).1 = 0 ∧ (removeD wk5 wkF).1 = 7 ∧ (readDk wk7 wkF 0).2 = 0 ∧ (readDk wk7 wkF 0).1 = pageB [1, 2] := by decide +kernel
theorem wk_small : Sm 1 wk0 ∧ Sm 1 wk1 ∧ Sm 1 wk2 ∧ Sm 1 wk3 ∧ Sm 1 wk5 := by
  unfold Sm
  decide +kernel
theorem bo_new (W : World) (b : Bs) : Bo (W.alloc (.cells (bcs b).toArray 5)) (.slice (some ⟨W.heap.size, 0, none⟩) b.length b.length) b := (brOf (heap_alloc_new W _)).bo
set_option maxRecDepth 100000 in
set_option maxHeartbeats 8000000 in
theorem works_any (w : World) : Calls Tryz.prog 5 #[] w fun e w' => e = .returned (.bool true) ∧ Below w.heap.size w w' := by
  obtain ⟨q1, q2, q3, q4, q5, q6, q7⟩ := wk_is
  obtain ⟨m0, m1, m2, m3, m5⟩ := wk_small
  obtain ⟨K, hK⟩ : ∃ K : Nat → Prop, K = fun g => g < w.heap.size := ⟨_, rfl⟩
  have HN : Hid (Calls Tryz.prog 6 #[.int .i64 2] w fun e w' => e = .returned (.pointer (some ⟨w.heap.size, 0, none⟩)) ∧ Dp K w' w.heap.size wk0 ∧ Kw K w w') := hid (by
    refine (dp_new w 2).mono ?_
    rintro e w' ⟨he, h1, h2⟩
    rw [hK]
    exact ⟨he, h1, below_kw h2 (fun g hg => hg)⟩)
  have HKB : Hid (∀ W, Kw K w W → Below w.heap.size w W) := hid (fun W hW => by rw [hK] at hW; exact kw_below hW)
  obtain ⟨d, hd⟩ : ∃ d, d = w.heap.size := ⟨_, rfl⟩
  rw [← hd] at HN
  have HC : Hid (∀ W, Dp K W d wk0 → Calls Tryz.prog 15 #[.pointer (some ⟨d, 0, none⟩), St [102]] W fun e w' => e = .returned (.int .i64 0) ∧ Dp K w' d wk1 ∧ Kw K W w') := hid (fun W h => by
    have := dp_create h wkF (by decide) m0
    rw [q1] at this
    exact this)
  have hgr : ∀ (W : World) (s : Ds) (b : Bs), Dp K W d s → Dp (fun g => K g ∨ g = W.heap.size) (W.alloc (.cells (bcs b).toArray 5)) d s := fun W s b h => (h.grow ((Below.refl _ _).alloc (Nat.le_refl _) _)).less (fun g hg => by
    rcases hg with hg | hg
    · exact .inl hg
    · exact .inr ⟨by omega, by simp; omega⟩)
  have hgk : ∀ (W : World) (s : Ds) (b : Bs), Dp K W d s → Kw K W (W.alloc (.cells (bcs b).toArray 5)) := fun W s b h => below_kw ((Below.refl _ _).alloc (Nat.le_refl _) _) (fun g hg => h.lt hg)
  have HW2 : Hid (∀ W, Dp K W d wk1 → Calls Tryz.prog 22 #[.pointer (some ⟨d, 0, none⟩), St [102], .int .i64 0, .slice (some ⟨W.heap.size, 0, none⟩) 2 2] (W.alloc (.cells #[.int .u8 1, .int .u8 2] 5)) fun e w' => e = .returned (.int .i64 0) ∧ Dp K w' d wk2 ∧ Kw K W w') := hid (fun W h => by
    have hw := dp_write (hgr W wk1 [1, 2] h) wkF (by decide) m1 0 (by omega) (.slice (some ⟨W.heap.size, 0, none⟩) 2 2) [1, 2] (bo_new W [1, 2]) (fun g hg => by cases hg; exact .inr rfl) (by decide)
    rw [q2] at hw
    refine hw.mono ?_
    rintro e w' ⟨he, a1, a2⟩
    exact ⟨he, a1.less (fun g hg => .inl hg), (hgk W wk1 [1, 2] h).trans (a2.less (fun g hg => .inl hg))⟩)
  have HSY : Hid (∀ W, Dp K W d wk2 → Calls Tryz.prog 23 #[.pointer (some ⟨d, 0, none⟩), St [102]] W fun e w' => e = .returned (.int .i64 0) ∧ Dp K w' d wk3 ∧ Kw K W w') := hid (fun W h => by
    have := dp_sync h wkF (by decide) m2
    rw [q3] at this
    exact this)
  have HW4 : Hid (∀ W, Dp K W d wk3 → Calls Tryz.prog 22 #[.pointer (some ⟨d, 0, none⟩), St [102], .int .i64 0, .slice (some ⟨W.heap.size, 0, none⟩) 1 1] (W.alloc (.cells #[.int .u8 3] 5)) fun e w' => e = .returned (.int .i64 0) ∧ Dp K w' d wk4 ∧ Kw K W w') := hid (fun W h => by
    have hw := dp_write (hgr W wk3 [3] h) wkF (by decide) m3 0 (by omega) (.slice (some ⟨W.heap.size, 0, none⟩) 1 1) [3] (bo_new W [3]) (fun g hg => by cases hg; exact .inr rfl) (by decide)
    rw [q4] at hw
    refine hw.mono ?_
    rintro e w' ⟨he, a1, a2⟩
    exact ⟨he, a1.less (fun g hg => .inl hg), (hgk W wk3 [3] h).trans (a2.less (fun g hg => .inl hg))⟩)
  have HFA : Hid (∀ W, Dp K W d wk4 → Calls Tryz.prog 14 #[.pointer (some ⟨d, 0, none⟩), .int .i64 0, .int .u64 0] W fun e w' => e = .returned (.tuple #[]) ∧ Dp K w' d wk5 ∧ Kw K W w') := hid (fun W h => dp_fail h 0 (by omega) 0 (by omega))
  have HRE : Hid (∀ W, Dp K W d wk5 → Calls Tryz.prog 24 #[.pointer (some ⟨d, 0, none⟩), St [102]] W fun e w' => e = .returned (.int .i64 7) ∧ Dp K w' d wk6 ∧ Kw K W w') := hid (fun W h => by
    have := dp_remove h wkF (by decide) m5
    rw [q5] at this
    exact this)
  have HON : Hid (∀ W, Dp K W d wk6 → Calls Tryz.prog 13 #[.pointer (some ⟨d, 0, none⟩)] W fun e w' => e = .returned (.tuple #[]) ∧ Dp K w' d wk7 ∧ Kw K W w') := hid (fun W h => dp_on h)
  have HRD : Hid (∀ W, Dp K W d wk7 → Calls Tryz.prog 21 #[.pointer (some ⟨d, 0, none⟩), St [102], .int .i64 0] W fun e w' => ∃ g, e = .returned (.tuple #[.slice (some ⟨g, 0, none⟩) 256 256, .int .i64 0]) ∧ w'.cell? ⟨g, 0, none⟩ = some (.int .u8 1) ∧ w'.cell? ⟨g, 1, none⟩ = some (.int .u8 2) ∧ w'.cell? ⟨g, 2, none⟩ = some (.int .u8 0) ∧ Kw K W w') := hid (fun W h => by
    refine (dp_read h wkF (by decide) 0 (by omega)).mono ?_
    rw [q6, q7]
    rintro e w' ⟨⟨v, rfl, hv⟩, hB⟩
    rcases hv with ⟨_, hv⟩ | ⟨g, ty, rfl, hg, _⟩
    · cases hv
    · exact ⟨g, rfl, (cell_of_heap hg 0).trans rfl, (cell_of_heap hg 1).trans rfl, (cell_of_heap hg 2).trans rfl, below_kw hB (fun g hg => h.lt hg)⟩)
  generalize wk0 = z0 at *
  generalize wk1 = z1 at *
  generalize wk2 = z2 at *
  generalize wk3 = z3 at *
  generalize wk4 = z4 at *
  generalize wk5 = z5 at *
  generalize wk6 = z6 at *
  generalize wk7 = z7 at *
  clear hK hd q1 q2 q3 q4 q5 q6 q7 m0 m1 m2 m3 m5 hgr hgk
  go_enter Tryz.func5, Tryz.ntmps5
  go_wp2_with fail
  refine HN.out.mono ?_
  rintro e w1 ⟨rfl, h1, b1⟩
  have K1 := hid b1
  have C1 := hid (HC.out w1 h1)
  clear h1 b1
  go_wp2_with fail
  refine C1.out.mono ?_
  rintro e w2 ⟨rfl, h2, k2⟩
  have K2 := hid (K1.out.trans k2)
  clear k2
  have C2 := hid (HW2.out w2 h2)
  clear h2
  go_wp2_with fail
  refine C2.out.mono ?_
  rintro e w3 ⟨rfl, h3, k3⟩
  have K3 := hid (K2.out.trans k3)
  clear k3
  have C3 := hid (HSY.out w3 h3)
  clear h3
  go_wp2_with fail
  refine C3.out.mono ?_
  rintro e w4 ⟨rfl, h4, k4⟩
  have K4 := hid (K3.out.trans k4)
  clear k4
  have C4 := hid (HW4.out w4 h4)
  clear h4
  go_wp2_with fail
  refine C4.out.mono ?_
  rintro e w5 ⟨rfl, h5, k5⟩
  have K5 := hid (K4.out.trans k5)
  clear k5
  have C5 := hid (HFA.out w5 h5)
  clear h5
  go_wp2_with fail
  refine C5.out.mono ?_
  rintro e w6 ⟨rfl, h6, k6⟩
  have K6 := hid (K5.out.trans k6)
  clear k6
  have C6 := hid (HRE.out w6 h6)
  clear h6
  go_wp2_with fail
  refine C6.out.mono ?_
  rintro e w7 ⟨rfl, h7, k7⟩
  have K7 := hid (K6.out.trans k7)
  clear k7
  have C7 := hid (HON.out w7 h7)
  clear h7
  go_wp2_with fail
  refine C7.out.mono ?_
  rintro e w8 ⟨rfl, h8, k8⟩
  have K8 := hid (K7.out.trans k8)
  clear k8
  have C8 := hid (HRD.out w8 h8)
  clear h8
  go_wp2_with fail
  refine C8.out.mono ?_
  rintro e w9 ⟨g, rfl, g0, g1, g2, k9⟩
  have K9 := hid (K8.out.trans k9)
  clear k9
  go_wp2_with fail
  go_ret
  exact ⟨rfl, HKB.out w9 K9.out⟩
end Go.Proofs.YtojnembakhhgiaaGreat
