/- The other laws together, and what TermMakes answers of the first terms of a block. -/
import Derived.Test.YtcmpiffkmnbepaaDoorRow
import Derived.Deep.RegionHeld3
namespace Go.Proofs.YtcmpiffkmnbepaaDoor
open Go.RowKit

/-- the other laws, each of them for every input -/
structure AllLaws : Prop where
  opens : ∀ (l : Bs) (w : World), l.length ≤ 140737488355328 → Calls Tryd.prog 3 #[St l] w fun en w' => en = .returned (.bool true) ∧ Below w.heap.size w w'
  builds : ∀ (a b : Bs) (w : World), a.length ≤ 140737488355328 → b.length ≤ 140737488355328 → Calls Tryd.prog 5 #[St a, St b] w fun en w' => en = .returned (.bool true) ∧ Below w.heap.size w w'
  asks : ∀ (a b c : Bs) (w : World), a.length ≤ 140737488355328 → b.length ≤ 140737488355328 → c.length ≤ 140737488355328 → Calls Tryd.prog 6 #[St a, St b, St c] w fun en w' => en = .returned (.bool true) ∧ Below w.heap.size w w'
  back : ∀ (a b : Bs) (w : World), a.length ≤ 140737488355328 → b.length ≤ 140737488355328 → Calls Tryd.prog 7 #[St a, St b] w fun en w' => en = .returned (.bool true) ∧ Below w.heap.size w w'
  agrs : ∀ (a b c : Bs) (w : World), a.length ≤ 140737488355328 → b.length ≤ 140737488355328 → c.length ≤ 140737488355328 → Calls Tryd.prog 8 #[St a, St b, St c] w fun en w' => en = .returned (.bool true) ∧ Below w.heap.size w w'
  keyz : ∀ (a b : Bs) (w : World), a.length ≤ 140737488355328 → b.length ≤ 140737488355328 → Calls Tryd.prog 9 #[St a, St b] w fun en w' => en = .returned (.bool true) ∧ Below w.heap.size w w'
  signz : ∀ (a b c d : Bs) (w : World), a.length ≤ 140737488355328 → b.length ≤ 140737488355328 → c.length ≤ 140737488355328 → d.length ≤ 140737488355328 → Calls Tryd.prog 10 #[St a, St b, St c, St d] w fun en w' => en = .returned (.bool true) ∧ Below w.heap.size w w'

theorem Tryd.size22 : (Tryd.prog.info? 22).map (·.size) = some 1 := by kernel_rfl
theorem slice_to (a : Option Addr) (n cap k : Nat) (h : k ≤ cap) (W : World) : (Instr.sliceAt 23 (.slice a n cap) none (some (.int .i64 (k : Int))) none).run Tryd.prog W = .ok (.slice a k cap) W := by
  obtain ⟨i, hi, hz⟩ := Option.map_eq_some_iff.1 Tryd.size22
  have h1 : (k : Int) ≤ (cap : Int) := by omega
  have h0 : ∀ x : Addr, x.add 0 = x := fun x => by unfold Addr.add; split <;> simp_all
  simp [Instr.sliceAt, Instr.slice, Instr.sliceBounds, Instr.sliceBound, asIntOf, run_underlying Tryd.underlying23, sizeOf, typeInfo, hi, go_sem, h0]
  intro h'; omega
theorem of_drew {B : Nat} {w0 w : World} (h : Below B w0 w) : Below B w0 w.drew := ⟨h.os, h.tape, h.output, h.size, h.block⟩

/-- some first terms of a block -/
theorem texts_first {w : World} {g N : Nat} {k : Nat → Bs} (hg : g < w.heap.size) (hc : ∀ i, i < N → w.cell? ⟨g, i, none⟩ = some (St (k i))) (r cap : Nat) (hr : r ≤ N) : Texts w (.slice (some ⟨g, 0, none⟩) ((List.range r).map k).length cap) ((List.range r).map k) := by
  refine ⟨_, _, rfl, fun _ => ⟨g, 0, rfl, hg, fun i hi => ?_⟩⟩
  have hi' : i < r := by simpa using hi
  rw [Nat.zero_add, hc i (by omega)]
  simp

/-- what makes answers of some first terms of a block -/
theorem makes_first {w W : World} {g N : Nat} {k : Nat → Bs} (hp : Pw w) (hkb : ∀ i, (k i).length ≤ 140737488355328) (hg : g < w.heap.size) (hc : ∀ i, i < N → w.cell? ⟨g, i, none⟩ = some (St (k i))) (r cap : Nat) (hr : r ≤ N) (hr2 : r ≤ 40) (n : Int) (hn1 : -9223372036854775808 ≤ n) (hn2 : n ≤ 9223372036854775807) (s : Bs) (hs : s.length ≤ 140737488355328) (hb : Below w.heap.size w W) :
    Calls Tryd.prog 4 #[.int .i64 n, St s, .slice (some ⟨g, 0, none⟩) r cap] W fun en w' => en = .returned (.bool true) ∧ Below W.heap.size W w' := by
  have ht := texts_below (texts_first hg hc r cap hr) hb
  have h := makes_any n hn1 hn2 s W _ cap _ ht (by unfold maxLen; simp; omega) hs (fun i hi => by simp; exact hkb i) (hp.below hb)
  have e : ((List.range r).map k).length = r := by simp
  rw [e] at h
  exact h

end Go.Proofs.YtcmpiffkmnbepaaDoor
