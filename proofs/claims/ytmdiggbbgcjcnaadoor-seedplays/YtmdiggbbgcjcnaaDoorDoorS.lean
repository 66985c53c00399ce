/- A script that comes in, opened. -/
import Derived.Test.YtmdiggbbgcjcnaaDoorDoor
import Derived.Test.YtmdiggbbgcjcnaaDoorSdT
namespace Go.Proofs.YtmdiggbbgcjcnaaDoor
open Go.ChangeShapes Go.WideShapes Go.ChangeAt Go.RowKit

theorem Tryd.c3 : Tryd.prog.cellsOf 3 = 1 := by kernel_rfl
theorem Tryd.c2 : Tryd.prog.cellsOf 2 = 1 := by kernel_rfl
theorem Tryd.c22 : Tryd.prog.cellsOf 22 = 1 := by kernel_rfl
theorem Tryd.c36 : Tryd.prog.cellsOf 36 = 3 := by kernel_rfl
theorem plain_of_cell {w : World} {a : Addr} {v : Value} (h : w.cell? a = some v) : a = ⟨a.block, a.off, none⟩ ∧ a.block < w.heap.size := by
  unfold World.cell? at h
  split at h
  · rename_i c e fr hb
    split at h
    · cases h
    · rename_i hs
      refine ⟨?_, lt_of_block hb⟩
      cases a with
      | mk b o s => cases s with
        | none => rfl
        | some x => simp at hs
  · cases h
set_option maxRecDepth 100000 in
/-- one call -/
theorem step_of {H : Type} {enc : TypeId × Value → H} {W : World} {sp : Nat → Bool} {held : Bool} {n : Nat} {cs : List Value} {d : DataW H} {p : List MemPlace} (h : DataW.trod enc Tryd.prog W 0 sp held n 36 cs = some (d, p)) : ∃ x : Sx, cs = (sxc x).toList := by
  obtain ⟨xs, k, _, hx, hlen, hxl, hfl⟩ := DataW.trod_struct Tryd.underlying36 h
  rw [Tryd.c36] at hlen
  match xs, hxl, cs, hlen with
  | [y0, y1, y2], _, [c0, c1, c2], _ =>
    have g0 := hfl 0 _ rfl
    have g1 := hfl 1 _ rfl
    have g2 := hfl 2 _ rfl
    simp [Tryd.c3, Tryd.c2, Tryd.c22] at g0 g1 g2
    obtain ⟨z0, a0, _, _⟩ := DataW.trod_int Tryd.underlying3 g0
    obtain ⟨z1, a1, _, _⟩ := DataW.trod_int Tryd.underlying2 g1
    obtain ⟨s, hs1, _, _⟩ := DataW.trod_string Tryd.underlying22 g2
    have f0 : c0 = .int .i64 z0 := by simpa using a0
    have f1 : c1 = .int .i64 z1 := by simpa using a1
    have f2 : c2 = .string s := by simpa using hs1
    exact ⟨⟨z0, z1, s.data.toList⟩, by rw [f0, f1, f2]; rfl⟩
set_option maxRecDepth 100000 in
/-- a row of calls that came in -/
theorem steps_of {H : Type} {enc : TypeId × Value → H} {W : World} {sp : Nat → Bool} {held : Bool} {n : Nat} {v : Value} {d : DataW H} {p : List MemPlace} (h : DataW.trod enc Tryd.prog W 0 sp held n 28 [v] = some (d, p)) : ∃ L : List Sx, Scr W v L := by
  rcases Go.Deep.open_slice Tryd.underlying28 h with ⟨hcs, _⟩ | ⟨a, len, cap, m, k, D, Pl, hcs, _, hl, hm, hmm, hx, hel⟩
  · have hv : v = .slice none 0 0 := by simpa using hcs
    subst hv
    exact ⟨[], none, 0, rfl, fun h => by simp at h⟩
  · have hv : v = .slice (some a) len cap := by simpa using hcs
    subst hv
    have hlm : len ≤ m := by rw [hmm]; split <;> omega
    have each : ∀ i : Nat, ∃ x : Sx, i < len → ∀ j u, (sxc x)[j]? = some u → W.cell? (a.add (i * 3 + j)) = some u := by
      intro i
      by_cases hi : i < len
      · obtain ⟨cs', h1, h2⟩ := hel i (by omega)
        obtain ⟨x, hxc⟩ := step_of h2
        rw [Tryd.c36] at h1
        obtain ⟨_, hlen, hcell⟩ := World.cells?_some h1
        refine ⟨x, fun _ j u hu => ?_⟩
        have hj : j < 3 := by have := (Array.getElem?_eq_some_iff.1 hu).1; exact this
        have := hcell j hj
        rw [Go.Deep.add_add, hxc, Array.getElem?_toList] at this
        rw [this]
        exact hu
      · exact ⟨⟨0, 0, []⟩, fun h => absurd h hi⟩
    obtain ⟨f, hf⟩ := Classical.axiomOfChoice each
    have hlen : ((List.range len).map f).length = len := by simp
    refine ⟨(List.range len).map f, some a, cap, by rw [hlen], fun h0 => ?_⟩
    rw [hlen] at h0
    have hc0 := hf 0 h0 0 _ rfl
    have e0 : a.add (0 * 3 + 0) = a := by simp [Addr.add]
    rw [e0] at hc0
    obtain ⟨ha, hlt⟩ := plain_of_cell hc0
    refine ⟨a.block, a.off, by rw [← ha], hlt, fun i hi j u hu => ?_⟩
    have hi' : i < len := by rw [hlen] at hi; exact hi
    have hg : ((List.range len).map f)[i] = f i := by simp
    rw [hg] at hu
    have := hf i hi' j u hu
    rw [ha, Addr.add_mid] at this
    rw [Nat.add_assoc]
    exact this
set_option maxRecDepth 100000 in
theorem steps_in {H : Type} {enc : TypeId × Value → H} {W : World} {base : Nat} {v : Value} {d : DataW H} {p : List MemPlace} (hv : Value.okWide Tryd.prog W .any base 28 v) (h : DataW.Trod enc Tryd.prog W 0 (fun _ => true) true 28 v d p) : ∃ (a : Option Addr) (c : Nat) (L : List Sx), v = .slice a L.length c ∧ Scr W v L := by
  obtain ⟨fuel, hf⟩ := h
  obtain ⟨a0, len, cap, rfl⟩ := okWide_slice Tryd.underlying28 hv
  obtain ⟨L, hL⟩ := steps_of (show DataW.trod enc Tryd.prog W 0 (fun _ => true) true fuel 28 [_] = some (d, p) by simpa [Value.cells] using hf)
  have hL' := hL
  obtain ⟨a, c, e, _⟩ := hL
  exact ⟨a, c, L, e, hL'⟩
end Go.Proofs.YtmdiggbbgcjcnaaDoor
