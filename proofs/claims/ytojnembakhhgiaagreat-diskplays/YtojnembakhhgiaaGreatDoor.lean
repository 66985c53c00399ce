/- What comes in: rows of calls, bytes, texts, numbers. -/
import Derived.Test.YtojnembakhhgiaaGreatRows
import Derived.Test.YtojnembakhhgiaaGreatLmAll
import Derived.ProofKit
import Derived.OpenShut
import Derived.Deep.Slices
import Derived.HandedShaped
namespace Go.Proofs.YtojnembakhhgiaaGreat
open Go.ChangeShapes Go.WideShapes Go.ChangeAt Go.RowKit

theorem own : ownKnob Tryz.prog.godebug = none := by kernel_rfl
theorem laidOut : laidOutB Tryz.prog = true := by kernel_rfl
theorem Tryz.cells5 : Tryz.prog.cellsOf 5 = 1 := by kernel_rfl
theorem Tryz.cells9 : Tryz.prog.cellsOf 9 = 1 := by kernel_rfl
theorem Tryz.cells3 : Tryz.prog.cellsOf 3 = 1 := by kernel_rfl
theorem Tryz.cells28 : Tryz.prog.cellsOf 28 = 1 := by kernel_rfl
theorem Tryz.cells29 : Tryz.prog.cellsOf 29 = 1 := by kernel_rfl
theorem Tryz.cells31 : Tryz.prog.cellsOf 31 = 7 := by kernel_rfl
theorem Tryz.bytes5 : Tryz.prog.bytesOf 5 = 1 := by kernel_rfl
theorem reach_le {n : Nat} (h : n ≤ reachBytes) : n ≤ 140737488355328 := by
  have h2 := reachBytes_lt
  have e3 : (2 : Nat) ^ 47 = 140737488355328 := by decide
  omega
theorem plain_of_cell {w : World} {a : Addr} {v : Value} (h : w.cell? a = some v) : a = ⟨a.block, a.off, none⟩ := by
  unfold World.cell? at h
  split at h
  · split at h
    · cases h
    · rename_i hs
      cases a with
      | mk b o s => cases s with
        | none => rfl
        | some x => simp at hs
  · cases h
theorem weights_all {H : Type} {P : Program} {e : TypeId} {x : Nat} {d : DataW H} : ∀ {l : List (DataW H)}, d ∈ l → x ∈ d.weights P e → x ∈ DataW.weightsAll P e l
  | y :: r, hd, hx => by
    rw [DataW.weightsAll, List.mem_append]
    rcases List.mem_cons.1 hd with rfl | h
    · exact Or.inl hx
    · exact Or.inr (weights_all h hx)
/-- bytes that came in -/
theorem bytes_of {H : Type} {enc : TypeId × Value → H} {W : World} {sp : Nat → Bool} {held : Bool} {n : Nat} {v : Value} {d : DataW H} {p : List MemPlace} (h : DataW.trod enc Tryz.prog W 0 sp held n 47 [v] = some (d, p)) : ∃ ao cap, ∃ l : Bs, v = .slice ao l.length cap ∧ Bt W ao cap l := by
  rcases open_ints Tryz.underlying47 Tryz.underlying5 Tryz.cells5 h with ⟨hcs, hx⟩ | ⟨a, len, cap, zs, hcs, _, hl, hm, hz, hx, hcell, hwz⟩
  · have hv : v = .slice none 0 0 := by simpa using hcs
    subst hv
    exact ⟨none, 0, [], rfl, Nat.le_refl _, fun h => (by simp at h)⟩
  · have hv : v = .slice (some a) len cap := by simpa using hcs
    subst hv
    have hzl : len ≤ zs.length := by rw [hz]; split <;> omega
    have hlen : ((zs.take len).map (fun z => UInt8.ofNat z.toNat)).length = len := by simp; omega
    refine ⟨some a, cap, (zs.take len).map (fun z => UInt8.ofNat z.toNat), by rw [hlen], by rw [hlen]; exact hl, fun h0 => ?_⟩
    rw [hlen] at h0
    have hc0 := hcell 0 (by omega)
    have e0 : a.add 0 = a := by simp [Addr.add]
    rw [e0] at hc0
    have ha := plain_of_cell hc0
    refine ⟨a.block, a.off, by rw [← ha], fun j u hu => ?_⟩
    have hj : j < len := by have := (List.getElem?_eq_some_iff.1 hu).1; rw [List.length_map, hlen] at this; exact this
    have hzi : j < zs.length := by omega
    have hc := hcell j hzi
    rw [ha, Addr.add_mid] at hc
    rw [hc, ← hu]
    have hr := bounds_u8 (hwz zs[j] (List.getElem_mem hzi))
    have e1 : zs.getD j 0 = zs[j] := by simp [List.getD, hzi]
    rw [e1]
    simp only [bcs, List.getElem?_map, List.getElem?_take, if_pos hj, List.getElem?_eq_getElem hzi, Option.map_some]
    congr 2
    rw [UInt8.toNat_ofNat']
    omega
theorem text_of {H : Type} {enc : TypeId × Value → H} {W : World} {sp : Nat → Bool} {held : Bool} {n : Nat} {v : Value} {d : DataW H} {p : List MemPlace} (h : DataW.trod enc Tryz.prog W 0 sp held n 9 [v] = some (d, p)) (hw : ∀ x ∈ d.weights Tryz.prog 9, x ≤ reachBytes) : ∃ l : Bs, v = St l ∧ l.length ≤ 140737488355328 := by
  obtain ⟨s, hs1, hs2, _⟩ := DataW.trod_string Tryz.underlying9 h
  have hD : d = .lit (.string s.data.toList) := (Prod.mk.inj hs2).1
  have hb := hw s.data.toList.length (by rw [hD, DataW.weights]; exact List.mem_cons_self)
  exact ⟨s.data.toList, by simpa using hs1, reach_le hb⟩
set_option maxRecDepth 100000 in
/-- one call -/
theorem op_of {H : Type} {enc : TypeId × Value → H} {W : World} {sp : Nat → Bool} {held : Bool} {n : Nat} {cs : List Value} {d : DataW H} {p : List MemPlace} (h : DataW.trod enc Tryz.prog W 0 sp held n 31 cs = some (d, p)) (hw : ∀ x ∈ d.weights Tryz.prog 31, x ≤ reachBytes) : ∃ x : Ox, Oxr x ∧ cs = (xcs x).toList := by
  obtain ⟨xs, k, _, hx, hlen, hxl, hfl⟩ := DataW.trod_struct Tryz.underlying31 h
  rw [Tryz.cells31] at hlen
  match xs, hxl, cs, hlen with
  | [y0, y1, y2, y3, y4, y5, y6], _, [c0, c1, c2, c3, c4, c5, c6], _ =>
    have g0 := hfl 0 _ rfl
    have g1 := hfl 1 _ rfl
    have g2 := hfl 2 _ rfl
    have g3 := hfl 3 _ rfl
    have g4 := hfl 4 _ rfl
    have g5 := hfl 5 _ rfl
    have g6 := hfl 6 _ rfl
    simp [Tryz.cells5, Tryz.cells9, Tryz.cells3, Tryz.cells28, Tryz.cells29] at g0 g1 g2 g3 g4 g5 g6
    have hd : d = .agg [y0.1, y1.1, y2.1, y3.1, y4.1, y5.1, y6.1] := (Prod.mk.inj hx).1
    have hw' : ∀ x, (x ∈ y1.1.weights Tryz.prog 9 ∨ x ∈ y2.1.weights Tryz.prog 9) → x ≤ reachBytes := fun x hx => by
      apply hw
      rw [hd, DataW.weights, Tryz.underlying31]
      simp only [List.map_cons, DataW.weightsEach, List.mem_append]
      rcases hx with h | h
      · exact Or.inr (Or.inl h)
      · exact Or.inr (Or.inr (Or.inl h))
    obtain ⟨z0, a0, _, b0⟩ := DataW.trod_int Tryz.underlying5 g0
    obtain ⟨nm, e1, l1⟩ := text_of g1 (fun x hx => hw' x (Or.inl hx))
    obtain ⟨to, e2, l2⟩ := text_of g2 (fun x hx => hw' x (Or.inr hx))
    obtain ⟨z3, a3, _, b3⟩ := DataW.trod_int Tryz.underlying3 g3
    obtain ⟨z4, a4, _, b4⟩ := DataW.trod_int Tryz.underlying28 g4
    obtain ⟨z5, a5, _, b5⟩ := DataW.trod_int Tryz.underlying5 g5
    obtain ⟨z6, a6, _, b6⟩ := DataW.trod_int Tryz.underlying29 g6
    have r0 := bounds_u8 b0
    have r3 := bounds_i64 b3
    have r4 := bounds_u16 b4
    have r5 := bounds_u8 b5
    have r6 := bounds_u64 b6
    have f0 : c0 = .int .u8 z0 := by simpa using a0
    have f3 : c3 = .int .i64 z3 := by simpa using a3
    have f4 : c4 = .int .u16 z4 := by simpa using a4
    have f5 : c5 = .int .u8 z5 := by simpa using a5
    have f6 : c6 = .int .u64 z6 := by simpa using a6
    refine ⟨⟨z0.toNat, nm, to, z3, z4.toNat, UInt8.ofNat z5.toNat, z6.toNat⟩, ⟨by show z0.toNat < 256; omega, l1, l2, ⟨r3.1, by show z3 < 9223372036854775808; omega⟩, by show z4.toNat < 65536; omega, by show z6.toNat < 18446744073709551616; omega⟩, ?_⟩
    show [c0, c1, c2, c3, c4, c5, c6] = [.int .u8 ((z0.toNat : Nat) : Int), St nm, St to, .int .i64 z3, .int .u16 ((z4.toNat : Nat) : Int), .int .u8 (((UInt8.ofNat z5.toNat).toNat : Nat) : Int), .int .u64 ((z6.toNat : Nat) : Int)]
    rw [f0, e1, e2, f3, f4, f5, f6, UInt8.toNat_ofNat', show ((z0.toNat : Nat) : Int) = z0 by omega, show ((z4.toNat : Nat) : Int) = z4 by omega, show ((z5.toNat % 2 ^ 8 : Nat) : Int) = z5 by omega, show ((z6.toNat : Nat) : Int) = z6 by omega]
/-- a row of calls that came in -/
theorem ops_of {H : Type} {enc : TypeId × Value → H} {W : World} {sp : Nat → Bool} {held : Bool} {n : Nat} {v : Value} {d : DataW H} {p : List MemPlace} (h : DataW.trod enc Tryz.prog W 0 sp held n 22 [v] = some (d, p)) (hw : ∀ x ∈ d.weights Tryz.prog 22, x ≤ reachBytes) :
    ∃ ao cap, ∃ l : List Ox, v = .slice ao l.length cap ∧ Os W ao l ∧ ∀ x ∈ l, Oxr x := by
  rcases Go.Deep.open_slice Tryz.underlying22 h with ⟨hcs, _⟩ | ⟨a, len, cap, m, k, D, Pl, hcs, _, hl, hm, hmm, hx, hel⟩
  · have hv : v = .slice none 0 0 := by simpa using hcs
    subst hv
    exact ⟨none, 0, [], rfl, fun h => (by simp at h), fun x hx => (by cases hx)⟩
  · have hv : v = .slice (some a) len cap := by simpa using hcs
    subst hv
    have hlm : len ≤ m := by rw [hmm]; split <;> omega
    have hd : d = .slice ((List.range len).map D) ((List.range (m - len)).map fun j => D (len + j)) := (Prod.mk.inj hx).1
    have each : ∀ i : Nat, ∃ x : Ox, i < len → Oxr x ∧ ∀ j u, (xcs x)[j]? = some u → W.cell? (a.add (i * 7 + j)) = some u := by
      intro i
      by_cases hi : i < len
      · obtain ⟨cs', h1, h2⟩ := hel i (by omega)
        obtain ⟨x, hxr, hxc⟩ := op_of h2 (fun y hy => by
          apply hw
          rw [hd, DataW.weights, Tryz.underlying22]
          refine List.mem_cons_of_mem _ (List.mem_append_left _ (weights_all (d := D i) ?_ hy))
          exact List.mem_map.2 ⟨i, List.mem_range.2 hi, rfl⟩)
        rw [Tryz.cells31] at h1
        obtain ⟨_, hlen, hcell⟩ := World.cells?_some h1
        refine ⟨x, fun _ => ⟨hxr, fun j u hu => ?_⟩⟩
        have hj : j < 7 := by have := (Array.getElem?_eq_some_iff.1 hu).1; exact this
        have := hcell j hj
        rw [Go.Deep.add_add, hxc, Array.getElem?_toList] at this
        rw [this]
        exact hu
      · exact ⟨⟨0, [], [], 0, 0, 0, 0⟩, fun h => absurd h hi⟩
    obtain ⟨f, hf⟩ := Classical.axiomOfChoice each
    have hlen : ((List.range len).map f).length = len := by simp
    refine ⟨some a, cap, (List.range len).map f, by rw [hlen], fun h0 => ?_, fun x hx => ?_⟩
    · rw [hlen] at h0
      have hc0 := (hf 0 h0).2 0 _ rfl
      have e0 : a.add (0 * 7 + 0) = a := by simp [Addr.add]
      rw [e0] at hc0
      have ha := plain_of_cell hc0
      refine ⟨a.block, a.off, by rw [← ha], fun i hi j u hu => ?_⟩
      have hi' : i < len := by rw [hlen] at hi; exact hi
      have hg : ((List.range len).map f)[i] = f i := by simp
      rw [hg] at hu
      have := (hf i hi').2 j u hu
      rw [ha, Addr.add_mid] at this
      rw [Nat.add_assoc]
      exact this
    · obtain ⟨i, hi, rfl⟩ := List.mem_map.1 hx
      exact (hf i (List.mem_range.1 hi)).1
set_option maxRecDepth 100000 in
theorem bytes_in {H : Type} {enc : TypeId × Value → H} {W : World} {base : Nat} {v : Value} {d : DataW H} {p : List MemPlace} (hv : Value.okWide Tryz.prog W .any base 47 v) (h : DataW.Trod enc Tryz.prog W 0 (fun _ => true) true 47 v d p) : ∃ ao cap, ∃ l : Bs, v = .slice ao l.length cap ∧ Bt W ao cap l := by
  obtain ⟨fuel, hf⟩ := h
  obtain ⟨a0, len, cap, rfl⟩ := okWide_slice Tryz.underlying47 hv
  exact bytes_of (by simpa [Value.cells] using hf)
set_option maxRecDepth 100000 in
theorem ops_in {H : Type} {enc : TypeId × Value → H} {W : World} {base : Nat} {v : Value} {d : DataW H} {p : List MemPlace} (hv : Value.okWide Tryz.prog W .any base 22 v) (h : DataW.Trod enc Tryz.prog W 0 (fun _ => true) true 22 v d p) (hw : ∀ x ∈ d.weights Tryz.prog 22, x ≤ reachBytes) :
    ∃ ao cap, ∃ l : List Ox, v = .slice ao l.length cap ∧ Os W ao l ∧ ∀ x ∈ l, Oxr x := by
  obtain ⟨fuel, hf⟩ := h
  obtain ⟨a0, len, cap, rfl⟩ := okWide_slice Tryz.underlying22 hv
  exact ops_of (by simpa [Value.cells] using hf) hw
set_option maxRecDepth 100000 in
theorem text_in {H : Type} {enc : TypeId × Value → H} {W : World} {base : Nat} {v : Value} {d : DataW H} {p : List MemPlace} (hv : Value.okWide Tryz.prog W .any base 9 v) (h : DataW.Trod enc Tryz.prog W 0 (fun _ => true) true 9 v d p) (hw : ∀ x ∈ d.weights Tryz.prog 9, x ≤ reachBytes) : ∃ l : Bs, v = St l ∧ l.length ≤ 140737488355328 := by
  obtain ⟨fuel, hf⟩ := h
  obtain ⟨s, rfl⟩ := okWide_string Tryz.underlying9 hv
  exact text_of (by simpa [Value.cells] using hf) hw
set_option maxRecDepth 100000 in
theorem u64_in {H : Type} {enc : TypeId × Value → H} {W : World} {base : Nat} {v : Value} {d : DataW H} {p : List MemPlace} (hv : Value.okWide Tryz.prog W .any base 29 v) (h : DataW.Trod enc Tryz.prog W 0 (fun _ => true) true 29 v d p) : ∃ k : Nat, v = .int .u64 (k : Int) ∧ k < 18446744073709551616 := by
  obtain ⟨fuel, hf⟩ := h
  obtain ⟨z, rfl⟩ := okWide_int Tryz.underlying29 hv
  obtain ⟨z', a, _, b⟩ := DataW.trod_int Tryz.underlying29 (show DataW.trod enc Tryz.prog W 0 (fun _ => true) true fuel 29 [.int .u64 z] = some (d, p) by simpa [Value.cells] using hf)
  have r := bounds_u64 b
  have e : z' = z := by
    have : Value.int .u64 z = .int .u64 z' := by simpa using a
    cases this
    rfl
  subst e
  exact ⟨z'.toNat, by rw [show ((z'.toNat : Nat) : Int) = z' by omega], by omega⟩
end Go.Proofs.YtojnembakhhgiaaGreat
