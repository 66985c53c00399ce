/- What comes in: bytes, messages. -/
import Derived.Test.YtdhmmllpioppfaaGreatRows
import Derived.Test.YtdhmmllpioppfaaGreatWMay
import Derived.ProofKit
import Derived.OpenShut
import Derived.Deep.Slices
import Derived.Deep.SlicePairs
import Derived.HandedShaped
namespace Go.Proofs.YtdhmmllpioppfaaGreat.V
open Go.ChangeShapes Go.WideShapes Go.ChangeAt Go.RowKit

theorem own : ownKnob Tryz.prog.godebug = none := by kernel_rfl
theorem laidOut : laidOutB Tryz.prog = true := by kernel_rfl
theorem Tryz.cells5 : Tryz.prog.cellsOf 5 = 1 := by kernel_rfl
theorem Tryz.cells2 : Tryz.prog.cellsOf 2 = 1 := by kernel_rfl
theorem Tryz.cells46 : Tryz.prog.cellsOf 46 = 1 := by kernel_rfl
theorem Tryz.cells43 : Tryz.prog.cellsOf 43 = 2 := by kernel_rfl
theorem Tryz.cells41 : Tryz.prog.cellsOf 41 = 1 := by kernel_rfl
theorem Tryz.cells33 : Tryz.prog.cellsOf 33 = 1 := by kernel_rfl
theorem Tryz.cells27 : Tryz.prog.cellsOf 27 = 6 := by kernel_rfl
theorem Tryz.cells22 : Tryz.prog.cellsOf 22 = 1 := by kernel_rfl
theorem Tryz.cells9 : Tryz.prog.cellsOf 9 = 1 := by kernel_rfl
theorem Tryz.cells23 : Tryz.prog.cellsOf 23 = 1 := by kernel_rfl
theorem Tryz.cells24 : Tryz.prog.cellsOf 24 = 1 := by kernel_rfl
theorem Tryz.cells25 : Tryz.prog.cellsOf 25 = 1 := by kernel_rfl
theorem Tryz.bytes5 : Tryz.prog.bytesOf 5 = 1 := by kernel_rfl
theorem Tryz.bytes2 : Tryz.prog.bytesOf 2 = 8 := by kernel_rfl
theorem Tryz.bytes46 : Tryz.prog.bytesOf 46 = 16 := by kernel_rfl
theorem Tryz.bytes43 : Tryz.prog.bytesOf 43 = 32 := by kernel_rfl
theorem reach_le {n : Nat} (h : n ≤ reachBytes) : n ≤ 140737488355328 := by
  have h2 := reachBytes_lt
  have e3 : (2 : Nat) ^ 47 = 140737488355328 := by decide
  omega
theorem plain_of_cell {w : World} {a : Addr} {v : Value} (h : w.cell? a = some v) : a = ⟨a.block, a.off, none⟩ ∧ a.block < w.heap.size := by
  unfold World.cell? at h
  split at h
  · rename_i c e fr hb
    split at h
    · cases h
    · rename_i hs
      refine ⟨?_, lt_of_block hb⟩
      cases a with
      | mk b o s => cases s with
        | none => rfl
        | some x => simp at hs
  · cases h
theorem weights_all {H : Type} {P : Program} {e : TypeId} {x : Nat} {d : DataW H} : ∀ {l : List (DataW H)}, d ∈ l → x ∈ d.weights P e → x ∈ DataW.weightsAll P e l
  | y :: r, hd, hx => by
    rw [DataW.weightsAll, List.mem_append]
    rcases List.mem_cons.1 hd with rfl | h
    · exact Or.inl hx
    · exact Or.inr (weights_all h hx)
/-- bytes that came in -/
theorem bytes_of {H : Type} {enc : TypeId × Value → H} {W : World} {sp : Nat → Bool} {held : Bool} {n : Nat} {v : Value} {d : DataW H} {p : List MemPlace} (h : DataW.trod enc Tryz.prog W 0 sp held n 33 [v] = some (d, p)) (hw : ∀ x ∈ d.weights Tryz.prog 33, x ≤ reachBytes) : ∃ l : Bs, Sl W v l ∧ l.length ≤ 140737488355328 := by
  rcases open_ints Tryz.underlying33 Tryz.underlying5 Tryz.cells5 h with ⟨hcs, hx⟩ | ⟨a, len, cap, zs, hcs, _, hl, hm, hz, hx, hcell, hwz⟩
  · have hv : v = .slice none 0 0 := by simpa using hcs
    subst hv
    exact ⟨[], Sl.nil W, by simp⟩
  · have hv : v = .slice (some a) len cap := by simpa using hcs
    subst hv
    have hzl : len ≤ zs.length := by rw [hz]; split <;> omega
    have hd : d = .slice (lits .u8 (zs.take len)) (lits .u8 (zs.drop len)) := (Prod.mk.inj hx).1
    have hlen : ((zs.take len).map (fun z => UInt8.ofNat z.toNat)).length = len := by simp; omega
    have hbd : len ≤ 140737488355328 := by
      apply reach_le
      have := hw (((lits IntKind.u8 (zs.take len) : List (DataW H)).length + (lits IntKind.u8 (zs.drop len) : List (DataW H)).length) * Tryz.prog.bytesOf 5) (by rw [hd, DataW.weights, Tryz.underlying33]; exact List.mem_cons_self)
      rw [Tryz.bytes5, Nat.mul_one] at this
      have e : (lits IntKind.u8 (zs.take len) : List (DataW H)).length = len := by simp [lits]; omega
      omega
    refine ⟨(zs.take len).map (fun z => UInt8.ofNat z.toNat), Or.inr ⟨a, cap, by rw [hlen], by rw [hlen]; exact hl, fun h0 => ?_, fun i hi => ?_⟩, by rw [hlen]; exact hbd⟩
    · have h0' : 0 < len := by
        apply Nat.pos_of_ne_zero
        intro e
        apply h0
        rw [e]
        rfl
      have hc0 := hcell 0 (by omega)
      have e0 : a.add 0 = a := by simp [Addr.add]
      rw [e0] at hc0
      exact plain_of_cell hc0
    · have hi' : i < len := by rw [hlen] at hi; exact hi
      have hzi : i < zs.length := by omega
      rw [hcell i hzi]
      have hr := bounds_u8 (hwz zs[i] (List.getElem_mem hzi))
      have e1 : zs.getD i 0 = zs[i] := by simp [List.getD, hzi]
      rw [e1]
      simp only [List.getElem_map, List.getElem_take]
      congr 2
      rw [UInt8.toNat_ofNat']
      omega
/-- numbers that came in -/
theorem nums_of {H : Type} {enc : TypeId × Value → H} {W : World} {sp : Nat → Bool} {held : Bool} {n : Nat} {v : Value} {d : DataW H} {p : List MemPlace} (h : DataW.trod enc Tryz.prog W 0 sp held n 23 [v] = some (d, p)) (hw : ∀ x ∈ d.weights Tryz.prog 23, x ≤ reachBytes) : ∃ l : List Int, Ns W v l ∧ l.length ≤ 140737488355328 ∧ ∀ x ∈ l, -9223372036854775808 ≤ x ∧ x ≤ 9223372036854775807 := by
  rcases open_ints Tryz.underlying23 Tryz.underlying2 Tryz.cells2 h with ⟨hcs, hx⟩ | ⟨a, len, cap, zs, hcs, _, hl, hm, hz, hx, hcell, hwz⟩
  · have hv : v = .slice none 0 0 := by simpa using hcs
    subst hv
    exact ⟨[], ⟨_, _, rfl, fun h => absurd rfl h⟩, by simp, fun _ h => by cases h⟩
  · have hv : v = .slice (some a) len cap := by simpa using hcs
    subst hv
    have hzl : len ≤ zs.length := by rw [hz]; split <;> omega
    have hd : d = .slice (lits .i64 (zs.take len)) (lits .i64 (zs.drop len)) := (Prod.mk.inj hx).1
    have hlen : (zs.take len).length = len := by simp; omega
    have hbd : len ≤ 140737488355328 := by
      apply reach_le
      have := hw (((lits IntKind.i64 (zs.take len) : List (DataW H)).length + (lits IntKind.i64 (zs.drop len) : List (DataW H)).length) * Tryz.prog.bytesOf 2) (by rw [hd, DataW.weights, Tryz.underlying23]; exact List.mem_cons_self)
      rw [Tryz.bytes2] at this
      have e : (lits IntKind.i64 (zs.take len) : List (DataW H)).length = len := by simp [lits]; omega
      omega
    refine ⟨zs.take len, ⟨some a, cap, by rw [hlen], fun h0 => ?_⟩, by rw [hlen]; exact hbd, fun x hx => bounds_i64 (hwz x (List.mem_of_mem_take hx))⟩
    have h0' : 0 < len := by
      apply Nat.pos_of_ne_zero
      intro e
      apply h0
      rw [e]
      rfl
    have hc0 := hcell 0 (by omega)
    have e0 : a.add 0 = a := by simp [Addr.add]
    rw [e0] at hc0
    obtain ⟨ha, hlt⟩ := plain_of_cell hc0
    refine ⟨a.block, a.off, by rw [← ha], hlt, fun i hi => ?_⟩
    have hi' : i < len := by rw [hlen] at hi; exact hi
    have hc := hcell i (by omega)
    rw [ha, add_plain] at hc
    rw [hc, List.getElem_take]
    simp [List.getD, show i < zs.length by omega]
/-- terms that came in -/
theorem terms_of {H : Type} {enc : TypeId × Value → H} {W : World} {sp : Nat → Bool} {held : Bool} {n : Nat} {v : Value} {d : DataW H} {p : List MemPlace} (h : DataW.trod enc Tryz.prog W 0 sp held n 24 [v] = some (d, p)) (hw : ∀ x ∈ d.weights Tryz.prog 24, x ≤ reachBytes) :
    ∃ l : List Bs, Ts W v l ∧ l.length ≤ 140737488355328 ∧ ∀ t ∈ l, t.length ≤ 140737488355328 := by
  rcases Go.Deep.open_slice1 Tryz.underlying24 Tryz.cells46 h with ⟨hcs, _⟩ | ⟨a, len, cap, m, k, V, D, Pl, hcs, _, hl, hm, hmm, hx, hel⟩
  · have hv : v = .slice none 0 0 := by simpa using hcs
    subst hv
    exact ⟨[], ⟨_, _, rfl, fun h => absurd rfl h⟩, by simp, fun _ h => by cases h⟩
  · have hv : v = .slice (some a) len cap := by simpa using hcs
    subst hv
    have hlm : len ≤ m := by rw [hmm]; split <;> omega
    have hd : d = .slice ((List.range len).map D) ((List.range (m - len)).map fun j => D (len + j)) := (Prod.mk.inj hx).1
    have hwi : ∀ i, i < len → ∀ x ∈ (D i).weights Tryz.prog 46, x ≤ reachBytes := by
      intro i hi x hxm
      apply hw
      rw [hd, DataW.weights, Tryz.underlying24]
      refine List.mem_cons_of_mem _ (List.mem_append_left _ (weights_all (d := D i) ?_ hxm))
      exact List.mem_map.2 ⟨i, List.mem_range.2 hi, rfl⟩
    have hbd : len ≤ 140737488355328 := by
      apply reach_le
      have := hw ((((List.range len).map D).length + ((List.range (m - len)).map fun j => D (len + j)).length) * Tryz.prog.bytesOf 46) (by rw [hd, DataW.weights, Tryz.underlying24]; exact List.mem_cons_self)
      rw [Tryz.bytes46, List.length_map, List.length_range] at this
      omega
    have each : ∀ i : Nat, ∃ c : Bs, i < len → c.length ≤ 140737488355328 ∧ V i = St c := by
      intro i
      by_cases hi : i < len
      · obtain ⟨s, hs1, hs2, _⟩ := DataW.trod_string Tryz.underlying46 (hel i (by omega)).2
        have hD : D i = .lit (.string s.data.toList) := (Prod.mk.inj hs2).1
        have hb := hwi i hi s.data.toList.length (by rw [hD, DataW.weights]; exact List.mem_cons_self)
        exact ⟨s.data.toList, fun _ => ⟨reach_le hb, by simpa using hs1⟩⟩
      · exact ⟨[], fun h => absurd h hi⟩
    obtain ⟨f, hf⟩ := Classical.axiomOfChoice each
    have hlen : ((List.range len).map f).length = len := by simp
    have hg : ∀ i (h : i < ((List.range len).map f).length), ((List.range len).map f)[i] = f i := by
      intro i hi; simp
    refine ⟨(List.range len).map f, ⟨some a, cap, by rw [hlen], fun h0 => ?_⟩, by rw [hlen]; exact hbd, fun t ht => ?_⟩
    · have h0' : 0 < len := by
        apply Nat.pos_of_ne_zero; intro e; apply h0; rw [e]; rfl
      have hc0 := (hel 0 (by omega)).1
      have e0 : a.add 0 = a := by simp [Addr.add]
      rw [e0] at hc0
      obtain ⟨ha, hlt⟩ := plain_of_cell hc0
      refine ⟨a.block, a.off, by rw [← ha], hlt, fun i hi => ?_⟩
      have hi' : i < len := by rw [hlen] at hi; exact hi
      have hc := (hel i (by omega)).1
      rw [ha, add_plain] at hc
      rw [hc, (hf i hi').2, hg i hi]
    · obtain ⟨i, hi, rfl⟩ := List.mem_map.1 ht
      exact (hf i (List.mem_range.1 hi)).1
/-- records that came in -/
theorem recs_of {H : Type} {enc : TypeId × Value → H} {W : World} {sp : Nat → Bool} {held : Bool} {n : Nat} {v : Value} {d : DataW H} {p : List MemPlace} (h : DataW.trod enc Tryz.prog W 0 sp held n 25 [v] = some (d, p)) (hw : ∀ x ∈ d.weights Tryz.prog 25, x ≤ reachBytes) :
    ∃ L : List Rec, Rcs W v L ∧ Few L := by
  rcases Go.Deep.open_slice_pairs Tryz.underlying25 Tryz.underlying43 Tryz.cells43 rfl rfl Tryz.cells41 Tryz.cells33 h with ⟨hcs, _⟩ | ⟨a, len', cap', m, k, V0, V1, D0, D1, P0, P1, hcs, _, hl, hm, hmm, hx, hel⟩
  · have hv : v = .slice none 0 0 := by simpa using hcs
    subst hv
    exact ⟨[], Rcs.nil W, by simp, fun i hi => by simp at hi⟩
  · have hv : v = .slice (some a) len' cap' := by simpa using hcs
    subst hv
    have hlm : len' ≤ m := by rw [hmm]; split <;> omega
    have hd : d = .slice ((List.range len').map fun i => .agg [D0 i, D1 i]) ((List.range (m - len')).map fun j => .agg [D0 (len' + j), D1 (len' + j)]) := (Prod.mk.inj hx).1
    have hwi : ∀ i, i < len' → ∀ x ∈ (D1 i).weights Tryz.prog 33, x ≤ reachBytes := by
      intro i hi x hxm
      apply hw
      rw [hd, DataW.weights, Tryz.underlying25]
      refine List.mem_cons_of_mem _ (List.mem_append_left _ (weights_all (d := .agg [D0 i, D1 i]) (List.mem_map.2 ⟨i, List.mem_range.2 hi, rfl⟩) ?_))
      rw [DataW.weights, Tryz.underlying43]
      simp only [List.map_cons, DataW.weightsEach, List.mem_append]
      exact Or.inr (Or.inl hxm)
    have hbd : len' ≤ 140737488355328 := by
      apply reach_le
      have := hw ((((List.range len').map fun i => (.agg [D0 i, D1 i] : DataW H)).length + ((List.range (m - len')).map fun j => (.agg [D0 (len' + j), D1 (len' + j)] : DataW H)).length) * Tryz.prog.bytesOf 43) (by rw [hd, DataW.weights, Tryz.underlying25]; exact List.mem_cons_self)
      rw [Tryz.bytes43, List.length_map, List.length_range] at this
      omega
    have each : ∀ i : Nat, ∃ r : Rec, i < len' → r.1 < 18446744073709551616 ∧ r.2.length ≤ 140737488355328 ∧ V0 i = .int .u64 (r.1 : Int) ∧ Sl W (V1 i) r.2 := by
      intro i
      by_cases hi : i < len'
      · obtain ⟨_, _, h3, h4⟩ := hel i (by omega)
        obtain ⟨z, hz1, hz2, hz3⟩ := DataW.trod_int Tryz.underlying41 h3
        obtain ⟨l, hl', hll⟩ := bytes_of h4 (hwi i hi)
        have hb := bounds_u64 hz3
        have hz1' : V0 i = .int .u64 z := by simpa using hz1
        exact ⟨(z.toNat, l), fun _ => ⟨by simp only; omega, hll, by rw [hz1']; simp only; congr 1; omega, hl'⟩⟩
      · exact ⟨(0, []), fun h => absurd h hi⟩
    obtain ⟨f, hf2⟩ := Classical.axiomOfChoice each
    have hlen : ((List.range len').map f).length = len' := by simp
    have hg : ∀ i (h : i < ((List.range len').map f).length), ((List.range len').map f)[i] = f i := by
      intro i hi; simp
    refine ⟨(List.range len').map f, Or.inr ⟨a, cap', by rw [hlen], by rw [hlen]; exact hl, fun h0 => ?_, fun i hi => ?_⟩, by rw [hlen]; exact hbd, fun i hi => ?_⟩
    · have h0' : 0 < len' := by
        apply Nat.pos_of_ne_zero; intro e; apply h0; rw [e]; rfl
      have hc0 := (hel 0 (by omega)).1
      have e0 : a.add (0 * 2) = a := by simp [Addr.add]
      rw [e0] at hc0
      exact plain_of_cell hc0
    · have hi' : i < len' := by rw [hlen] at hi; exact hi
      obtain ⟨h1, h2, _⟩ := hel i (by omega)
      obtain ⟨_, _, h4, h5⟩ := hf2 i hi'
      rw [hg i hi]
      exact ⟨V1 i, by rw [h1, h4], h2, h5⟩
    · have hi' : i < len' := by rw [hlen] at hi; exact hi
      rw [hg i hi]
      exact ⟨(hf2 i hi').1, (hf2 i hi').2.1⟩
theorem text_of {H : Type} {enc : TypeId × Value → H} {W : World} {sp : Nat → Bool} {held : Bool} {n : Nat} {v : Value} {d : DataW H} {p : List MemPlace} (h : DataW.trod enc Tryz.prog W 0 sp held n 9 [v] = some (d, p)) (hw : ∀ x ∈ d.weights Tryz.prog 9, x ≤ reachBytes) : ∃ l : Bs, v = St l ∧ l.length ≤ 140737488355328 := by
  obtain ⟨s, hs1, hs2, _⟩ := DataW.trod_string Tryz.underlying9 h
  have hD : d = .lit (.string s.data.toList) := (Prod.mk.inj hs2).1
  have hb := hw s.data.toList.length (by rw [hD, DataW.weights]; exact List.mem_cons_self)
  exact ⟨s.data.toList, by simpa using hs1, reach_le hb⟩
theorem array6 {α : Type} {cs : Array α} (h : cs.size = 6) : ∃ c0 c1 c2 c3 c4 c5, cs = #[c0, c1, c2, c3, c4, c5] := by
  obtain ⟨l⟩ := cs
  match l, h with
  | [c0, c1, c2, c3, c4, c5], _ => exact ⟨c0, c1, c2, c3, c4, c5, rfl⟩
set_option maxRecDepth 100000 in
/-- a message that came in -/
theorem msg_in {H : Type} {enc : TypeId × Value → H} {W : World} {base : Nat} {v : Value} {d : DataW H} {p : List MemPlace} (hv : Value.okWide Tryz.prog W .any base 27 v) (h : DataW.Trod enc Tryz.prog W 0 (fun _ => true) true 27 v d p) (hw : ∀ x ∈ d.weights Tryz.prog 27, x ≤ reachBytes) :
    ∃ m nv tv mv, v = Mv m.k m.ch nv tv m.tx mv ∧ Ms W nv tv mv m ∧ MLen m ∧ MFit m ∧ ∀ t ∈ m.ts, t.length ≤ 140737488355328 := by
  obtain ⟨cs, rfl, hsz⟩ := okWide_struct Tryz.underlying27 hv
  obtain ⟨c0, c1, c2, c3, c4, c5, rfl⟩ := array6 (hsz.trans Tryz.cells27)
  obtain ⟨fuel, hf⟩ := h
  obtain ⟨xs, n, _, hx, _, hxl, hfl⟩ := DataW.trod_struct Tryz.underlying27 hf
  match xs, hxl with
  | [y0, y1, y2, y3, y4, y5], _ =>
    have g0 := hfl 0 _ rfl
    have g1 := hfl 1 _ rfl
    have g2 := hfl 2 _ rfl
    have g3 := hfl 3 _ rfl
    have g4 := hfl 4 _ rfl
    have g5 := hfl 5 _ rfl
    simp [Value.cells, Tryz.cells22, Tryz.cells9, Tryz.cells23, Tryz.cells24, Tryz.cells25] at g0 g1 g2 g3 g4 g5
    have hd : d = .agg [y0.1, y1.1, y2.1, y3.1, y4.1, y5.1] := (Prod.mk.inj hx).1
    have hw' : ∀ x, (x ∈ y1.1.weights Tryz.prog 9 ∨ x ∈ y2.1.weights Tryz.prog 23 ∨ x ∈ y3.1.weights Tryz.prog 24 ∨ x ∈ y4.1.weights Tryz.prog 9 ∨ x ∈ y5.1.weights Tryz.prog 25) → x ≤ reachBytes := fun x hx => by
      apply hw
      rw [hd, DataW.weights, Tryz.underlying27]
      simp only [List.map_cons, DataW.weightsEach, List.mem_append]
      rcases hx with h | h | h | h | h
      · exact Or.inr (Or.inl h)
      · exact Or.inr (Or.inr (Or.inl h))
      · exact Or.inr (Or.inr (Or.inr (Or.inl h)))
      · exact Or.inr (Or.inr (Or.inr (Or.inr (Or.inl h))))
      · exact Or.inr (Or.inr (Or.inr (Or.inr (Or.inr (Or.inl h)))))
    obtain ⟨z, hz1, _, hz3⟩ := DataW.trod_int Tryz.underlying22 g0
    obtain ⟨ch, e1, l1⟩ := text_of g1 (fun x hx => hw' x (Or.inl hx))
    obtain ⟨ns, e2, l2, r2⟩ := nums_of g2 (fun x hx => hw' x (Or.inr (Or.inl hx)))
    obtain ⟨ts, e3, l3, r3⟩ := terms_of g3 (fun x hx => hw' x (Or.inr (Or.inr (Or.inl hx))))
    obtain ⟨tx, e4, l4⟩ := text_of g4 (fun x hx => hw' x (Or.inr (Or.inr (Or.inr (Or.inl hx)))))
    obtain ⟨L, e5, f5⟩ := recs_of g5 (fun x hx => hw' x (Or.inr (Or.inr (Or.inr (Or.inr hx)))))
    have hb := bounds_u16 hz3
    have hz1' : c0 = .int .u16 z := by simpa using hz1
    refine ⟨⟨z.toNat, ch, ns, ts, tx, L⟩, c2, c3, c5, ?_, ⟨e2, e3, e5⟩, ⟨by simp only; omega, l2, l3, l1, l4, f5⟩, ⟨by simp only; omega, r2, fun r hr => ?_⟩, r3⟩
    · simp only
      rw [hz1', e1, e4]
      show Value.agg #[.int .u16 z, St ch, c2, c3, St tx, c5] = .agg #[.int .u16 ((z.toNat : Nat) : Int), St ch, c2, c3, St tx, c5]
      rw [show ((z.toNat : Nat) : Int) = z by omega]
    · obtain ⟨i, hi, rfl⟩ := List.getElem_of_mem hr
      have h6 : L[i].1 < 18446744073709551616 ∧ L[i].2.length ≤ 140737488355328 := f5.2 i hi
      exact ⟨h6.1, show L[i].2.length < 18446744073709551616 by omega⟩
set_option maxRecDepth 100000 in
theorem bytes_in {H : Type} {enc : TypeId × Value → H} {W : World} {base : Nat} {v : Value} {d : DataW H} {p : List MemPlace} (hv : Value.okWide Tryz.prog W .any base 33 v) (h : DataW.Trod enc Tryz.prog W 0 (fun _ => true) true 33 v d p) (hw : ∀ x ∈ d.weights Tryz.prog 33, x ≤ reachBytes) : ∃ l : Bs, Sl W v l ∧ l.length ≤ 140737488355328 := by
  obtain ⟨fuel, hf⟩ := h
  obtain ⟨a0, len, cap, rfl⟩ := okWide_slice Tryz.underlying33 hv
  exact bytes_of (by simpa [Value.cells] using hf) hw
end Go.Proofs.YtdhmmllpioppfaaGreat.V
