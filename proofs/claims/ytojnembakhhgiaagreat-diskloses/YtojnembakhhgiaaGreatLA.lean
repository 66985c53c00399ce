/- What the law of keeping meets: rows of calls, bytes cut and put together. -/
import Derived.Test.YtojnembakhhgiaaGreatPwAll
namespace Go.Proofs.YtojnembakhhgiaaGreat
open Go.RowKit

theorem Tryz.size5 : (Tryz.prog.info? 5).map (·.size) = some 1 := by kernel_rfl
theorem slice_from (q : IntKind) (a : Option Addr) (n cap k : Nat) (h : k ≤ n) (W : World) : (Instr.sliceAt 47 (.slice a n cap) (some (.int q (k : Int))) none none).run Tryz.prog W = .ok (.slice (if cap = k then a else a.map (·.add k)) (n - k) (cap - k)) W := by
  obtain ⟨i, hi, hz⟩ := Option.map_eq_some_iff.1 Tryz.size5
  have h1 : (k : Int) ≤ (n : Int) := by omega
  simp [Instr.sliceAt, Instr.slice, Instr.sliceBounds, Instr.sliceBound, asIntOf, run_underlying Tryz.underlying47, sizeOf, typeInfo, hi, hz, go_sem]
  intro h'; omega
theorem slice_to (q : IntKind) (a : Option Addr) (n cap k : Nat) (h : k ≤ cap) (W : World) : (Instr.sliceAt 47 (.slice a n cap) none (some (.int q (k : Int))) none).run Tryz.prog W = .ok (.slice a k cap) W := by
  obtain ⟨i, hi, hz⟩ := Option.map_eq_some_iff.1 Tryz.size5
  have h1 : (k : Int) ≤ (cap : Int) := by omega
  have h0 : ∀ x : Addr, x.add 0 = x := fun x => by unfold Addr.add; split <;> simp_all
  simp [Instr.sliceAt, Instr.slice, Instr.sliceBounds, Instr.sliceBound, asIntOf, run_underlying Tryz.underlying47, sizeOf, typeInfo, hi, go_sem, h0]
  intro h'; omega
/-- bytes that came in, wherever they lie -/
def Bt (w : World) (ao : Option Addr) (cap : Nat) (b : Bs) : Prop := b.length ≤ cap ∧ (0 < b.length → ∃ g o, ao = some ⟨g, o, none⟩ ∧ w.rangeAt g o (bcs b))
theorem Bt.bo {w : World} {ao : Option Addr} {cap : Nat} {b : Bs} (h : Bt w ao cap b) {k : Nat} (hk : k ≤ b.length) : Bo w (.slice ao k cap) (b.take k) := by
  have hl : (b.take k).length = k := by rw [List.length_take]; omega
  refine ⟨ao, cap, by rw [hl], fun h0 => ?_⟩
  rw [hl] at h0
  obtain ⟨g, o, e, hr⟩ := h.2 (by omega)
  refine ⟨g, o, e, fun j u hu => hr j u ?_⟩
  have hj : j < k := by have := (List.getElem?_eq_some_iff.1 hu).1; rw [List.length_map, hl] at this; exact this
  rw [← hu]
  simp [bcs, hj]
theorem Bt.cut {ao : Option Addr} {cap : Nat} {b : Bs} {k : Nat} (hk : k ≤ b.length) : ∃ a1 c1, (∀ q W, (Instr.sliceAt 47 (.slice ao b.length cap) (some (.int q (k : Int))) none none).run Tryz.prog W = .ok (.slice a1 (b.drop k).length c1) W) ∧ ∀ w, Bt w ao cap b → Bt w a1 c1 (b.drop k) := by
  refine ⟨_, _, fun q W => by rw [List.length_drop]; exact slice_from q ao b.length cap k hk W, fun w h => ⟨by rw [List.length_drop]; have := h.1; omega, fun h0 => ?_⟩⟩
  rw [List.length_drop] at h0
  obtain ⟨g, o, e, hr⟩ := h.2 (by omega)
  have hc : cap ≠ k := by have := h.1; omega
  rw [if_neg hc, e]
  refine ⟨g, o + k, by simp [Addr.add_mid], fun j u hu => ?_⟩
  have := hr (k + j) u (by
    rw [← hu]
    simp [bcs, List.getElem?_drop])
  rw [Nat.add_assoc]
  exact this
theorem Bt.low {w w' : World} {ao : Option Addr} {cap : Nat} {b : Bs} (h : Bt w ao cap b) (hB : Below w.heap.size w w') : Bt w' ao cap b := by
  refine ⟨h.1, fun h0 => ?_⟩
  obtain ⟨g, o, e, hr⟩ := h.2 h0
  refine ⟨g, o, e, fun j u hu => ?_⟩
  have := hr j u hu
  rw [← this]
  exact World.cell?_of_block (hB.block g (World.block_lt_of_cell? w ⟨g, o + j, none⟩ this))
/-- a row of calls lies there -/
def Os (w : World) (ao : Option Addr) (l : List Ox) : Prop := 0 < l.length → ∃ g o, ao = some ⟨g, o, none⟩ ∧ ∀ k (hk : k < l.length) j u, (xcs l[k])[j]? = some u → w.cell? ⟨g, o + k * 7 + j, none⟩ = some u
theorem Os.low {w w' : World} {ao : Option Addr} {l : List Ox} (h : Os w ao l) (hB : Below w.heap.size w w') : Os w' ao l := fun h0 => by
  obtain ⟨g, o, e, hr⟩ := h h0
  refine ⟨g, o, e, fun k hk j u hu => ?_⟩
  have := hr k hk j u hu
  rw [← this]
  exact World.cell?_of_block (hB.block g (World.block_lt_of_cell? w ⟨g, o + k * 7 + j, none⟩ this))
theorem pr_new (w w1 w2 : World) (x : Int) (h1 : Dv w1 w.heap.size (newD x) none []) (hb1 : Below w.heap.size w w1) (h2 : Rv w2 w1.heap.size (newD x) (.slice none 0 0) (.slice none 0 0) []) (hb2 : Below w1.heap.size w1 w2) : Pr (fun g => g < w.heap.size) w2 w.heap.size w1.heap.size (newD x) (newD x) := by
  have hd := h1.lt (g := w.heap.size) (by simp [Fp])
  refine ⟨⟨none, [], _, _, [], h1.low hb2, h2, fun g hg hm => ?_, fun g hg => ⟨?_, fun hm => ?_, fun hm => ?_⟩⟩, Nat.zero_le _, Nat.zero_le _⟩
  · have e1 : g = w.heap.size := by simpa [Fp] using hg
    have e2 : g = w1.heap.size := by simpa [Rm, Rr, ob, Value.ownBlock] using hm
    omega
  · have := hb1.size
    have := hb2.size
    have : g < w.heap.size := hg
    omega
  · have e1 : g = w.heap.size := by simpa [Fp] using hm
    have : g < w.heap.size := hg
    omega
  · have e2 : g = w1.heap.size := by simpa [Rm, Rr, ob, Value.ownBlock] using hm
    have : g < w.heap.size := hg
    have := hb1.size
    omega
theorem info5z : (Tryz.prog.info? 5).map (fun i => (i.zero, i.size, i.bytes)) = some (some (.int .u8 0), 1, 1) := by kernel_rfl
/-- bytes put behind bytes -/
theorem bytes_add {W : World} {base : Nat} {v : Value} {l : Bs} (h : W.ownsRow base 5 1 v l.length (bcs l)) (g : Nat) (b : Bs) (hb : W.rangeAt g 0 (bcs b)) (c : Nat) (hl : l.length + b.length ≤ 1000000) (hbase : base ≤ W.heap.size) :
    ∃ v' w', (∀ ty, (Builtin.append_ #[47, 47] ty #[v, .slice (some ⟨g, 0, none⟩) b.length c]).run Tryz.prog W = .ok v' w') ∧ w'.ownsRow base 5 1 v' (l ++ b).length (bcs (l ++ b)) ∧ W.grownBy w' v.ownBlock ∧ (v'.ownBlock = v.ownBlock ∨ v'.ownBlock = some W.heap.size) := by
  obtain ⟨i, hi, hz⟩ := Option.map_eq_some_iff.1 info5z
  obtain ⟨h1, h2, h3⟩ : i.zero = some (.int .u8 0) ∧ i.size = 1 ∧ i.bytes = 1 := by
    have e1 := congrArg Prod.fst hz
    have e2 := congrArg (fun x => x.2.1) hz
    have e3 := congrArg (fun x => x.2.2) hz
    exact ⟨e1, e2, e3⟩
  obtain ⟨v', w', a1, a2, a3, _, a5⟩ := run_append_own_at (P := Tryz.prog) W base 47 47 5 i _ 1 1 Tryz.underlying47 hi h1 h2 h3 rfl (by decide) v l.length (bcs l) h ⟨g, 0, none⟩ b.length c (bcs b) (by simp [bcs]) (fun j u hu => by rw [Addr.add_mid]; exact hb j u hu) (bcs_one b) (by unfold maxLen; omega) (by omega) hbase
  refine ⟨v', w', fun ty => a1, ?_, a3, a5⟩
  have e : bcs (l ++ b) = bcs l ++ bcs b := by simp [bcs]
  rw [e, List.length_append]
  exact a2
theorem row_bo {W : World} {base : Nat} {v : Value} {l : Bs} (h : W.ownsRow base 5 1 v l.length (bcs l)) : Bo W v l := by
  rcases h.2 with ⟨h1, h2⟩ | ⟨g, cap, cur, h1, _, h3, h4, h5, h6, h7⟩
  · refine ⟨none, 0, by rw [h1, h2], fun h0 => absurd h2 (by omega)⟩
  · refine ⟨_, cap, h1, fun _ => ⟨g, 0, rfl, fun j u hu => ?_⟩⟩
    have hj : j < l.length := by have := (List.getElem?_eq_some_iff.1 hu).1; simpa [bcs] using this
    rw [Nat.zero_add, cell_of_heap h3, ← Array.getElem?_toList, ← hu, ← h7, List.getElem?_take, if_pos (by omega)]
/-- a row apart from both disks grows -/
theorem Pr.grew {K : Nat → Prop} {W w' : World} {d q : Nat} {s t : Ds} {v v' : Value} (h : Pr (fun g => K g ∨ v.ownBlock = some g) W d q s t) (hg : W.grownBy w' v.ownBlock) (hv : v'.ownBlock = v.ownBlock ∨ v'.ownBlock = some W.heap.size) (hlt : ∀ g, v'.ownBlock = some g → g < w'.heap.size) (hK : ∀ g, K g → v.ownBlock ≠ some g) : Pr (fun g => K g ∨ v'.ownBlock = some g) w' d q s t ∧ Kw K W w' := by
  have hlt0 : ∀ {g : Nat}, K g → g < W.heap.size := fun hk => h.lt (.inl hk)
  obtain ⟨mb, ms, fv, ov, ss, h1, h2, h3, h4⟩ := h.ex
  refine ⟨⟨⟨mb, ms, fv, ov, ss, h1.same (fun g hm => hg.block g (h1.lt hm) (fun e => (h4 g (.inr e.symm)).2.1 hm)), h2.same (fun g hm => hg.block g (h2.lt hm) (fun e => (h4 g (.inr e.symm)).2.2 hm)), h3, fun g hk => ?_⟩, h.qs, h.qt⟩, ⟨hg.os, hg.tape, hg.output, hg.size, fun g hk => hg.block g (hlt0 hk) (fun e => hK g hk e.symm)⟩⟩
  rcases hk with hk | hk
  · obtain ⟨a, b, c⟩ := h4 g (.inl hk)
    exact ⟨Nat.lt_of_lt_of_le a hg.size, b, c⟩
  · rcases hv with e | e
    · obtain ⟨a, b, c⟩ := h4 g (.inr (e ▸ hk))
      exact ⟨Nat.lt_of_lt_of_le a hg.size, b, c⟩
    · have e2 : g = W.heap.size := by rw [e] at hk; cases hk; rfl
      exact ⟨hlt g hk, fun hm => by have := h1.lt hm; omega, fun hm => by have := h2.lt hm; omega⟩
theorem flat_take {P : List Bs} {i : Nat} (hi : i < P.length) : (P.take (i + 1)).flatten = (P.take i).flatten ++ P[i] := by
  rw [List.take_add_one, List.getElem?_eq_getElem hi, List.flatten_append]
  simp
theorem flat_le {P : List Bs} (hp : ∀ p ∈ P, p.length = 256) : ∀ i, (P.take i).flatten.length ≤ i * 256 := by
  induction P with
  | nil => intro i; simp
  | cons a P ih =>
    intro i
    cases i with
    | zero => simp
    | succ i =>
      rw [List.take_succ_cons, List.flatten_cons, List.length_append, hp a (by simp)]
      have := ih (fun p h => hp p (by simp [h])) i
      omega
theorem Way.pgs {s : Ds} {t : Bs} {P : List Bs} {left : Nat} (h : Way s t P left) (hok : Dok s) : ∀ p ∈ P, p.length = 256 := by
  obtain ⟨f, h1, _, h3⟩ := h.fil
  rw [← h3]
  exact pages_ok hok h1
theorem Way.less {s : Ds} {t : Bs} {P : List Bs} {a b : Nat} (h : Way s t P a) (hb : b ≤ a) : Way s t P b := ⟨h.off, h.set, Nat.le_trans hb h.inn, h.fil⟩
theorem bw_range {lo : Nat} {w : World} {v : Value} {b : Bs} (h : Bw lo w v b) (h0 : 0 < b.length) : ∃ g, v = .slice (some ⟨g, 0, none⟩) b.length b.length ∧ w.rangeAt g 0 (bcs b) := by
  rcases h.br with ⟨_, h2⟩ | ⟨g, h1, h2⟩
  · rw [h2] at h0; simp at h0
  · exact ⟨g, h1, h2⟩
end Go.Proofs.YtojnembakhhgiaaGreat
