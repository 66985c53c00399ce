import Derived.Test.YtdhmmllpioppfaaGreatVRAll
import Derived.Test.YtdhmmllpioppfaaGreatWMath
import Derived.Test.YtdhmmllpioppfaaGreatWFit
import Derived.Test.YtdhmmllpioppfaaGreatWEnc
/- A text's bytes. -/
namespace Go.Proofs.YtdhmmllpioppfaaGreat.V
open Go.RowKit

theorem strCells_bcs (l : Bs) : Lib.strCells ⟨l.toArray⟩ = bcs l := by simp [Lib.strCells, Lib.byteCells]
/-- append of a text, its run known -/
theorem wpList_append_runs {P : Program} {w : World} {ops : Array Oper} {rest : List Oper} {o : Oper} {a : Act} {Q : Exit → Act → World → Prop} (hgd : o.guard = none) (s x : Operand) (t u : TypeId)
    (ho : o.op = .call { callee := .builtin .append, args := #[s, x], argTypes := #[t, u] }) (v xv v' : Value) (w' : World) (hs : a.eval s = v) (hx : a.eval x = xv)
    (hrun : ∀ ty, (Builtin.append_ #[t, u] ty #[v, xv]).run P w = .ok v' w') (h : wpList P ops Q rest (a.put o.dst v') w') : wpList P ops Q (o :: rest) a w := by
  refine wpList_plain hgd fun K hK => ?_
  unfold Oper.wp
  simp [execOp, ho, resolve, invoke, builtin, hs, hx, hrun, Result.andThen]
  exact hK _ _ h
theorem append_text {w : World} {base : Nat} {v : Value} {xs l : Bs} (hown : w.ownsRow base 5 1 v xs.length (bcs xs)) (hb : xs.length + l.length ≤ 140737488355328) (hbase : base ≤ w.heap.size) :
    ∃ ao cap w', (∀ ty, (Builtin.append_ #[33, 9] ty #[v, St l]).run Tryz.prog w = .ok (.slice ao (xs ++ l).length cap) w') ∧ w'.ownsRow base 5 1 (.slice ao (xs ++ l).length cap) (xs ++ l).length (bcs (xs ++ l)) ∧ w.grownBy w' v.ownBlock := by
  obtain ⟨i0, hi, hz0, hz1, hz2⟩ := info_get Tryz.info5
  have hsz : (⟨l.toArray⟩ : ByteArray).size = l.length := by simp [ByteArray.size]
  obtain ⟨v', w', h4, h5, h6, _⟩ := Lib.run_append_own_string (P := Tryz.prog) w base 33 9 33 5 i0 Tryz.underlying33 Tryz.underlying9 hi hz0 hz1 hz2 v xs.length (bcs xs) hown ⟨l.toArray⟩ (by rw [hsz]; unfold maxLen; omega) (by rw [hsz]; omega) hbase
  rw [strCells_bcs, hsz, bcs_app, ← List.length_append] at h5
  have hv : ∃ ao cap, v' = .slice ao (xs ++ l).length cap := by
    rcases h5.2 with ⟨h1, h2⟩ | ⟨g, cap, _, h1, _⟩
    · rw [h2]; exact ⟨_, _, h1⟩
    · exact ⟨_, _, h1⟩
  obtain ⟨ao, cap', rfl⟩ := hv
  exact ⟨ao, cap', w', fun ty => h4, h5, h6⟩
set_option maxRecDepth 100000 in
set_option maxHeartbeats 4000000 in
theorem rtext_any (s : Bs) (hs : s.length ≤ 1000000) (w : World) :
    Calls Tryz.prog 22 #[St s] w fun e w' => ∃ ao cap, e = .returned (.slice ao (txt s).length cap) ∧ w'.ownsRow w.heap.size 5 1 (.slice ao (txt s).length cap) (txt s).length (bcs (txt s)) ∧ Below w.heap.size w w' := by
  have hsz : (⟨s.toArray⟩ : ByteArray).size = s.length := by simp [ByteArray.size]
  have hw : IntKind.u64.wrap (s.length : Int) = (s.length : Int) := by rw [IntKind.wrap_u64]; omega
  have HP := hid (rput_any s.length (by omega) w)
  unfold txt
  have HPL : Hid ((putB s.length).length ≤ 9) := hid (by rw [put_len]; exact sizeN_le (formN_lt _))
  have HSL := hid hs
  clear hs
  generalize putB s.length = T at *
  go_enter Tryz.func22, Tryz.ntmps22
  go_wp2_with fail
  refine HP.out.mono ?_
  rintro e w1 ⟨a1, c1, rfl, ho, hb⟩
  obtain ⟨a2, c2, w2, hrun, hown, hg⟩ := append_text ho (l := s) (by have := HPL.out; have := HSL.out; omega) hb.size
  have HR := hid hrun
  have HO := hid hown
  have HB := hid (hb.grown hg hb.size (fun k h => (ho.lt k h).1))
  clear hrun hown hg ho hb HP
  obtain ⟨ul, hul⟩ : ∃ k, k = (T ++ s).length := ⟨_, rfl⟩
  rw [← hul] at HR HO
  have HUL := hid hul
  clear hul
  generalize T.length = tl at *
  go_wp2_with (first | (at_builtin; refine wpList_append_runs rfl (.tmp 8) (.tmp 9) 33 9 rfl (.slice a1 tl c1) (St s) (.slice a2 ul c2) w2 rfl rfl HR.out ?_) | fail)
  go_ret
  refine ⟨a2, c2, ?_⟩
  rw [← HUL.out]
  exact ⟨rfl, HO.out, HB.out⟩
end Go.Proofs.YtdhmmllpioppfaaGreat.V

/- A row of bytes that grows, step by step. -/
namespace Go.Proofs.YtdhmmllpioppfaaGreat.V
open Go.RowKit

/-- the row lies behind wb, has the bytes T, at most K -/
structure Eb (K : Nat) (wb : World) (ar : Option Addr) (tl cr : Nat) (T : Bs) (W : World) : Prop where
  len : tl = T.length
  bnd : T.length ≤ K
  own : W.ownsRow wb.heap.size 5 1 (.slice ar tl cr) T.length (bcs T)
  bel : Below wb.heap.size wb W
theorem Eb.call {K : Nat} {wb : World} {ar : Option Addr} {tl cr : Nat} {T : Bs} {W W' : World} (h : Eb K wb ar tl cr T W) (hb : Below W.heap.size W W') : Eb K wb ar tl cr T W' :=
  ⟨h.len, h.bnd, ownsRow_same h.own (fun g e => hb.block g (h.own.lt g e).2), two_low h.bel hb⟩
theorem Eb.more {K K' : Nat} {wb : World} {ar : Option Addr} {tl cr : Nat} {T : Bs} {W : World} (h : Eb K wb ar tl cr T W) (hk : K ≤ K') : Eb K' wb ar tl cr T W := ⟨h.len, Nat.le_trans h.bnd hk, h.own, h.bel⟩
theorem Eb.is {K : Nat} {wb : World} {ar : Option Addr} {tl cr : Nat} {T T' : Bs} {W : World} (h : Eb K wb ar tl cr T W) (e : T = T') : Eb K wb ar tl cr T' W := e ▸ h
theorem Eb.add {K : Nat} {wb : World} {ar : Option Addr} {tl cr : Nat} {T : Bs} {W : World} (h : Eb K wb ar tl cr T W) {u : Value} {l : Bs} (hs : Sl W u l) (j : Nat) (hl : l.length ≤ j) (hk : K + j ≤ 100000000) :
    ∃ a' t' c' W', (∀ ty, (Builtin.append_ #[33, 33] ty #[.slice ar tl cr, u]).run Tryz.prog W = .ok (.slice a' t' c') W') ∧ Eb (K + j) wb a' t' c' (T ++ l) W' := by
  have hb := h.bnd
  obtain ⟨a, c, W', hr, ho, hg⟩ := append_bytes h.own hs (by omega) h.bel.size
  exact ⟨a, _, c, W', hr, rfl, by rw [List.length_append]; omega, ho, h.bel.grown hg h.bel.size (fun k e => (h.own.lt k e).1)⟩
theorem Eb.byte {K : Nat} {wb : World} {ar : Option Addr} {tl cr : Nat} {T : Bs} {W : World} (h : Eb K wb ar tl cr T W) (c : Nat) (z : Int) (hz : z = ((UInt8.ofNat c).toNat : Int)) (hk : K ≤ 100000000) :
    ∃ a' t' c' W', (∀ ty, (Builtin.append_ #[33, 33] ty #[.slice ar tl cr, .slice (some ⟨W.heap.size, 0, none⟩) 1 1]).run Tryz.prog (W.alloc (.cells #[.int .u8 z] 5)) = .ok (.slice a' t' c') W') ∧ Eb (K + 1) wb a' t' c' (T ++ [UInt8.ofNat c]) W' := by
  have hb := h.bnd
  obtain ⟨a, cc, W', hr, ho, hg⟩ := append_byte c z hz h.own (by omega) h.bel.size
  have e : T.length + 1 = (T ++ [UInt8.ofNat c]).length := by simp
  refine ⟨a, _, cc, W', hr, e, by rw [← e]; omega, ho, below_own h.bel h.own hg⟩
theorem Eb.start {wb w1 : World} (hb : Below wb.heap.size wb w1) (k : Nat) (z0 z1 : Int) (h0 : z0 = (k : Int) / 256 % 256) (h1 : z1 = (k : Int) % 256) : Eb 2 wb (some ⟨w1.heap.size, 0, none⟩) 2 2 (be 2 k) (w1.alloc (.cells #[.int .u8 z0, .int .u8 z1] 5)) := by
  have e : be 2 k = [UInt8.ofNat (k / 256), UInt8.ofNat k] := by simp [be]
  have b0 : z0 = ((UInt8.ofNat (k / 256)).toNat : Int) := by rw [bv, h0]; rfl
  have b1 : z1 = ((UInt8.ofNat k).toNat : Int) := by rw [bv0, h1]
  rw [e]
  refine ⟨rfl, by simp, ⟨by simp [Lib.byteCells], .inr ⟨w1.heap.size, 2, _, rfl, hb.size, heap_alloc_new w1 _, Nat.le_refl _, by unfold maxLen; omega, rfl, ?_⟩⟩, hb.alloc hb.size _⟩
  rw [b0, b1]
  simp [Lib.byteCells]
end Go.Proofs.YtdhmmllpioppfaaGreat.V
