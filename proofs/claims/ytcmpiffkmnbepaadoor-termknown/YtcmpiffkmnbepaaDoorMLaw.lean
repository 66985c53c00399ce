/- What TermMakes answers. -/
import Derived.Test.YtcmpiffkmnbepaaDoorRTup
import Derived.Test.YtcmpiffkmnbepaaDoorWorks
import Derived.BigQuiet
import Derived.Lib.AppendStr
namespace Go.Proofs.YtcmpiffkmnbepaaDoor
open Go.RowKit

theorem texts_own {w : World} {base : Nat} {v : Value} {ks : List Bs} (h : w.ownsRow base 22 1 v ks.length (ks.map St)) : Texts w v ks := by
  rcases h.2 with ⟨h1, h2⟩ | ⟨g, cap, cur, hv, hb, hg, hc1, hc2, hc3, hc4⟩
  · exact ⟨none, 0, by rw [h2]; exact h1, fun hne => absurd (List.eq_nil_of_length_eq_zero h2) hne⟩
  · refine ⟨_, _, hv, fun _ => ⟨g, 0, rfl, lt_of_block hg, fun i hi => ?_⟩⟩
    have e : (cur.toList.take (ks.length * 1))[i]? = some (St ks[i]) := by rw [hc4]; simp [hi]
    rw [Nat.mul_one, List.getElem?_take_of_lt (by omega), Array.getElem?_toList] at e
    rw [cell_of_heap hg, Nat.zero_add]
    exact e

theorem wpList_append_run {P : Program} {w : World} {ops : Array Oper} {rest : List Oper} {o : Oper} {a : Act} {Q : Exit → Act → World → Prop} (hgd : o.guard = none) (s x : Operand) (t : TypeId)
    (ho : o.op = .call { callee := .builtin .append, args := #[s, x], argTypes := #[t, t] }) (v xv v' : Value) (w' : World) (hs : a.eval s = v) (hx : a.eval x = xv)
    (hrun : ∀ ty, (Builtin.append_ #[t, t] ty #[v, xv]).run P w = .ok v' w') (h : wpList P ops Q rest (a.put o.dst v') w') : wpList P ops Q (o :: rest) a w := by
  refine wpList_plain hgd fun K hK => ?_
  unfold Oper.wp
  simp [execOp, ho, resolve, invoke, builtin, hs, hx, hrun, Result.andThen]
  exact hK _ _ h

theorem below_own {w0 w w' : World} {e : TypeId} {size : Nat} {v : Value} {n : Nat} {xs : List Value} (hb : Below w0.heap.size w0 w) (ho : w.ownsRow w0.heap.size e size v n xs) (hg : w.grownBy w' v.ownBlock) : Below w0.heap.size w0 w' :=
  ⟨hg.os.trans hb.os, hg.tape.trans hb.tape, hg.output.trans hb.output, Nat.le_trans hb.size hg.size, fun k hk => (hg.block k (Nat.lt_of_lt_of_le hk hb.size) (fun e => by have := (ho.lt k e.symm).1; omega)).trans (hb.block k hk)⟩

theorem add_plain (g o j : Nat) : (⟨g, o, none⟩ : Addr).add j = ⟨g, o + j, none⟩ := by simp [Addr.add]

/-- terms copied into a slice of one's own -/
theorem append_terms (w : World) (kv : Value) (ks : List Bs) (hk : Texts w kv ks) (hn : ks.length ≤ 40) :
    ∃ a cap w', (∀ ty, (Builtin.append_ #[23, 23] ty #[.slice none 0 0, kv]).run Tryd.prog w = .ok (.slice a ks.length cap) w') ∧ Texts w' (.slice a ks.length cap) ks ∧ Below w.heap.size w w' := by
  obtain ⟨i0, hi, hz0, hz1, hz2⟩ := info_parts Tryd.info22
  obtain ⟨ao, cap, rfl, hc⟩ := hk
  by_cases h0 : ks = []
  · subst h0
    refine ⟨none, 0, w, fun ty => ?_, ⟨none, 0, rfl, fun h => absurd rfl h⟩, Below.refl _ _⟩
    cases ao <;> simp [Builtin.append_, Builtin.firstCells, run_underlying Tryd.underlying23, sizeOf, typeInfo, hi, Builtin.lenOf, go_sem]
  · obtain ⟨g, o, rfl, hlt, hcell⟩ := hc h0
    obtain ⟨v', w', h1, h2, h3, _⟩ := run_append_own (P := Tryd.prog) w w.heap.size 23 23 22 i0 _ 1 16 Tryd.underlying23 hi hz0 hz1 hz2 rfl (by decide) (.slice none 0 0) 0 [] (World.ownsRow_nil _ _ _ _) ⟨g, o, none⟩ ks.length cap (ks.map St) (by simp) (fun j u hu => by
      have hj : j < ks.length := by have := (List.getElem?_eq_some_iff.1 hu).1; simpa using this
      rw [add_plain, hcell j hj, ← hu]; simp [hj]) (fun u hu => by obtain ⟨x, _, rfl⟩ := List.mem_map.1 hu; rfl) (by unfold maxLen; omega) (by omega) (Nat.le_refl _)
    rw [Nat.zero_add, List.nil_append] at h2
    have ht := texts_own h2
    obtain ⟨a, c, rfl, _⟩ := id ht
    exact ⟨a, c, w', fun ty => h1, ht, below_own (Below.refl _ _) (World.ownsRow_nil w w.heap.size 22 1) h3⟩

set_option maxHeartbeats 4000000 in
set_option maxRecDepth 100000 in
theorem makes_many (n : Int) (s : Bs) (w : World) (a : Option Addr) (cap : Nat) (ks : List Bs) (hk : Texts w (.slice a ks.length cap) ks) (hl : 40 < ks.length) (hm : ks.length ≤ maxLen) (_hs : s.length ≤ 140737488355328) :
    Calls Tryd.prog 4 #[.int .i64 n, St s, .slice a ks.length cap] w fun en w' => en = .returned (.bool true) ∧ Below w.heap.size w w' := by
  have hsz : (⟨s.toArray⟩ : ByteArray).size = s.length := st_size s
  obtain ⟨ao, cap', e, hc⟩ := hk
  obtain ⟨rfl, rfl⟩ : a = ao ∧ cap = cap' := by simpa using e
  obtain ⟨g, o, rfl, hlt, hcell⟩ := hc (by intro e; rw [e] at hl; simp at hl)
  have HC := hid hcell
  clear hc hcell e
  obtain ⟨N, hN⟩ : ∃ N, N = ks.length := ⟨_, rfl⟩
  rw [← hN] at hl hm ⊢
  have HN := hid hN
  clear hN
  unfold maxLen at hm
  have hn1 : (40 : Int) < (N : Int) := by omega
  have HM := hid hm
  clear hm hl
  generalize s.length = sl at hsz
  go_enter Tryd.func4, Tryd.ntmps4
  go_wp2_with fail
  go_loopg [7, 8] N (fun gg v7 v8 wr => ∃ (i : Nat) (x : Int), i ≤ N ∧ gg = N - i ∧ v7 = .int .i64 x ∧ v8 = .int .i64 (i : Int) ∧ wr = w)
  case atStart => exact ⟨0, _, by omega, rfl, rfl, rfl, rfl⟩
  case round =>
    obtain ⟨i, x, hi, rfl, rfl, rfl, rfl⟩ := hrel
    by_cases hil : i < N
    · have hi1 : (i : Int) < (N : Int) := by omega
      have HIL := hid hil
      have hiw : IntKind.i64.wrap ((i : Int) + 1) = (i : Int) + 1 := by have := HM.out; rw [IntKind.wrap_i64]; omega
      have hce := HC.out i (by rw [← HN.out]; exact hil)
      generalize ks[i]'(by rw [← HN.out]; exact hil) = k at hce
      have hks : (⟨k.toArray⟩ : ByteArray).size = k.length := st_size k
      clear hi hil
      go_wp2_with fail
      go_roundg (N - (i + 1))
      case measure => have := HIL.out; omega
      case rel => exact ⟨i + 1, _, HIL.out, rfl, rfl, rfl, rfl⟩
    · have hi1 : ¬ (i : Int) < (N : Int) := by omega
      clear hi hil
      by_cases hx : 20000 < x
      all_goals
        go_wp2_with fail
        go_ret
        exact ⟨rfl, Below.refl _ _⟩
end Go.Proofs.YtcmpiffkmnbepaaDoor
