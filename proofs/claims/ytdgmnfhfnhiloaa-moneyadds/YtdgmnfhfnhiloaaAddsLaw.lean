/- MoneyAdds as a call. -/
import Derived.Test.YtdgmnfhfnhiloaaLawsB
import Derived.Deep.RegionHeld3
import Derived.Lib.AppendStr
import Derived.Maps.AppendAt
import Derived.Deep.AppendSrc
namespace Go.Proofs.Ytdgmnfhfnhiloaa
open Go.RowKit

/-- append, its run known -/
theorem wpList_append_run {P : Program} {w : World} {ops : Array Oper} {rest : List Oper} {o : Oper} {a : Act} {Q : Exit → Act → World → Prop} (hgd : o.guard = none) (s x : Operand) (t : TypeId)
    (ho : o.op = .call { callee := .builtin .append, args := #[s, x], argTypes := #[t, t] }) (v xv v' : Value) (w' : World) (hs : a.eval s = v) (hx : a.eval x = xv)
    (hrun : ∀ ty, (Builtin.append_ #[t, t] ty #[v, xv]).run P w = .ok v' w') (h : wpList P ops Q rest (a.put o.dst v') w') : wpList P ops Q (o :: rest) a w := by
  refine wpList_plain hgd fun K hK => ?_
  unfold Oper.wp
  simp [execOp, ho, resolve, invoke, builtin, hs, hx, hrun, Result.andThen]
  exact hK _ _ h
theorem Try.info2 : (Try.prog.info? 2).map (fun i => (i.zero, i.size, i.bytes)) = some (some (.int .i64 0), 1, 8) := by kernel_rfl
theorem lt_of_block {w : World} {b : Nat} {o : Obj} (h : w.heap[b]? = some o) : b < w.heap.size := by
  apply Classical.byContradiction
  intro hn
  rw [Array.getElem?_eq_none (by omega)] at h
  cases h
theorem add_off (b o j : Nat) : (⟨b, o, none⟩ : Addr).add j = ⟨b, o + j, none⟩ := by simp [Addr.add]
theorem ints_get {l : List Int} {i : Nat} (h : i < l.length) : (l.map fun x => Value.int .i64 x)[i]? = some (.int .i64 (l.getD i 0)) := by simp [h]
theorem drew2 {w2 wr : World} (h : ∃ m, wr = w2.drewN m) (q : Nat) : ∃ m, wr.drewN q = w2.drewN m := by
  obtain ⟨m, rfl⟩ := h
  exact ⟨m + q, by rw [World.drewN_drewN]⟩
/-- a copy of a row of numbers -/
theorem own_copy (w : World) (a : Option Addr) (cap : Nat) (l : List Int) (h : Li w a cap l) (hl : l.length ≤ 1000000) :
    ∃ ao kc w', (∀ ty, (Builtin.append_ #[22, 22] ty #[.slice none 0 0, .slice a l.length cap]).run Try.prog w = .ok (.slice ao l.length kc) w') ∧ Li w' ao kc l ∧ Below w.heap.size w w' := by
  obtain ⟨i0, hi, hz0, hz1, hz2⟩ := info_parts Try.info2
  by_cases h0 : 0 < l.length
  · obtain ⟨cb, co, rfl, hlt, hc⟩ := h.som h0
    obtain ⟨v', w', h1, h2, h3, _⟩ := run_append_own (P := Try.prog) w w.heap.size 22 22 2 i0 _ 1 8 Try.underlying22 hi hz0 hz1 hz2 rfl (by decide) (.slice none 0 0) 0 [] (World.ownsRow_nil _ _ _ _) ⟨cb, co, none⟩ l.length cap (l.map fun x => Value.int .i64 x) (by simp) (fun j u hu => by
      have hj : j < l.length := by have := (List.getElem?_eq_some_iff.1 hu).1; simpa using this
      rw [add_off, hc j hj, ← hu, ints_get hj]) (fun u hu => by obtain ⟨x, _, rfl⟩ := List.mem_map.1 hu; rfl) (by unfold maxLen; omega) (by omega) (Nat.le_refl _)
    rw [Nat.zero_add, List.nil_append] at h2
    have hb : Below w.heap.size w w' := ⟨h3.os, h3.tape, h3.output, h3.size, fun k hk => h3.block k hk (fun e => by cases e)⟩
    rcases h2.2 with ⟨_, g2⟩ | ⟨g, cp, cur, rfl, g2, g3, g4, g5, g6, g7⟩
    · omega
    · refine ⟨_, _, w', fun ty => h1, ⟨g4, fun _ => ⟨g, 0, rfl, lt_of_block g3, fun i hi => ?_⟩⟩, hb⟩
      have e : (cur.toList.take (l.length * 1))[i]? = some (.int .i64 (l.getD i 0)) := by rw [g7]; exact ints_get hi
      rw [Nat.mul_one, List.getElem?_take_of_lt hi, Array.getElem?_toList] at e
      rw [cell_of_heap g3, Nat.zero_add]
      exact e
  · obtain rfl : l = [] := List.eq_nil_of_length_eq_zero (by omega)
    refine ⟨none, 0, w, fun ty => ?_, ⟨Nat.le_refl _, fun h => absurd h h0⟩, Below.refl _ _⟩
    cases a <;> simp [Builtin.append_, Builtin.firstCells, run_underlying Try.underlying22, sizeOf, typeInfo, hi, Builtin.lenOf, go_sem]

set_option maxHeartbeats 4000000 in
theorem adds_any (w : World) (s : Option Addr) (cap : Nat) (l : List Int) (a b : Int) (h : Li w s cap l) : Calls Try.prog 3 #[.slice s l.length cap, .int .i64 a, .int .i64 b] w fun e w' => e = .returned (.bool true) ∧ Below w.heap.size w w' := by
  by_cases hn : l.length ≤ 1000
  · obtain ⟨ao, kc, w1, hrun, hli, hb⟩ := own_copy w s cap l h (by omega)
    have H1 := hid (fun W => add_any a b W)
    have H2 := hid (fun W => sub_any a b W)
    have H3 := hid (fun W (hw : Below w1.heap.size w1 W) => sum_any W ao kc l (hli.below hw) (by omega))
    have H4 := hid (fun W => radd_any a b W)
    have H5 := hid (fun W => rsub_any a b W)
    have H6 := hid (fun W (hw : Below w.heap.size w W) => rsum_any W s cap l (h.below hw) (by omega))
    have H7 := hid (fun W => right_any a W)
    have H8 := hid (fun W => rright_any a W)
    unfold ans at H1 H2 H3 H4 H5 H6
    generalize val (addO a b) = v1 at H1 H4
    generalize err (addO a b) = e1 at H1 H4
    generalize val (subO a b) = v2 at H2 H5
    generalize err (subO a b) = e2 at H2 H5
    generalize val (sumO l) = v3 at H3 H6
    generalize err (sumO l) = e3 at H3 H6
    generalize rt a = ra at H7 H8
    have HL := hid h
    have HO := hid hli
    have HB0 := hid hb
    have HR := hid hrun
    obtain ⟨n, hnn⟩ : ∃ n, n = l.length := ⟨_, rfl⟩
    rw [← hnn] at H3 H6 HR hn ⊢
    have HN := hid hnn
    clear h hli hb hrun hnn
    go_enter Try.func3, Try.ntmps3
    go_wp2_with (first | (at_builtin; refine wpList_append_run rfl (.tmp 24) (.tmp 25) 22 rfl (.slice none 0 0) (.slice s n cap) (.slice ao n kc) w1 rfl rfl HR.out ?_) | fail)
    refine (H1.out _).mono ?_
    rintro e w2 ⟨rfl, hb2⟩
    have HB2 := hid hb2
    clear hb2
    go_wp2_with fail
    refine (H2.out _).mono ?_
    rintro e w3 ⟨rfl, hw⟩
    subst hw
    go_wp2_with fail
    refine (H3.out _ HB2.out).mono ?_
    rintro e w4 ⟨rfl, hw⟩
    subst hw
    go_wp2_with fail
    refine (H4.out _).mono ?_
    rintro e w5 ⟨rfl, hw⟩
    subst hw
    go_wp2_with fail
    refine (H5.out _).mono ?_
    rintro e w6 ⟨rfl, hw⟩
    subst hw
    go_wp2_with fail
    have HBW := hid (HB0.out.trans (HB2.out.mono HB0.out.size))
    refine (H6.out _ HBW.out).mono ?_
    rintro e w7 ⟨rfl, hw⟩
    subst hw
    go_wp2_with fail
    have HW : Hid (∀ i, i < n → ∃ x, w7.cell? ((ao.getD default).add i) = some (.int .i64 x) ∧ w7.cell? ((s.getD default).add i) = some (.int .i64 x)) := by
      apply hid
      intro i hi
      have hl0 : i < l.length := by rw [← HN.out]; exact hi
      obtain ⟨cb, co, e1, _, c1⟩ := (HO.out.below HB2.out).som (by omega)
      obtain ⟨db, d0, e2, _, c2⟩ := (HL.out.below HBW.out).som (by omega)
      refine ⟨l.getD i 0, ?_, ?_⟩
      · rw [e1]; exact (congrArg w7.cell? (add_off cb co i)).trans (c1 i hl0)
      · rw [e2]; exact (congrArg w7.cell? (add_off db d0 i)).trans (c2 i hl0)
    have HS1 : Hid (0 < n → (∃ cb co, ao = some ⟨cb, co, none⟩) ∧ ∃ db d0, s = some ⟨db, d0, none⟩) := by
      apply hid
      intro h0
      obtain ⟨cb, co, e1, _⟩ := HO.out.som (by rw [← HN.out]; exact h0)
      obtain ⟨db, d0, e2, _⟩ := HL.out.som (by rw [← HN.out]; exact h0)
      exact ⟨⟨cb, co, e1⟩, db, d0, e2⟩
    go_loopg [20] n (fun gg vj wr => ∃ j : Nat, j ≤ n ∧ gg = n - j ∧ vj = .int .i64 (j : Int) ∧ ∃ q, wr = w7.drewN q)
    case atStart => exact ⟨0, by omega, by omega, rfl, 0, rfl⟩
    case round =>
      obtain ⟨j, hj, rfl, rfl, q, hq⟩ := hrel
      by_cases hlt : j < n
      · obtain ⟨⟨cb, co, rfl⟩, db, d0, rfl⟩ := HS1.out (by omega)
        obtain ⟨x, c1, c2⟩ := HW.out j hlt
        have c1' : wr.cell? ⟨cb, co + j, none⟩ = some (.int .i64 x) := by rw [hq]; exact (congrArg w7.cell? (add_off cb co j)).symm.trans c1
        have c2' : wr.cell? ⟨db, d0 + j, none⟩ = some (.int .i64 x) := by rw [hq]; exact (congrArg w7.cell? (add_off db d0 j)).symm.trans c2
        have HQ := hid hq
        clear c1 c2 hq
        go_wp2_with fail
        go_quiet (fail)
        go_wp2_with fail
        go_roundg (n - (j + 1))
        case measure => omega
        case rel => exact ⟨j + 1, by omega, rfl, by go_num, drew2 ⟨q, HQ.out⟩ _⟩
      · have HQ := hid hq
        clear hq
        go_wp2_with fail
        refine (H7.out _).mono ?_
        rintro e w8 ⟨rfl, hw⟩
        subst hw
        go_wp2_with fail
        refine (H8.out _).mono ?_
        rintro e w9 ⟨rfl, hw⟩
        subst hw
        go_wp2_with fail
        refine (works_any _).mono ?_
        rintro e w10 ⟨rfl, hb10⟩
        have HB10 := hid hb10
        clear hb10
        go_wp2_with fail
        go_ret
        refine ⟨rfl, ?_⟩
        have h1 := HB10.out
        rw [HQ.out] at h1
        exact (below_to_drewN HBW.out q).trans (h1.mono HBW.out.size)
  · have hn' : ¬ (l.length : Int) ≤ 1000 := by omega
    generalize l.length = n at hn hn'
    go_enter Try.func3, Try.ntmps3
    go_wp2_with fail
    go_ret
    exact ⟨rfl, Below.refl _ _⟩
end Go.Proofs.Ytdgmnfhfnhiloaa
