import Derived.Test.YtmdiggbbgcjcnaaDoorSdN
import Derived.Deep.AppendSrc
import Derived.Maps.AppendAt
/- Rows of terms of one's own; a number picked. -/
namespace Go.Proofs.YtmdiggbbgcjcnaaDoor
open Go.RowKit

/-- append, its run known -/
theorem wpList_append_run {P : Program} {w : World} {ops : Array Oper} {rest : List Oper} {o : Oper} {a : Act} {Q : Exit → Act → World → Prop} (hgd : o.guard = none) (s x : Operand) (t u : TypeId)
    (ho : o.op = .call { callee := .builtin .append, args := #[s, x], argTypes := #[t, u] }) (v xv v' : Value) (w' : World) (hs : a.eval s = v) (hx : a.eval x = xv)
    (hrun : ∀ ty, (Builtin.append_ #[t, u] ty #[v, xv]).run P w = .ok v' w') (h : wpList P ops Q rest (a.put o.dst v') w') : wpList P ops Q (o :: rest) a w := by
  refine wpList_plain hgd fun K hK => ?_
  unfold Oper.wp
  simp [execOp, ho, resolve, invoke, builtin, hs, hx, hrun, Result.andThen]
  exact hK _ _ h
theorem row_shape {w : World} {base : Nat} {e : TypeId} {sz : Nat} {v : Value} {n : Nat} {xs : List Value} (h : w.ownsRow base e sz v n xs) : ∃ ao cap, v = .slice ao n cap := by
  rcases h.2 with ⟨h1, h2⟩ | ⟨g, cap, _, h1, _⟩
  · rw [h2]; exact ⟨_, _, h1⟩
  · exact ⟨_, _, h1⟩
theorem below_own {b : Nat} {w0 w w' : World} {e : TypeId} {size : Nat} {v : Value} {n : Nat} {xs : List Value} (hb : Below b w0 w) (hbs : b ≤ w.heap.size) (ho : w.ownsRow b e size v n xs) (hg : w.grownBy w' v.ownBlock) : Below b w0 w' := by
  refine ⟨hg.os.trans hb.os, hg.tape.trans hb.tape, hg.output.trans hb.output, Nat.le_trans hb.size hg.size, fun k hk => ?_⟩
  rw [hg.block k (by omega) (fun e => by have := (ho.lt k e.symm).1; omega)]
  exact hb.block k hk
theorem add_plain (g o i : Nat) : (⟨g, o, none⟩ : Addr).add i = ⟨g, o + i, none⟩ := by
  unfold Addr.add
  split
  · rename_i h; subst h; rfl
  · rfl
/-- one element more -/
theorem app_run {t e : TypeId} {sz bt : Nat} {i0 : TypeInfo} {z : Value} (ht : Tryd.prog.underlying t = some (.slice e)) (hi : Tryd.prog.info? e = some i0) (hz0 : i0.zero = some z) (hz1 : i0.size = sz) (hz2 : i0.bytes = bt) (hzs : z.cells.size = sz) (hsz : 0 < sz)
    {W : World} {base : Nat} {v : Value} {n : Nat} {xs : List Value} (hown : W.ownsRow base e sz v n xs) (news : List Value) (hl : news.length = sz) (h1 : ∀ u ∈ news, u.oneCell' = true) (hn : (n + 1) * bt ≤ 140737488355328) (hn2 : n + 1 ≤ 140737488355328) (hbase : base ≤ W.heap.size) :
    ∃ ao cap w', (∀ ty, (Builtin.append_ #[t, t] ty #[v, .slice (some ⟨W.heap.size, 0, none⟩) 1 1]).run Tryd.prog (W.alloc (.cells news.toArray e)) = .ok (.slice ao (n + 1) cap) w') ∧ w'.ownsRow base e sz (.slice ao (n + 1) cap) (n + 1) (xs ++ news) ∧ W.grownBy w' v.ownBlock := by
  obtain ⟨v', w', h4, h5, h6, _⟩ := run_append_own (P := Tryd.prog) (W.alloc (.cells news.toArray e)) base t t e i0 z sz bt ht hi hz0 hz1 hz2 hzs hsz v n xs (hown.alloc _) ⟨W.heap.size, 0, none⟩ 1 1 news (by omega)
    (fun j u hj => by
      have : (W.alloc (.cells news.toArray e)).cell? ⟨W.heap.size, j, none⟩ = some u := by
        rw [cell_of_heap (heap_alloc_new W _)]
        simpa using hj
      rw [add_plain, Nat.zero_add]
      exact this) h1 (by unfold maxLen; omega) hn (by simp; omega)
  obtain ⟨ao, cap, rfl⟩ := row_shape h5
  refine ⟨ao, cap, w', fun ty => h4, h5, ⟨h6.os, h6.tape, h6.output, ?_, fun k hk hne => ?_⟩⟩
  · have := h6.size; simp at this; omega
  · rw [h6.block k (by simp; omega) hne]; exact Below.heap_alloc W _ k hk
/-- one term more -/
theorem app_term {W : World} {base : Nat} {v : Value} {l : List Bs} (hown : W.ownsRow base 22 1 v l.length (l.map fun b => St b)) (t : Bs) (hn : l.length + 1 ≤ 1000000) (hbase : base ≤ W.heap.size) :
    ∃ ao cap w', (∀ ty, (Builtin.append_ #[32, 32] ty #[v, .slice (some ⟨W.heap.size, 0, none⟩) 1 1]).run Tryd.prog (W.alloc (.cells #[St t] 22)) = .ok (.slice ao (l.length + 1) cap) w') ∧ w'.ownsRow base 22 1 (.slice ao (l.length + 1) cap) (l ++ [t]).length ((l ++ [t]).map fun b => St b) ∧ W.grownBy w' v.ownBlock := by
  obtain ⟨i0, hi, hz0, hz1, hz2⟩ := info_parts Tryd.info22
  obtain ⟨ao, cap, w', h1, h2, h3⟩ := app_run (t := 32) Tryd.underlying32 hi hz0 hz1 hz2 rfl (by decide) hown [St t] rfl (fun u hu => by simp at hu; rw [hu]; rfl) (by omega) (by omega) hbase
  exact ⟨ao, cap, w', h1, by simpa using h2, h3⟩
theorem own_cap {w : World} {B : Nat} {a : Option Addr} {k : Nat} {l : List Bs} (h : w.ownsRow B 22 1 (.slice a l.length k) l.length (l.map St)) : l.length ≤ k ∧ (a = none → l = []) ∧ ∀ x, a = some x → ∃ g, x = ⟨g, 0, none⟩ := by
  rcases h.2 with ⟨h1, h2⟩ | ⟨g, cap, cur, hv, hb, hg, hc1, hc2, hc3, hc4⟩
  · have e : l = [] := List.length_eq_zero_iff.1 (by omega)
    subst e
    injection h1 with e1 _ _
    exact ⟨by simp, fun _ => rfl, fun x h => by rw [e1] at h; cases h⟩
  · cases hv
    exact ⟨by omega, (fun h => by cases h), fun x h => by cases h; exact ⟨g, rfl⟩⟩
theorem append_many (W : World) (B : Nat) (v kv : Value) (l ks : List Bs) (hown : W.ownsRow B 22 1 v l.length (l.map St)) (hk : Texts W kv ks) (hl : l.length + ks.length < 1000000000) (hB : B ≤ W.heap.size) :
    ∃ ao kc w', (∀ ty, (Builtin.append_ #[32, 32] ty #[v, kv]).run Tryd.prog W = .ok (.slice ao (l ++ ks).length kc) w') ∧ w'.ownsRow B 22 1 (.slice ao (l ++ ks).length kc) (l ++ ks).length ((l ++ ks).map St) ∧ W.grownBy w' v.ownBlock := by
  obtain ⟨i0, hi, hz0, hz1, hz2⟩ := info_parts Tryd.info22
  obtain ⟨ao, cap, rfl, hc⟩ := hk
  obtain ⟨a1, k1, rfl⟩ := row_shape hown
  by_cases h0 : ks = []
  · subst h0
    refine ⟨a1, k1, W, fun ty => ?_, by simpa using hown, ⟨rfl, rfl, rfl, Nat.le_refl _, fun _ _ _ => rfl⟩⟩
    have hcap := (own_cap hown).1
    cases a1 <;> cases ao <;> simp [hcap, Builtin.append_, Builtin.firstCells, run_underlying Tryd.underlying32, sizeOf, typeInfo, hi, Builtin.lenOf, go_sem]
  · obtain ⟨g, o, rfl, hlt, hcell⟩ := hc h0
    have hpos := List.length_pos_iff.2 h0
    obtain ⟨v', w', h1, h2, h3, _, h5⟩ := run_append_own_at (P := Tryd.prog) W B 32 32 22 i0 _ 1 16 Tryd.underlying32 hi hz0 hz1 hz2 rfl (by decide) (.slice a1 l.length k1) l.length (l.map St) hown ⟨g, o, none⟩ ks.length cap (ks.map St) (by simp) (fun j u hu => by
      have hj : j < ks.length := by have := (List.getElem?_eq_some_iff.1 hu).1; simpa using this
      rw [add_plain, hcell j hj, ← hu]; simp [hj]) (fun u hu => by obtain ⟨x, _, rfl⟩ := List.mem_map.1 hu; rfl) (by unfold maxLen; omega) (by omega) hB
    rw [← List.map_append] at h2
    have h4 : ∃ a k, v' = .slice a (l ++ ks).length k := by
      rcases h2.2 with ⟨_, e⟩ | ⟨g, cap, _, e, _⟩
      · omega
      · exact ⟨some ⟨g, 0, none⟩, cap, by rw [e]; simp⟩
    obtain ⟨a, k, rfl⟩ := h4
    exact ⟨a, k, w', fun ty => h1, by simpa using h2, h3⟩
/-- a row's own block is no store's -/
theorem own_ne {w : World} {B g : Nat} {v : Value} {n : Nat} {xs : List Value} {cs : Array Value} {t : TypeId} (h : w.ownsRow B 22 1 v n xs) (hg : w.heap[g]? = some (.cells cs t (0, 0))) (ht : t ≠ 22) : v.ownBlock ≠ some g := by
  intro e
  rcases h.2 with ⟨h1, _⟩ | ⟨k, cap, cur, e1, _, e3, _⟩
  · rw [h1] at e; cases e
  · rw [e1] at e
    have : k = g := by simpa [Value.ownBlock] using e
    subst this
    rw [hg] at e3
    simp at e3
    exact ht e3.2
/-- a row stays where a store is written -/
theorem own_frx {w w1 : World} {B g : Nat} {v : Value} {n : Nat} {xs : List Value} (h : w.ownsRow B 22 1 v n xs) (hf : Frx w.heap.size g w w1) (hne : v.ownBlock ≠ some g) : w1.ownsRow B 22 1 v n xs := by
  obtain ⟨h1, h2⟩ := h
  refine ⟨h1, ?_⟩
  rcases h2 with h2 | ⟨k, cap, cur, e1, e2, e3, e4⟩
  · exact Or.inl h2
  · refine Or.inr ⟨k, cap, cur, e1, e2, ?_, e4⟩
    rw [hf.block k (lt_of_block e3) (fun e => hne (by rw [e1, ← e]; rfl))]
    exact e3

theorem pick_any (n : Int) (m : Nat) (hm : 0 < m) (hm2 : m ≤ 1000) (w : World) : Calls Tryd.prog 12 #[.int .i64 n, .int .i64 (m : Int)] w fun e w' => (∃ k : Nat, k < m ∧ e = .returned (.int .i64 (k : Int))) ∧ w' = w := by
  have a1 : (-(m : Int)) < n.tmod m := by
    by_cases h0 : 0 ≤ n
    · have := Int.tmod_nonneg (m : Int) h0; omega
    · have e : n.tmod m = -((-n).tmod m) := by rw [← Int.neg_tmod, Int.neg_neg]
      have := Int.tmod_lt_of_pos (-n) (show (0 : Int) < m by omega)
      omega
  have a2 : n.tmod m < (m : Int) := Int.tmod_lt_of_pos _ (by omega)
  have hw1 : IntKind.i64.wrap (n.tmod m) = n.tmod m := by rw [IntKind.wrap_i64]; omega
  have hw2 : IntKind.i64.wrap (n.tmod m + m) = n.tmod m + m := by rw [IntKind.wrap_i64]; omega
  have b1 : 0 ≤ (n.tmod m + m).tmod m := Int.tmod_nonneg _ (by omega)
  have b2 : (n.tmod m + m).tmod m < (m : Int) := Int.tmod_lt_of_pos _ (by omega)
  have hw3 : IntKind.i64.wrap ((n.tmod m + m).tmod m) = (n.tmod m + m).tmod m := by rw [IntKind.wrap_i64]; omega
  obtain ⟨r, hr⟩ : ∃ r, r = (n.tmod m + m).tmod m := ⟨_, rfl⟩
  have HR : Hid (0 ≤ r ∧ r < (m : Int)) := hid ⟨by rw [hr]; exact b1, by rw [hr]; exact b2⟩
  have hm0 : ¬ (m : Int) ≤ 0 := by omega
  have hm1 : (m : Int) ≠ 0 := by omega
  have HRR := hid hr
  clear a1 a2 b1 b2 hr
  go_enter Tryd.func12, Tryd.ntmps12
  go_wp2_with fail
  go_ret
  exact ⟨⟨r.toNat, by have := HR.out; omega, by rw [show ((r.toNat : Nat) : Int) = r by have := HR.out; omega, HRR.out]; rfl⟩, rfl⟩
end Go.Proofs.YtmdiggbbgcjcnaaDoor

/- What a store tells that heard a seed's secrets. -/
namespace Go.Proofs.YtmdiggbbgcjcnaaDoor
open Go.RowKit

theorem own_text {w : World} {B : Nat} {v : Value} {n : Nat} {l : List Bs} (h : w.ownsRow B 22 1 v n (l.map St)) (hn : 0 < n) :
    ∃ k kc, v = .slice (some ⟨k, 0, none⟩) n kc ∧ k < w.heap.size ∧ ∀ j, j < n → w.cell? ⟨k, j, none⟩ = some (St (l.getD j [])) := by
  rcases h.2 with ⟨h1, h0⟩ | ⟨k, cap, cur, hv, hb, hg, hc1, hc2, hc3, hc4⟩
  · omega
  · have hl : l.length = n := by have := h.1; simpa using this
    refine ⟨k, cap, hv, lt_of_block hg, fun i hi => ?_⟩
    have e : (cur.toList.take (n * 1))[i]? = some (St (l.getD i [])) := by
      rw [hc4, List.getElem?_map, List.getD_eq_getElem?_getD, List.getElem?_eq_getElem (by omega)]; rfl
    rw [Nat.mul_one, List.getElem?_take_of_lt hi, Array.getElem?_toList] at e
    rw [cell_of_heap hg]
    exact e

set_option maxHeartbeats 8000000 in
set_option maxRecDepth 100000 in
theorem tellsLaw_any (s x : Bs) (n0 : Int) (w : World) (hp : Pw w) (hz : Tz w) : Calls Tryd.prog 6 #[St s, .int .i64 n0, St x] w fun e w' => e = .returned (.bool true) ∧ Below w.heap.size w w' := by
  have hsz : (⟨s.toArray⟩ : ByteArray).size = s.length := st_size s
  have hxz : (⟨x.toArray⟩ : ByteArray).size = x.length := st_size x
  by_cases h0 : 300 < s.length
  · have h0' : (300 : Int) < (s.length : Int) := by omega
    clear hp hz
    go_enter Tryd.func6, Tryd.ntmps6
    go_wp2_with fail
    go_ret
    exact ⟨rfl, Below.refl _ _⟩
  have h0' : ¬ (300 : Int) < (s.length : Int) := by omega
  by_cases h1 : 300 < x.length
  · have h1' : (300 : Int) < (x.length : Int) := by omega
    clear hp hz
    go_enter Tryd.func6, Tryd.ntmps6
    go_wp2_with fail
    go_ret
    exact ⟨rfl, Below.refl _ _⟩
  have h1' : ¬ (300 : Int) < (x.length : Int) := by omega
  have HW : Hid (∀ W, Below w.heap.size w W → Calls Tryd.prog 10 #[] W fun e w' => e = .returned (.bool true) ∧ Below w.heap.size w w') := hid (fun W hW => (works_any W (hp.below hW) (hz.below hW)).mono (fun e w' ⟨q1, q2⟩ => ⟨q1, hW.trans (q2.mono hW.size)⟩))
  have HTOP : Hid (Calls Tryd.prog 8 #[St s, .int .i64 1048575] w fun en w' => en = made (secRes s 1048575) ∧ Below w.heap.size w w') := hid (secret_any s 1048575 w hp)
  have HSL : Hid (s.length ≤ 300) := hid (by omega)
  have HP : Hid (∀ W, Below w.heap.size w W → Pw W) := hid (fun W hW => hp.below hW)
  have HZ : Hid (∀ W, Below w.heap.size w W → Tz W) := hid (fun W hW => hz.below hW)
  obtain ⟨R0, hR0⟩ : ∃ R, R = secRes s 1048575 := ⟨_, rfl⟩
  have HR0 := hid hR0
  rw [← hR0] at HTOP
  clear hp hz h0 h1 hR0
  obtain ⟨y0, q0⟩ := R0
  by_cases hq : q0 = 0
  case neg =>
    have hq2 : ((q0 : Int) == 0) = false := by simp; omega
    have hq3 : (q0 : Int) ≠ 0 := by omega
    clear hq
    go_enter Tryd.func6, Tryd.ntmps6
    go_wp2_with fail
    refine HTOP.out.mono ?_
    rintro e w1 ⟨rfl, hb⟩
    have HB1 := hid hb
    clear hb
    go_wp2_with fail
    refine (HW.out w1 HB1.out).mono ?_
    rintro e w2 ⟨rfl, hb⟩
    have HB2 := hid hb
    clear hb
    go_wp2_with fail
    go_ret
    exact ⟨rfl, HB2.out⟩
  subst hq
  have HT0 : Hid ((secRes s 1048575).2 = 0) := hid (by rw [← HR0.out])
  go_enter Tryd.func6, Tryd.ntmps6
  go_wp2_with fail
  refine HTOP.out.mono ?_
  rintro e w1 ⟨rfl, hb⟩
  have HB1 := hid hb
  clear hb
  go_wp2_with fail
  refine (pick_any n0 300 (by omega) (by omega) w1).mono ?_
  rintro e w2 ⟨⟨n, hn, rfl⟩, rfl⟩
  have HN := hid hn
  clear hn
  go_wp2_with fail
  refine (newH _).mono ?_
  rintro e w3 ⟨rfl, hs, hb⟩
  have HS3 := hid hs
  have HB3 := hid (HB1.out.trans (hb.mono HB1.out.size))
  have HG := hid HB1.out.size
  clear hb hs
  generalize w2.heap.size = g at HS3 HG ⊢
  go_wp2_with fail
  go_loopg [10, 11, 12, 13, 14, 15] n (fun gg v10 v11 v12 v13 v14 v15 wr => ∃ (i : Nat) (a : Option Addr) (c : Nat), gg = n - i ∧ i ≤ n ∧ v11 = .int .i64 (i : Int) ∧ v10 = .slice a i c ∧ wr.ownsRow w.heap.size 22 1 (.slice a i c) (secs s i).length ((secs s i).map St) ∧ StH wr g (secs s i) ∧ Below w.heap.size w wr)
  case atStart => exact ⟨0, none, 0, rfl, Nat.zero_le _, rfl, rfl, ⟨rfl, Or.inl ⟨rfl, rfl⟩⟩, HS3.out, HB3.out⟩
  case round =>
    obtain ⟨i, a, c, rfl, hi, rfl, rfl, ho, hs, hb⟩ := hrel
    by_cases hin : i < n
    · have HIN : Hid (i < n ∧ n < 300) := hid ⟨hin, HN.out⟩
      have hi20 : i < 1048576 := by have := HIN.out; omega
      obtain ⟨t, ht⟩ : ∃ t, t = (secRes s (1048575 - (i : Int))).1 := ⟨_, rfl⟩
      have HT := hid ht
      have HSEC : Hid (Calls Tryd.prog 8 #[St s, .int .i64 (1048575 - (i : Int))] wr fun en w' => en = made (t, 0) ∧ Below wr.heap.size wr w') := hid (by
        have := secret_any s (1048575 - (i : Int)) wr (HP.out wr hb)
        have e : secRes s (1048575 - (i : Int)) = (t, 0) := Prod.ext ht.symm ((sec_fine HSL.out HT0.out).2 i (by omega)).1
        rwa [e] at this)
      have HADD : Hid (∀ W, Below w.heap.size w W → StH W g (secs s i) → Calls Tryd.prog 13 #[.pointer (some ⟨g, 0, none⟩), .int .i64 (1048575 - (i : Int)), St t] W fun e w' => e = .returned (.int .i64 0) ∧ StH w' g (secs s (i + 1)) ∧ Frx W.heap.size g W w' ∧ Below w.heap.size w w') := hid (fun W hW hs => by
        have := addHA (1048575 - (i : Int)) t hs (HP.out W hW) (HZ.out W hW)
        rw [ht, add_sec HSL.out HT0.out (by omega)] at this
        rw [ht]
        exact this.mono (fun e w' ⟨q1, q2, q3⟩ => ⟨q1, q2, q3, hW.trans (frx_of q3 hW.size HG.out)⟩))
      have HBAD : Hid (i % 2 = 1 → x ≠ t → ∀ W, Below w.heap.size w W → StH W g (secs s i) → Calls Tryd.prog 13 #[.pointer (some ⟨g, 0, none⟩), .int .i64 (1048575 - (i : Int)), St x] W fun e w' => (∃ r : Nat, r ≠ 0 ∧ e = .returned (.int .i64 (r : Int))) ∧ StH w' g (secs s i) ∧ Frx W.heap.size g W w' ∧ Below w.heap.size w w') := hid (fun hodd hx W hW hs => by
        have := addHA (1048575 - (i : Int)) x hs (HP.out W hW) (HZ.out W hW)
        obtain ⟨e1, e2⟩ := add_bad HSL.out HT0.out (by omega : i < 1048576) hodd (by rw [← ht]; exact hx)
        rw [e2] at this
        exact this.mono (fun e w' ⟨q1, q2, q3⟩ => ⟨⟨_, e1, q1⟩, q2, q3, hW.trans (frx_of q3 hW.size HG.out)⟩))
      have HOW0 := hid ho
      have HS0 := hid hs
      have HB0 := hid hb
      have HNE : Hid ((Value.slice a i c).ownBlock ≠ some g) := hid (by obtain ⟨R, q1, q2⟩ := hs; exact own_ne ho q2 (by decide))
      have hlt : (i : Int) < (n : Int) := by omega
      have hi0 : (0 : Int) ≤ (i : Int) := Int.natCast_nonneg _
      have hat : IntKind.i64.wrap (1048575 - (i : Int)) = 1048575 - (i : Int) := by rw [IntKind.wrap_i64]; omega
      have hiw : IntKind.i64.wrap ((i : Int) + 1) = ((i + 1 : Nat) : Int) := by rw [IntKind.wrap_i64]; have := HIN.out; omega
      have htm : (i : Int).tmod 2 = (i : Int) % 2 := by rw [Int.tmod_eq_emod_of_nonneg hi0]
      have hmw : IntKind.i64.wrap ((i : Int) % 2) = (i : Int) % 2 := by rw [IntKind.wrap_i64]; omega
      clear ho hs hb hi hin ht hi20
      go_wp2_with fail
      refine HSEC.out.mono ?_
      rintro e wa ⟨rfl, hb⟩
      have HBA := hid (HB0.out.trans (hb.mono HB0.out.size))
      have HSA := hid (HS0.out.below hb)
      have HOWA : Hid (wa.ownsRow w.heap.size 22 1 (.slice a i c) (secs s i).length ((secs s i).map St)) := hid (ownsRow_of_heap HOW0.out hb.block)
      clear hb HSEC
      by_cases hodd : i % 2 = 1
      · have hodd2 : (i : Int) % 2 = 1 := by omega
        by_cases hx : x = t
        · have hxt : (x == t) = true := by simp [hx]
          clear HBAD hodd hx
          go_wp2_with fail
          refine (HADD.out wa HBA.out HSA.out).mono ?_
          rintro e wc ⟨rfl, hs, hf, hb⟩
          have HSC := hid hs
          have HFC := hid hf
          have HBC := hid hb
          clear hs hf hb
          go_wp2_with fail
          refine (keptH HSC.out).mono ?_
          rintro e wd ⟨rfl, rfl⟩
          have HPL : Hid (∀ p : Nat, p = Sd.popF (secs s (i + 1)).length 21 0 → ¬ (21 : Int) < (p : Int)) := hid (fun p hp => by have := popF_le (secs s (i + 1)).length 21 0; omega)
          obtain ⟨pp, hpp⟩ : ∃ p, p = Sd.popF (secs s (i + 1)).length 21 0 := ⟨_, rfl⟩
          rw [← hpp]
          have hpl := HPL.out pp hpp
          clear hpp HPL
          have HO2 : Hid (wd.ownsRow w.heap.size 22 1 (.slice a i c) (secs s i).length ((secs s i).map St)) := hid (own_frx HOWA.out HFC.out HNE.out)
          obtain ⟨a2, c2, we, hrun, hown, hgr⟩ := app_term HO2.out t (by rw [secs_len]; have := HIN.out; omega) HBC.out.size
          have HRUN := hid hrun
          have HOWN : Hid (we.ownsRow w.heap.size 22 1 (.slice a2 (i + 1) c2) (secs s (i + 1)).length ((secs s (i + 1)).map St)) := hid (by
            have h := hown
            rw [secs_len] at h
            rw [secs_next, ← HT.out]; exact h)
          have HBE2 : Hid (Below w.heap.size w we) := hid (below_own HBC.out HBC.out.size HO2.out hgr)
          have HSE : Hid (StH we g (secs s (i + 1))) := hid (by
            obtain ⟨R, q1, q2⟩ := HSC.out
            refine ⟨R, q1, ?_⟩
            have hk : (Value.slice a i c).ownBlock ≠ some g := own_ne HO2.out q2 (by decide)
            exact (hgr.block g q2.lt (fun e => hk e.symm)).trans q2)
          rw [secs_len] at HRUN
          clear hrun hown hgr
          go_wp2_with (first | (at_builtin; refine wpList_append_run rfl (.tmp 85) (.tmp 87) 32 32 rfl _ _ (.slice a2 (i + 1) c2) we rfl rfl HRUN.out ?_) | fail)
          go_roundg (n - (i + 1))
          case measure => have := HIN.out; omega
          case rel => exact ⟨i + 1, a2, c2, rfl, by have := HIN.out; omega, by go_num, rfl, HOWN.out, HSE.out, HBE2.out⟩
        · have hxt : (x == t) = false := by simpa using hx
          have HB2 := hid (HBAD.out hodd hx)
          clear HBAD hodd
          go_wp2_with fail
          refine (HB2.out wa HBA.out HSA.out).mono ?_
          rintro e wb ⟨⟨r, hr, rfl⟩, hs, hf, hb⟩
          have HSB := hid hs
          have HBB := hid hb
          have HOWB : Hid (wb.ownsRow w.heap.size 22 1 (.slice a i c) (secs s i).length ((secs s i).map St)) := hid (own_frx HOWA.out hf HNE.out)
          have hr2 : ((r : Int) == 0) = false := by simp; omega
          have hr3 : (r : Int) ≠ 0 := by omega
          have HCN : Hid (Calls Tryd.prog 18 #[.pointer (some ⟨g, 0, none⟩)] wb fun e w' => e = .returned (.int .i64 (i : Int)) ∧ w' = wb) := hid (by have := countH hs; rwa [secs_len] at this)
          clear hs hb hf hr HB2
          go_wp2_with fail
          refine HCN.out.mono ?_
          rintro e wb2 ⟨rfl, rfl⟩
          go_wp2_with fail
          refine (HADD.out _ HBB.out HSB.out).mono ?_
          rintro e wc ⟨rfl, hs, hf, hb⟩
          have HSC := hid hs
          have HFC := hid hf
          have HBC := hid hb
          clear hs hf hb
          go_wp2_with fail
          refine (keptH HSC.out).mono ?_
          rintro e wd ⟨rfl, rfl⟩
          have HPL : Hid (∀ p : Nat, p = Sd.popF (secs s (i + 1)).length 21 0 → ¬ (21 : Int) < (p : Int)) := hid (fun p hp => by have := popF_le (secs s (i + 1)).length 21 0; omega)
          obtain ⟨pp, hpp⟩ : ∃ p, p = Sd.popF (secs s (i + 1)).length 21 0 := ⟨_, rfl⟩
          rw [← hpp]
          have hpl := HPL.out pp hpp
          clear hpp HPL
          have HO2 : Hid (wd.ownsRow w.heap.size 22 1 (.slice a i c) (secs s i).length ((secs s i).map St)) := hid (own_frx HOWB.out HFC.out HNE.out)
          obtain ⟨a2, c2, we, hrun, hown, hgr⟩ := app_term HO2.out t (by rw [secs_len]; have := HIN.out; omega) HBC.out.size
          have HRUN := hid hrun
          have HOWN : Hid (we.ownsRow w.heap.size 22 1 (.slice a2 (i + 1) c2) (secs s (i + 1)).length ((secs s (i + 1)).map St)) := hid (by
            have h := hown
            rw [secs_len] at h
            rw [secs_next, ← HT.out]; exact h)
          have HBE2 : Hid (Below w.heap.size w we) := hid (below_own HBC.out HBC.out.size HO2.out hgr)
          have HSE : Hid (StH we g (secs s (i + 1))) := hid (by
            obtain ⟨R, q1, q2⟩ := HSC.out
            refine ⟨R, q1, ?_⟩
            have hk : (Value.slice a i c).ownBlock ≠ some g := own_ne HO2.out q2 (by decide)
            exact (hgr.block g q2.lt (fun e => hk e.symm)).trans q2)
          rw [secs_len] at HRUN
          clear hrun hown hgr
          go_wp2_with (first | (at_builtin; refine wpList_append_run rfl (.tmp 85) (.tmp 87) 32 32 rfl _ _ (.slice a2 (i + 1) c2) we rfl rfl HRUN.out ?_) | fail)
          go_roundg (n - (i + 1))
          case measure => have := HIN.out; omega
          case rel => exact ⟨i + 1, a2, c2, rfl, by have := HIN.out; omega, by go_num, rfl, HOWN.out, HSE.out, HBE2.out⟩
      · have hodd2 : (i : Int) % 2 = 0 := by omega
        clear HBAD hodd
        go_wp2_with fail
        refine (HADD.out wa HBA.out HSA.out).mono ?_
        rintro e wc ⟨rfl, hs, hf, hb⟩
        have HSC := hid hs
        have HFC := hid hf
        have HBC := hid hb
        clear hs hf hb
        go_wp2_with fail
        refine (keptH HSC.out).mono ?_
        rintro e wd ⟨rfl, rfl⟩
        have HPL : Hid (∀ p : Nat, p = Sd.popF (secs s (i + 1)).length 21 0 → ¬ (21 : Int) < (p : Int)) := hid (fun p hp => by have := popF_le (secs s (i + 1)).length 21 0; omega)
        obtain ⟨pp, hpp⟩ : ∃ p, p = Sd.popF (secs s (i + 1)).length 21 0 := ⟨_, rfl⟩
        rw [← hpp]
        have hpl := HPL.out pp hpp
        clear hpp HPL
        have HO2 : Hid (wd.ownsRow w.heap.size 22 1 (.slice a i c) (secs s i).length ((secs s i).map St)) := hid (own_frx HOWA.out HFC.out HNE.out)
        obtain ⟨a2, c2, we, hrun, hown, hgr⟩ := app_term HO2.out t (by rw [secs_len]; have := HIN.out; omega) HBC.out.size
        have HRUN := hid hrun
        have HOWN : Hid (we.ownsRow w.heap.size 22 1 (.slice a2 (i + 1) c2) (secs s (i + 1)).length ((secs s (i + 1)).map St)) := hid (by
          have h := hown
          rw [secs_len] at h
          rw [secs_next, ← HT.out]; exact h)
        have HBE2 : Hid (Below w.heap.size w we) := hid (below_own HBC.out HBC.out.size HO2.out hgr)
        have HSE : Hid (StH we g (secs s (i + 1))) := hid (by
          obtain ⟨R, q1, q2⟩ := HSC.out
          refine ⟨R, q1, ?_⟩
          have hk : (Value.slice a i c).ownBlock ≠ some g := own_ne HO2.out q2 (by decide)
          exact (hgr.block g q2.lt (fun e => hk e.symm)).trans q2)
        rw [secs_len] at HRUN
        clear hrun hown hgr
        go_wp2_with (first | (at_builtin; refine wpList_append_run rfl (.tmp 85) (.tmp 87) 32 32 rfl _ _ (.slice a2 (i + 1) c2) we rfl rfl HRUN.out ?_) | fail)
        go_roundg (n - (i + 1))
        case measure => have := HIN.out; omega
        case rel => exact ⟨i + 1, a2, c2, rfl, by have := HIN.out; omega, by go_num, rfl, HOWN.out, HSE.out, HBE2.out⟩
    · have hie : i = n := by omega
      subst hie
      have hlt : ¬ (i : Int) < (i : Int) := by omega
      have HOW0 := hid ho
      have HS0 := hid hs
      have HB0 := hid hb
      clear ho hs hb hi hin
      go_wp2_with fail
      obtain ⟨wq, rfl⟩ : ∃ wq, wq = wr := ⟨_, rfl⟩
      have HCELL : Hid (∀ j, j < i → ∀ W, Below wq.heap.size wq W → ∃ k kc, (Value.slice a i c) = .slice (some ⟨k, 0, none⟩) i kc ∧ W.cell? ⟨k, j, none⟩ = some (St ((secs s i).getD j []))) := hid (fun j hj W hW => by
        have h := HOW0.out
        rw [secs_len] at h
        obtain ⟨k, kc, e1, hk, hc⟩ := own_text h (by omega)
        exact ⟨k, kc, e1, (hW.cell (p := ⟨k, j, none⟩) hk).trans (hc j hj)⟩)
      have HGET : Hid (∀ j, j < i → ∀ W, Below wq.heap.size wq W → Calls Tryd.prog 15 #[.pointer (some ⟨g, 0, none⟩), .int .i64 (1048575 - (j : Int))] W fun e w' => e = made ((secs s i).getD j [], 0) ∧ Below wq.heap.size wq w') := hid (fun j hj W hW => by
        have := getHA (1048575 - (j : Int)) (HS0.out.below hW) (HP.out W (HB0.out.trans (hW.mono HB0.out.size)))
        have e : getH (secs s i) (1048575 - (j : Int)) = ((secs s i).getD j [], 0) := by
          have := HN.out
          unfold getH
          rw [secs_len, if_neg (by omega)]
          congr 2; omega
        rw [e] at this
        exact this.mono (fun e w' ⟨q1, q2⟩ => ⟨q1, hW.trans (q2.mono hW.size)⟩))
      have HEND : Hid (∀ W, Below wq.heap.size wq W → Calls Tryd.prog 15 #[.pointer (some ⟨g, 0, none⟩), .int .i64 (1048575 - (i : Int))] W fun e w' => e = made ([], 5) ∧ Below wq.heap.size wq w') := hid (fun W hW => by
        have := getHA (1048575 - (i : Int)) (HS0.out.below hW) (HP.out W (HB0.out.trans (hW.mono HB0.out.size)))
        have e : getH (secs s i) (1048575 - (i : Int)) = ([], 5) := by
          unfold getH
          rw [secs_len, if_pos (by omega)]
        rw [e] at this
        exact this.mono (fun e w' ⟨q1, q2⟩ => ⟨q1, hW.trans (q2.mono hW.size)⟩))
      have HCN : Hid (∀ W, Below wq.heap.size wq W → Calls Tryd.prog 18 #[.pointer (some ⟨g, 0, none⟩)] W fun e w' => e = .returned (.int .i64 (i : Int)) ∧ w' = W) := hid (fun W hW => by have := countH (HS0.out.below hW); rwa [secs_len] at this)
      have hati : IntKind.i64.wrap (1048575 - (i : Int)) = 1048575 - (i : Int) := by rw [IntKind.wrap_i64]; have := HN.out; omega
      have HATI := hid hati
      clear hati
      go_loopg [16, 17, 18] i (fun gg v16 v17 v18 wr => ∃ j : Nat, gg = i - j ∧ j ≤ i ∧ v16 = .int .i64 (j : Int) ∧ Below wq.heap.size wq wr)
      case atStart => exact ⟨0, rfl, Nat.zero_le _, rfl, Below.refl _ _⟩
      case round =>
        obtain ⟨j, rfl, hj, rfl, hbj⟩ := hrel
        by_cases hji : j < i
        · have HJI := hid hji
          have HBJ := hid hbj
          have hlt : (j : Int) < (i : Int) := by omega
          have hj0 : (0 : Int) ≤ (j : Int) := Int.natCast_nonneg _
          have hat : IntKind.i64.wrap (1048575 - (j : Int)) = 1048575 - (j : Int) := by rw [IntKind.wrap_i64]; have := HN.out; omega
          have hjw : IntKind.i64.wrap ((j : Int) + 1) = ((j + 1 : Nat) : Int) := by rw [IntKind.wrap_i64]; have := HN.out; omega
          have HG1 := hid (HGET.out j hji wr hbj)
          have HC1 := hid (HCELL.out j hji)
          generalize (secs s i).getD j [] = y at HG1 HC1
          clear hji hbj hj
          go_wp2_with fail
          refine HG1.out.mono ?_
          rintro e wk ⟨rfl, hb⟩
          have HBK := hid hb
          obtain ⟨k, kc, hsl, hcell⟩ := HC1.out wk hb
          obtain ⟨rfl, rfl⟩ : a = some ⟨k, 0, none⟩ ∧ c = kc := by injection hsl with q1 _ q2; exact ⟨q1, q2⟩
          clear hb hsl
          go_wp2_with fail
          go_roundg (i - (j + 1))
          case measure => have := HJI.out; omega
          case rel => exact ⟨j + 1, rfl, HJI.out, by go_num, HBK.out⟩
        · have hje : j = i := by omega
          subst hje
          have hlt : ¬ (j : Int) < (j : Int) := by omega
          have HBJ := hid hbj
          clear hbj hji hj
          have hati := HATI.out
          go_wp2_with fail
          refine (HEND.out wr HBJ.out).mono ?_
          rintro e wk ⟨rfl, hb⟩
          have HBK := hid hb
          clear hb
          go_wp2_with fail
          refine (HCN.out wk HBK.out).mono ?_
          rintro e wk2 ⟨rfl, rfl⟩
          go_wp2_with fail
          refine (HW.out _ (HB0.out.trans (HBK.out.mono HB0.out.size))).mono ?_
          rintro e wl ⟨rfl, hb⟩
          have HBL := hid hb
          clear hb
          go_wp2_with fail
          go_ret
          exact ⟨rfl, HBL.out⟩
end Go.Proofs.YtmdiggbbgcjcnaaDoor
