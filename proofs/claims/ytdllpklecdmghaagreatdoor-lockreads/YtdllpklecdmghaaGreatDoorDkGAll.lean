import Derived.Test.YtdllpklecdmghaaGreatDoorDkEAll
import Derived.Test.YtdllpklecdmghaaGreatDoorLkJ
import Derived.Test.YtdllpklecdmghaaGreatDoorLkTx
import Derived.Deep.Cut
/- The keys of a lock, by the document; two rows of terms held against each other. -/
namespace Go.Proofs.YtdllpklecdmghaaGreatDoor
open Go.RowKit
open Lk (Lt)

theorem texts_below {w w' : World} {kv : Value} {ks : List Bs} (h : Texts w kv ks) (hb : Below w.heap.size w w') : Texts w' kv ks := by
  obtain ⟨ao, cap, e, h1⟩ := h
  refine ⟨ao, cap, e, fun hne => ?_⟩
  obtain ⟨g, o, e2, hlt, hc⟩ := h1 hne
  exact ⟨g, o, e2, Nat.lt_of_lt_of_le hlt hb.size, fun i hi => (hb.cell (p := ⟨g, o + i, none⟩) hlt).trans (hc i hi)⟩
theorem Texts.cells {w : World} {ao : Option Addr} {kc : Nat} {l : List Bs} (h : Texts w (.slice ao l.length kc) l) (i : Nat) (hi : i < l.length) : ∃ g o, ao = some ⟨g, o, none⟩ ∧ g < w.heap.size ∧ w.cell? ⟨g, o + i, none⟩ = some (St l[i]) := by
  obtain ⟨ao', cap', he, ht⟩ := h
  cases he
  obtain ⟨g, o, e, hg, hc⟩ := ht (fun e => by rw [e] at hi; simp at hi)
  exact ⟨g, o, e, hg, hc i hi⟩
set_option maxRecDepth 100000 in
set_option maxHeartbeats 2000000 in
theorem sameT_any (w : World) (a1 a2 : Option Addr) (c1 c2 : Nat) (A B : List Bs) (hA : Texts w (.slice a1 A.length c1) A) (hB : Texts w (.slice a2 B.length c2) B) (hl : A.length ≤ 100000000) (hl2 : B.length ≤ 100000000) :
    Calls Tryz.prog 12 #[.slice a1 A.length c1, .slice a2 B.length c2] w fun e w' => e = .returned (.bool (decide (A = B))) ∧ Below w.heap.size w w' := by
  have HA : Hid (∀ wr, Below w.heap.size w wr → ∀ i (h : i < A.length), ∃ g o, a1 = some ⟨g, o, none⟩ ∧ g < wr.heap.size ∧ wr.cell? ⟨g, o + i, none⟩ = some (St A[i])) := hid (fun wr hb i h => (texts_below hA hb).cells i h)
  have HB : Hid (∀ wr, Below w.heap.size w wr → ∀ i (h : i < B.length), ∃ g o, a2 = some ⟨g, o, none⟩ ∧ g < wr.heap.size ∧ wr.cell? ⟨g, o + i, none⟩ = some (St B[i])) := hid (fun wr hb i h => (texts_below hB hb).cells i h)
  obtain ⟨q, hq⟩ : ∃ q, q = A.length := ⟨_, rfl⟩
  obtain ⟨m, hm⟩ : ∃ m, m = B.length := ⟨_, rfl⟩
  have HQ := hid hq
  have HM := hid hm
  rw [← hq, ← hm]
  rw [← hq] at hl
  rw [← hm] at hl2
  clear hA hB hq hm
  by_cases hqm : q = m
  · subst hqm
    go_enter Tryz.func12, Tryz.ntmps12
    go_wp2_with fail
    go_loopg [5] q (fun gg v wr => ∃ i : Nat, i ≤ q ∧ gg = q - i ∧ v = .int .i64 (i : Int) ∧ Below w.heap.size w wr ∧ ∀ j (h : j < A.length) (h2 : j < B.length), j < i → A[j] = B[j])
    case atStart => exact ⟨0, by omega, by omega, rfl, Below.refl _ _, fun j _ _ h => by omega⟩
    case round =>
      obtain ⟨i, hi, rfl, rfl, hwr, hall⟩ := hrel
      have HW := hid hwr
      have HL := hid hall
      clear hall hwr
      by_cases hil : i < q
      · have hi1 : (i : Int) < (q : Int) := by omega
        have hia : i < A.length := by rw [← HQ.out]; exact hil
        have hib : i < B.length := by rw [← HM.out]; exact hil
        obtain ⟨g1, o1, e1, _, hc1⟩ := HA.out _ HW.out i hia
        obtain ⟨g2, o2, e2, _, hc2⟩ := HB.out _ HW.out i hib
        subst e1
        subst e2
        by_cases he : A[i] = B[i]
        · have HE := hid he
          rw [he] at hc1
          clear he
          go_wp2_with fail
          go_quiet (fail)
          go_wp2_with fail
          go_roundg (q - (i + 1))
          case measure => omega
          case rel => exact ⟨i + 1, by omega, rfl, by go_num, below_drewN HW.out _, fun j h h2 hj => by
            by_cases e : j = i
            · subst e; exact HE.out
            · exact HL.out j h h2 (by omega)⟩
        · have HNE : Hid (A ≠ B) := hid (fun e => he (by subst e; rfl))
          have hne : (A[i] == B[i]) = false := by simpa using he
          clear he
          go_wp2_with fail
          go_quiet (fail)
          go_wp2_with fail
          go_ret
          exact ⟨by rw [decide_eq_false HNE.out]; rfl, below_drewN HW.out _⟩
      · have hi1 : ¬ (i : Int) < (q : Int) := by omega
        have HEQ : Hid (A = B) := hid (List.ext_getElem (by have := HQ.out; have := HM.out; omega) (fun j h h2 => HL.out j h h2 (by have := HQ.out; omega)))
        go_wp2_with fail
        go_ret
        exact ⟨by rw [decide_eq_true HEQ.out]; rfl, HW.out⟩
  · have hqm1 : ¬ (q : Int) = (m : Int) := by omega
    have hqm2 : ((q : Int) == (m : Int)) = false := by simpa using hqm1
    have HNE : Hid (A ≠ B) := hid (fun e => hqm (by rw [HQ.out, HM.out, e]))
    go_enter Tryz.func12, Tryz.ntmps12
    go_wp2_with fail
    go_ret
    exact ⟨by rw [decide_eq_false HNE.out]; rfl, Below.refl _ _⟩
theorem own_cap {w : World} {B : Nat} {a : Option Addr} {k : Nat} {l : List Bs} (h : w.ownsRow B 22 1 (.slice a l.length k) l.length (l.map St)) : l.length ≤ k ∧ (a = none → l = []) ∧ ∀ x, a = some x → ∃ g, x = ⟨g, 0, none⟩ := by
  rcases h.2 with ⟨h1, h2⟩ | ⟨g, cap, cur, hv, hb, hg, hc1, hc2, hc3, hc4⟩
  · have e : l = [] := List.length_eq_zero_iff.1 (by omega)
    subst e
    injection h1 with e1 _ _
    exact ⟨by simp, fun _ => rfl, fun x h => by rw [e1] at h; cases h⟩
  · cases hv
    exact ⟨by omega, (fun h => by cases h), fun x h => by cases h; exact ⟨g, rfl⟩⟩
theorem append_many (W : World) (B : Nat) (v kv : Value) (l ks : List Bs) (hown : W.ownsRow B 22 1 v l.length (l.map St)) (hk : Texts W kv ks) (hl : l.length + ks.length < 1000000000) (hB : B ≤ W.heap.size) :
    ∃ ao kc w', (∀ ty, (Builtin.append_ #[32, 32] ty #[v, kv]).run Tryz.prog W = .ok (.slice ao (l ++ ks).length kc) w') ∧ w'.ownsRow B 22 1 (.slice ao (l ++ ks).length kc) (l ++ ks).length ((l ++ ks).map St) ∧ W.grownBy w' v.ownBlock := by
  obtain ⟨i0, hi, hz0, hz1, hz2⟩ := info_parts Tryz.info22
  obtain ⟨ao, cap, rfl, hc⟩ := hk
  obtain ⟨a1, k1, rfl⟩ := row_shape hown
  by_cases h0 : ks = []
  · subst h0
    refine ⟨a1, k1, W, fun ty => ?_, by simpa using hown, ⟨rfl, rfl, rfl, Nat.le_refl _, fun _ _ _ => rfl⟩⟩
    have hcap := (own_cap hown).1
    cases a1 <;> cases ao <;> simp [hcap, Builtin.append_, Builtin.firstCells, run_underlying Tryz.underlying32, sizeOf, typeInfo, hi, Builtin.lenOf, go_sem]
  · obtain ⟨g, o, rfl, hlt, hcell⟩ := hc h0
    have hpos := List.length_pos_iff.2 h0
    obtain ⟨v', w', h1, h2, h3, _, h5⟩ := run_append_own_at (P := Tryz.prog) W B 32 32 22 i0 _ 1 16 Tryz.underlying32 hi hz0 hz1 hz2 rfl (by decide) (.slice a1 l.length k1) l.length (l.map St) hown ⟨g, o, none⟩ ks.length cap (ks.map St) (by simp) (fun j u hu => by
      have hj : j < ks.length := by have := (List.getElem?_eq_some_iff.1 hu).1; simpa using this
      rw [add_plain, hcell j hj, ← hu]; simp [hj]) (fun u hu => by obtain ⟨x, _, rfl⟩ := List.mem_map.1 hu; rfl) (by unfold maxLen; omega) (by omega) hB
    rw [← List.map_append] at h2
    have h4 : ∃ a k, v' = .slice a (l ++ ks).length k := by
      rcases h2.2 with ⟨_, e⟩ | ⟨g, cap, _, e, _⟩
      · omega
      · exact ⟨some ⟨g, 0, none⟩, cap, by rw [e]; simp⟩
    obtain ⟨a, k, rfl⟩ := h4
    exact ⟨a, k, w', fun ty => h1, by simpa using h2, h3⟩
theorem own_lower {w : World} {B C : Nat} {e : TypeId} {sz : Nat} {v : Value} {n : Nat} {xs : List Value} (h : w.ownsRow B e sz v n xs) (hC : C ≤ B) : w.ownsRow C e sz v n xs := by
  refine ⟨h.1, ?_⟩
  rcases h.2 with h2 | ⟨g, cap, cur, h3, h4, h5⟩
  · exact .inl h2
  · exact .inr ⟨g, cap, cur, h3, Nat.le_trans hC h4, h5⟩
set_option maxHeartbeats 8000000 in
theorem dkeys_any {b : Nat → Prop} (d : Nat) : ∀ (l : Lt) (kv : Value) (w : World), Kd b w d kv l.kids → Lk.ok l = true → (Lk.keys l).length ≤ 100000 → Calls Tryz.prog 39 #[.agg (lcs l kv)] w fun e w' => ∃ v', e = .returned v' ∧ (w'.ownsRow w.heap.size 22 1 v' (Lk.keys l).length ((Lk.keys l).map St) ∧ Below w.heap.size w w') := by
  induction d using Nat.strongRecOn with
  | ind d ih =>
    intro l kv w hk hok hlen
    obtain ⟨kd, t, n, ks⟩ := l
    obtain ⟨hl, ao, cap, rfl, hks⟩ := hk.parts
    have hks : Kr b w d ao ks := hks
    have hl : ks.length ≤ 140737488355328 := hl
    rw [Lk.ok, Bool.and_eq_true] at hok
    obtain ⟨hfit, hoks⟩ := hok
    clear hk
    rw [Lk.keys] at hlen ⊢
    show Calls Tryz.prog 39 #[.agg #[.int .u8 (kd : Int), St t, .int .i64 n, .slice ao ks.length cap]] w _
    by_cases k1 : kd = 1
    · subst k1
      obtain ⟨rfl, rfl, hd⟩ := Lk.fitT (by decide) hfit
      simp only [if_true]
      obtain ⟨w0, hw0⟩ : ∃ w0, w0 = w.alloc (.cells #[.int .u8 1, St t, .int .i64 0, .slice ao 0 cap] 25) := ⟨_, rfl⟩
      have hB0 : Below w.heap.size w w0 := by rw [hw0]; exact below_al _ _
      have hn0 : w0.ownsRow w.heap.size 22 1 (.slice none 0 0) ([] : List Bs).length (([] : List Bs).map fun b => St b) := World.ownsRow_nil _ _ _ _
      obtain ⟨a3, c3, w3, r3, o3, g3⟩ := app_term hn0 t (by simp) hB0.size
      have HR3 : Hid (∀ ty, (Builtin.append_ #[32, 32] ty #[.slice none 0 0, .slice (some ⟨w0.heap.size, 0, none⟩) 1 1]).run Tryz.prog (w0.alloc (.cells #[St t] 22)) = .ok (.slice a3 1 c3) w3) := hid r3
      have hb3 := below_own hB0 hB0.size hn0 g3
      have HF : Hid (w3.ownsRow w.heap.size 22 1 (.slice a3 1 c3) [t].length ([t].map St) ∧ Below w.heap.size w w3) := hid ⟨o3, hb3⟩
      have c3' : w3.cell? ⟨w.heap.size, 3, none⟩ = some (.slice ao 0 cap) := by
        have hbk : w0.heap[w.heap.size]? = some (.cells #[.int .u8 1, St t, .int .i64 0, .slice ao 0 cap] 25 (0, 0)) := by rw [hw0]; exact heap_alloc_new w _
        have hlt := lt_of_heap hbk
        have h9 := g3.block w.heap.size hlt (by simp [Value.ownBlock])
        rw [cell_of_heap (h9.trans hbk)]
        rfl
      have c1' : w0.cell? ⟨w.heap.size, 1, none⟩ = some (St t) := by rw [hw0]; exact (cell_of_heap (heap_alloc_new w _) 1).trans rfl
      clear hlen hd hfit hoks hks hl ih r3 o3 g3 hb3 hn0 hB0
      go_enter Tryz.func39, Tryz.ntmps39
      go_upto_region 3 with fail
      rw [← hw0]
      clear hw0
      go_wp2_with (first | (at_builtin; refine wpList_append_run rfl (.tmp 8) (.tmp 11) 32 32 rfl _ _ (.slice a3 1 c3) w3 rfl rfl HR3.out ?_) | fail)
      go_loopg [3, 4] 0 (fun gg v3 v4 wr => gg = 0 ∧ v3 = .slice a3 1 c3 ∧ v4 = .int .i64 0 ∧ wr = w3)
      case atStart => exact ⟨rfl, rfl, rfl, rfl⟩
      case round =>
        obtain ⟨rfl, rfl, rfl, rfl⟩ := hrel
        go_wp2_with fail
        go_ret
        exact ⟨_, rfl, HF.out⟩
    · rw [if_neg k1] at hlen ⊢
      have hki : ¬ (kd : Int) = 1 := by omega
      have hkb : ((kd : Int) == 1) = false := by simpa using hki
      obtain ⟨m, hm⟩ : ∃ m, m = ks.length := ⟨_, rfl⟩
      rw [← hm] at hl ⊢
      obtain ⟨w0, hw0⟩ : ∃ w0, w0 = w.alloc (.cells #[.int .u8 (kd : Int), St t, .int .i64 n, .slice ao m cap] 25) := ⟨_, rfl⟩
      have HB0 : Hid (Below w.heap.size w w0) := hid (by rw [hw0]; exact below_al _ _)
      have HC0 : Hid (∀ W, Below w0.heap.size w0 W → W.cell? ⟨w.heap.size, 3, none⟩ = some (.slice ao m cap)) := hid (fun W hW => cell_later hW (by rw [hw0]; exact (cell_of_heap (heap_alloc_new w _) 3).trans rfl))
      have HSZ : Hid (w0.heap.size = w.heap.size + 1) := hid (by rw [hw0]; simp)
      have HM := hid hm
      have HL := hid hl
      have HKS : Hid (Kr b w d ao ks) := hid hks
      have HIH := hid ih
      have HOK := hid hoks
      have HLEN := hid hlen
      have HN0 : Hid (w0.ownsRow w0.heap.size 22 1 (.slice none 0 0) (Lk.keysAll (ks.take 0)).length ((Lk.keysAll (ks.take 0)).map St)) := hid (by rw [List.take_zero, Lk.keysAll]; exact World.ownsRow_nil _ _ _ _)
      clear hm hl hks ih hoks hlen hfit
      go_enter Tryz.func39, Tryz.ntmps39
      go_wp2_with fail
      rw [← hw0]
      clear hw0
      go_loopg [3, 4] m (fun gg v3 v4 wr => ∃ (i : Nat) (v : Value), gg = m - i ∧ i ≤ m ∧ v3 = v ∧ v4 = .int .i64 (i : Int) ∧ wr.ownsRow w0.heap.size 22 1 v (Lk.keysAll (ks.take i)).length ((Lk.keysAll (ks.take i)).map St) ∧ Below w0.heap.size w0 wr)
      case atStart => exact ⟨0, _, rfl, Nat.zero_le _, rfl, rfl, HN0.out, Below.refl _ _⟩
      case round =>
        obtain ⟨i, v, rfl, hi, rfl, rfl, ho, hB⟩ := hrel
        obtain ⟨a5, c5, rfl⟩ := row_shape ho
        have c3 := HC0.out wr hB
        have hBw : Below w.heap.size w wr := HB0.out.trans (hB.mono HB0.out.size)
        by_cases him : i < m
        · have hik : i < ks.length := by have := HM.out; omega
          obtain ⟨g, o, hg, _, hc⟩ := (HKS.out.low hBw) (show 0 < ks.length by omega)
          subst hg
          obtain ⟨kv, hcs, hlr, d', hd', hkd⟩ := hc i hik
          obtain ⟨x, hx⟩ : ∃ x, x = ks[i] := ⟨_, rfl⟩
          have hokx := Lk.oks_get HOK.out _ (List.getElem_mem hik)
          have hst := Lk.keys_next hik
          have hle := Lk.keys_le (ks := ks) (i + 1)
          rw [← hx] at hcs hlr hkd hokx hst
          rw [hst, List.length_append] at hle
          obtain ⟨_, a2, c2, rfl⟩ := hkd.shape
          have e0 : wr.cell? ⟨g, o + i * 4, none⟩ = some (.int .u8 (x.kind : Int)) := hcs 0 _ rfl
          have e1 : wr.cell? ⟨g, o + i * 4 + 1, none⟩ = some (St x.term) := hcs 1 _ rfl
          have e2 : wr.cell? ⟨g, o + i * 4 + 2, none⟩ = some (.int .i64 x.n) := hcs 2 _ rfl
          have e3 : wr.cell? ⟨g, o + i * 4 + 3, none⟩ = some (.slice a2 x.kids.length c2) := hcs 3 _ rfl
          have hkl : (Lk.keys x).length ≤ 100000 := by have := HLEN.out; omega
          have hkt : (Lk.keysAll (ks.take i)).length + (Lk.keys x).length < 1000000000 := by have := HLEN.out; omega
          have HCA : Hid (Calls Tryz.prog 39 #[.agg #[.int .u8 (x.kind : Int), St x.term, .int .i64 x.n, .slice a2 x.kids.length c2]] wr fun e w' => ∃ a c, e = .returned (.slice a (Lk.keys x).length c) ∧ (∃ a6 c6 w6, (∀ ty, (Builtin.append_ #[32, 32] ty #[.slice a5 (Lk.keysAll (ks.take i)).length c5, .slice a (Lk.keys x).length c]).run Tryz.prog w' = .ok (.slice a6 (Lk.keysAll (ks.take (i + 1))).length c6) w6) ∧ w6.ownsRow w0.heap.size 22 1 (.slice a6 (Lk.keysAll (ks.take (i + 1))).length c6) (Lk.keysAll (ks.take (i + 1))).length ((Lk.keysAll (ks.take (i + 1))).map St) ∧ Below w0.heap.size w0 w6)) := hid ((HIH.out d' hd' x _ wr hkd hokx hkl).mono (fun e w' ⟨v', h1, h2, h3⟩ => by
            obtain ⟨a, c, rfl⟩ := row_shape h2
            have ho' := ownsRow_of_heap ho (fun k hk => h3.block k hk)
            have hB' := hB.trans (h3.mono hB.size)
            obtain ⟨a6, c6, w6, r6, o6, g6⟩ := append_many w' w0.heap.size _ _ _ _ ho' (texts_own h2) hkt hB'.size
            rw [← hst] at r6 o6
            exact ⟨a, c, h1, a6, c6, w6, r6, o6, below_own hB' hB'.size ho' g6⟩))
          have hiw : IntKind.i64.wrap ((i : Int) + 1) = ((i + 1 : Nat) : Int) := by rw [IntKind.wrap_i64]; have := HL.out; omega
          have hi0 : (0 : Int) ≤ (i : Int) := Int.natCast_nonneg _
          have hi1 : (i : Int) < (m : Int) := by omega
          obtain ⟨nx, hnx⟩ : ∃ nx, nx = (Lk.keysAll (ks.take (i + 1))).length := ⟨_, rfl⟩
          obtain ⟨n0, hn0⟩ : ∃ n0, n0 = (Lk.keysAll (ks.take i)).length := ⟨_, rfl⟩
          obtain ⟨nk, hnk⟩ : ∃ nk, nk = (Lk.keys x).length := ⟨_, rfl⟩
          rw [← hnx, ← hn0, ← hnk] at HCA
          have HNX := hid hnx
          rw [← hn0]
          have HI := hid him
          clear hcs hlr hkd hc hik him hi hx hB hBw hst hle hokx ho hkl hkt hnx hn0 hnk
          go_wp2_with fail
          refine HCA.out.mono ?_
          rintro e w2 ⟨a, c, rfl, a6, c6, w6, r6, o6, b6⟩
          have HR6 := hid r6
          have HO6 := hid o6
          have HB6 := hid b6
          clear r6 o6 b6 HCA
          go_wp2_with (first | (at_builtin; refine wpList_append_run rfl (.tmp 20) (.tmp 26) 32 32 rfl _ _ (.slice a6 nx c6) w6 rfl rfl HR6.out ?_) | fail)
          go_roundg (m - (i + 1))
          case measure => have := HI.out; omega
          case rel => exact ⟨i + 1, .slice a6 nx c6, rfl, by have := HI.out; omega, rfl, rfl, by rw [← HNX.out]; exact HO6.out, HB6.out⟩
        · have hi1 : ¬ (i : Int) < (m : Int) := by omega
          have hie : i = m := by omega
          have HZ : Hid (wr.ownsRow w.heap.size 22 1 (.slice a5 (Lk.keysAll (ks.take i)).length c5) (Lk.keysAll ks).length ((Lk.keysAll ks).map St) ∧ Below w.heap.size w wr) := hid ⟨by
            have h1 : ks.take i = ks := List.take_of_length_le (by have := HM.out; omega)
            rw [h1] at ho ⊢
            exact own_lower ho (by have := HSZ.out; omega), hBw⟩
          generalize (Lk.keysAll (ks.take i)).length = n0 at *
          clear hB hBw hi him hie ho
          go_wp2_with fail
          go_ret
          exact ⟨_, rfl, HZ.out⟩
end Go.Proofs.YtdllpklecdmghaaGreatDoor
