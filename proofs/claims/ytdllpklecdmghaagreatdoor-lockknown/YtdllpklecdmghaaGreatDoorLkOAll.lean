import Derived.Test.YtdllpklecdmghaaGreatDoorLkN
import Derived.Test.YtdllpklecdmghaaGreatDoorLkGAll
import Derived.Test.YtdllpklecdmghaaGreatDoorLkEAll
/- What opens a lock. -/
namespace Go.Proofs.YtdllpklecdmghaaGreatDoor
open Go.RowKit
open Lk (Lt)
namespace Lk
theorem all_is (ver : Bs → Bs → Bs → Bool) (s : Sp) : ∀ ks : List Lt, opnAll ver s ks = !(ks.any (fun x => !opn ver s x))
  | [] => rfl
  | x :: ks => by rw [opnAll, all_is ver s ks, List.any_cons]; cases opn ver s x <;> simp
theorem any_is (ver : Bs → Bs → Bs → Bool) (s : Sp) : ∀ ks : List Lt, opnAny ver s ks = ks.any (fun x => opn ver s x)
  | [] => rfl
  | x :: ks => by rw [opnAny, any_is ver s ks, List.any_cons]
end Lk
namespace Tm
theorem is_inv_hash {d : Nat} {l : Bs} (h : Is d (72 :: l)) : ∃ a, Is a l ∧ d = a + 1 := by
  have h1 := h.2.2 d [] (Nat.le_refl _)
  have h3 := h.1
  obtain ⟨n, rfl⟩ : ∃ k, d = k + 1 := ⟨d - 1, by omega⟩
  rw [List.append_nil, rd, if_neg (by decide), if_neg (by decide), if_neg (by decide), if_neg (by decide), if_pos rfl] at h1
  match hg : rd n l with
  | none => rw [hg] at h1; simp at h1
  | some (k, r) =>
    rw [hg] at h1
    obtain ⟨p, rfl, hk, hp⟩ := rd_good n _ _ _ hg
    simp at h1
    obtain ⟨h1, rfl⟩ := h1
    rw [List.append_nil]
    exact ⟨k, hp, by omega⟩
end Tm
theorem hash_is {t : Bs} (ht : Tm.deep t ≠ 0) (x : Bs) : ((((bRes 72 [] [x]).2 : Int) == 0) && ((bRes 72 [] [x]).1 == t)) = decide (72 :: x = t) := by
  by_cases e : 72 :: x = t
  · have h1 := (Tm.deep_is ht).1
    have h2 := (Tm.deep_is ht).2
    have h3 := Tm.deep_le t
    rw [← e] at h1 h2 h3
    obtain ⟨a, ha, hd⟩ := Tm.is_inv_hash h1
    have hxl : x.length ≤ 16384 := by simp at h2; omega
    have hx : Tm.deep x = a := Tm.is_deep ha (by omega) hxl
    have ha1 := ha.1
    have hb : bRes 72 [] [x] = (72 :: x, 0) := by
      unfold bRes
      rw [if_neg (by simp [hx]; omega), if_neg (by simp [bDeep, bSize, hx] at *; omega)]
      simp
    rw [hb]
    simp [e]
  · rw [decide_eq_false e, Bool.and_eq_false_iff]
    unfold bRes
    split
    · exact .inl rfl
    · split
      · exact .inl rfl
      · right
        simpa using e
set_option maxHeartbeats 4000000 in
theorem ask55 (x t msg : Bs) (p q : Nat) (w : World) (e1 : w.cell? ⟨p, 1, none⟩ = some (St t)) (e2 : w.cell? ⟨q, 2, none⟩ = some (St msg)) : Calls Tryz.prog 68 #[St x, .pointer (some ⟨p, 0, none⟩), .pointer (some ⟨q, 0, none⟩)] w fun e w' => e = .returned (.bool (verifyRes t msg x)) ∧ Below w.heap.size w w' := by
  have HC := hid (verify_any t msg x w)
  generalize verifyRes t msg x = R at *
  go_enter Tryz.func68, Tryz.ntmps68
  go_wp2_with fail
  refine HC.out.mono ?_
  rintro e w2 ⟨rfl, hb2⟩
  have HB2 := hid hb2
  clear hb2 HC e1 e2
  go_wp2_with fail
  go_ret
  exact ⟨rfl, HB2.out⟩
set_option maxHeartbeats 4000000 in
theorem ask57 (x t : Bs) (ht : Tm.deep t ≠ 0) (p : Nat) (w : World) (e1 : w.cell? ⟨p, 1, none⟩ = some (St t)) : Calls Tryz.prog 70 #[St x, .pointer (some ⟨p, 0, none⟩)] w fun e w' => e = .returned (.bool (decide (72 :: x = t))) ∧ Below w.heap.size w w' := by
  have HC := hid (hash_any x w)
  have HR := hid (hash_is ht x)
  have HE1 : Hid (∀ W, Below w.heap.size w W → W.cell? ⟨p, 1, none⟩ = some (St t)) := hid (fun W hW => cell_later hW e1)
  clear ht e1
  generalize decide (72 :: x = t) = R at *
  unfold made at HC
  generalize hr : bRes 72 [] [x] = r at *
  obtain ⟨h, n⟩ := r
  clear hr
  go_enter Tryz.func70, Tryz.ntmps70
  go_wp2_with fail
  refine HC.out.mono ?_
  rintro e w2 ⟨rfl, hb2⟩
  have e1 := HE1.out w2 hb2
  have HB2 := hid hb2
  clear hb2 HC HE1
  by_cases hn : (n : Int) = 0
  · go_wp2_with fail
    go_ret
    exact ⟨by rw [← HR.out]; simp [hn], HB2.out⟩
  · go_wp2_with fail
    go_ret
    have hn' : ¬ n = 0 := by omega
    exact ⟨by rw [← HR.out]; simp [hn'], HB2.out⟩
end Go.Proofs.YtdllpklecdmghaaGreatDoor
/- What opens a lock: the call. -/
namespace Go.Proofs.YtdllpklecdmghaaGreatDoor
open Go.RowKit
open Lk (Lt Sp)
theorem Texts.low {w w' : World} {v : Value} {ks : List Bs} (h : Texts w v ks) (hB : Below w.heap.size w w') : Texts w' v ks := by
  obtain ⟨ao, cap, hv, h⟩ := h
  refine ⟨ao, cap, hv, fun h0 => ?_⟩
  obtain ⟨g, o, hg, hl, hc⟩ := h h0
  exact ⟨g, o, hg, Nat.lt_of_lt_of_le hl hB.size, fun i hi => cell_later hB (hc i hi)⟩
structure Sw (w : World) (s : Sp) (sv pv : Value) : Prop where
  sigs : Texts w sv s.sigs
  pres : Texts w pv s.pres
  sl : s.sigs.length ≤ 140737488355328
  pl : s.pres.length ≤ 140737488355328
theorem Sw.low {w w' : World} {s : Sp} {sv pv : Value} (h : Sw w s sv pv) (hB : Below w.heap.size w w') : Sw w' s sv pv := ⟨h.sigs.low hB, h.pres.low hB, h.sl, h.pl⟩
abbrev scs (s : Sp) (sv pv : Value) : Array Value := #[sv, pv, St s.msg, .int .i64 s.after, .int .i64 s.age]
set_option maxHeartbeats 4000000 in
theorem ask60 (x : Lt) (kv : Value) (q : Nat) (sa pa : Option Addr) (n1 sc n2 pc : Nat) (msg : Bs) (af ag : Int) (R : Bool) (w : World) (hkv : ∃ a c, kv = .slice a x.kids.length c) (hq : w.heap[q]? = some (.cells #[.slice sa n1 sc, .slice pa n2 pc, St msg, .int .i64 af, .int .i64 ag] 66 (0, 0))) (hc : ∀ W, Below w.heap.size w W → Calls Tryz.prog 47 #[.agg #[.slice sa n1 sc, .slice pa n2 pc, St msg, .int .i64 af, .int .i64 ag], .agg (lcs x kv)] W fun e w' => e = .returned (.bool R) ∧ Below w.heap.size w w') : Calls Tryz.prog 73 #[.agg (lcs x kv), .pointer (some ⟨q, 0, none⟩)] w fun e w' => e = .returned (.bool (!R)) ∧ Below w.heap.size w w' := by
  obtain ⟨a, c, rfl⟩ := hkv
  have HC := hid hc
  have hlt := lt_of_heap hq
  have q0 : w.cell? ⟨q, 0, none⟩ = some (.slice sa n1 sc) := (cell_of_heap hq 0).trans rfl
  have q1 : w.cell? ⟨q, 1, none⟩ = some (.slice pa n2 pc) := (cell_of_heap hq 1).trans rfl
  have q2 : w.cell? ⟨q, 2, none⟩ = some (St msg) := (cell_of_heap hq 2).trans rfl
  have q3 : w.cell? ⟨q, 3, none⟩ = some (.int .i64 af) := (cell_of_heap hq 3).trans rfl
  have q4 : w.cell? ⟨q, 4, none⟩ = some (.int .i64 ag) := (cell_of_heap hq 4).trans rfl
  clear hc hq
  unfold lcs at *
  go_enter Tryz.func73, Tryz.ntmps73
  go_wp2_with fail
  refine (HC.out _ (below_al _ _)).mono ?_
  rintro e w2 ⟨rfl, hb2⟩
  have HB2 := hid hb2
  clear hb2 HC
  go_wp2_with fail
  go_ret
  exact ⟨rfl, HB2.out⟩
set_option maxHeartbeats 8000000 in
theorem opens_all {b : Nat → Prop} (s : Sp) (sv pv : Value) (d : Nat) : ∀ (l : Lt) (kv : Value) (w : World), Kd b w d kv l.kids → Lk.ok l = true → Sw w s sv pv → Calls Tryz.prog 47 #[.agg (scs s sv pv), .agg (lcs l kv)] w fun e w' => e = .returned (.bool (Lk.opn verifyRes s l)) ∧ Below w.heap.size w w' := by
  induction d using Nat.strongRecOn with
  | ind d ih =>
    intro l kv w hk hok hsw
    obtain ⟨kd, t, n, ks⟩ := l
    obtain ⟨hl, ao, cap, rfl, hks⟩ := hk.parts
    clear hk
    have hl : ks.length ≤ 140737488355328 := hl
    have hks : Kr b w d ao ks := hks
    rw [Lk.ok, Bool.and_eq_true] at hok
    obtain ⟨hfit, hoks⟩ := hok
    obtain ⟨sa, sc, rfl⟩ : ∃ sa sc, sv = .slice sa s.sigs.length sc := by obtain ⟨a, c, h, _⟩ := hsw.sigs; exact ⟨a, c, h⟩
    obtain ⟨pa, pc, rfl⟩ : ∃ pa pc, pv = .slice pa s.pres.length pc := by obtain ⟨a, c, h, _⟩ := hsw.pres; exact ⟨a, c, h⟩
    show Calls Tryz.prog 47 #[.agg #[.slice sa s.sigs.length sc, .slice pa s.pres.length pc, St s.msg, .int .i64 s.after, .int .i64 s.age], .agg #[.int .u8 (kd : Int), St t, .int .i64 n, .slice ao ks.length cap]] w _
    obtain ⟨w0, hw0⟩ : ∃ w0, w0 = (w.alloc (.cells #[.slice sa s.sigs.length sc, .slice pa s.pres.length pc, St s.msg, .int .i64 s.after, .int .i64 s.age] 66)).alloc (.cells #[.int .u8 (kd : Int), St t, .int .i64 n, .slice ao ks.length cap] 25) := ⟨_, rfl⟩
    have hB0 : Below w.heap.size w w0 := by rw [hw0]; exact (below_al w _).trans ((below_al _ _).mono (below_al w _).size)
    have hcs : ∀ W, Below w0.heap.size w0 W → ∀ j u, (#[Value.slice sa s.sigs.length sc, .slice pa s.pres.length pc, St s.msg, .int .i64 s.after, .int .i64 s.age] : Array Value)[j]? = some u → W.cell? ⟨w.heap.size, j, none⟩ = some u := fun W hW j u hu => cell_later hW (by rw [hw0]; exact cell_later (below_al _ _) ((cell_of_heap (heap_alloc_new w _) j).trans hu))
    have hcl : ∀ W, Below w0.heap.size w0 W → ∀ j u, (#[Value.int .u8 (kd : Int), St t, .int .i64 n, .slice ao ks.length cap] : Array Value)[j]? = some u → W.cell? ⟨w.heap.size + 1, j, none⟩ = some u := fun W hW j u hu => cell_later hW (by
      rw [hw0]
      have h := heap_alloc_new (w.alloc (.cells #[.slice sa s.sigs.length sc, .slice pa s.pres.length pc, St s.msg, .int .i64 s.after, .int .i64 s.age] 66)) (.cells #[.int .u8 (kd : Int), St t, .int .i64 n, .slice ao ks.length cap] 25)
      rw [show (w.alloc (.cells #[.slice sa s.sigs.length sc, .slice pa s.pres.length pc, St s.msg, .int .i64 s.after, .int .i64 s.age] 66)).heap.size = w.heap.size + 1 by simp] at h
      exact (cell_of_heap h j).trans hu)
    have hsw0 := hsw.low hB0
    have HB0 := hid hB0
    have hkd := Lk.fit_kind hfit
    rw [Lk.opn]
    have hhs : ∀ W, Below w0.heap.size w0 W → W.heap[w.heap.size]? = some (.cells #[.slice sa s.sigs.length sc, .slice pa s.pres.length pc, St s.msg, .int .i64 s.after, .int .i64 s.age] 66 (0, 0)) := fun W hW => by
      have h1 : w0.heap[w.heap.size]? = some (.cells #[.slice sa s.sigs.length sc, .slice pa s.pres.length pc, St s.msg, .int .i64 s.after, .int .i64 s.age] 66 (0, 0)) := by
        rw [hw0, (below_al _ _).block _ (lt_of_heap (heap_alloc_new w _))]
        exact heap_alloc_new w _
      rw [hW.block _ (lt_of_heap h1)]
      exact h1
    by_cases k1 : kd = 1
    · subst k1
      clear hhs
      have hw0 : w0 = (w.alloc (.cells #[.slice sa s.sigs.length sc, .slice pa s.pres.length pc, St s.msg, .int .i64 s.after, .int .i64 s.age] 66)).alloc (.cells #[.int .u8 1, St t, .int .i64 n, .slice ao ks.length cap] 25) := hw0
      rw [if_pos rfl]
      have HC : Hid (Calls Tryz.prog 67 #[.slice sa s.sigs.length sc, .func (.func 68) #[] #[.pointer (some ⟨w.heap.size + 1, 0, none⟩), .pointer (some ⟨w.heap.size, 0, none⟩)]] w0 fun e w' => e = .returned (.bool (s.sigs.any (fun x => verifyRes t s.msg x))) ∧ Below w0.heap.size w0 w') := hid (contains_t55 (w.heap.size + 1) w.heap.size (fun x => verifyRes t s.msg x) s.sigs sa sc w0 hsw0.sigs hsw.sl (fun W hW x _ => (ask55 x t s.msg _ _ W (hcl W hW 1 _ rfl) (hcs W hW 2 _ rfl)).mono (fun e w' ⟨h1, h2⟩ => ⟨h1, hW.trans (h2.mono hW.size)⟩)))
      generalize s.sigs.any (fun x => verifyRes t s.msg x) = R at *
      clear hsw hks hl hfit hoks hkd ih hcs hcl hsw0 hB0
      generalize s.sigs.length = n1 at *
      generalize s.pres.length = n2 at *
      generalize s.msg = msg at *
      generalize s.after = af at *
      generalize s.age = ag at *
      go_enter Tryz.func47, Tryz.ntmps47
      go_wp2_with fail
      rw [← hw0]
      refine HC.out.mono ?_
      rintro e w2 ⟨rfl, hb2⟩
      have HB2 : Hid (Below w.heap.size w w2) := hid (HB0.out.trans (hb2.mono HB0.out.size))
      clear hb2 HC hw0
      go_wp2_with fail
      go_ret
      exact ⟨rfl, HB2.out⟩
    · by_cases k2 : kd = 2
      · subst k2
        clear hhs
        have hw0 : w0 = (w.alloc (.cells #[.slice sa s.sigs.length sc, .slice pa s.pres.length pc, St s.msg, .int .i64 s.after, .int .i64 s.age] 66)).alloc (.cells #[.int .u8 2, St t, .int .i64 n, .slice ao ks.length cap] 25) := hw0
        rw [if_neg (by omega), if_pos rfl]
        have htd := (Lk.fit_t (.inr rfl) hfit).2.2
        have HC : Hid (Calls Tryz.prog 67 #[.slice pa s.pres.length pc, .func (.func 70) #[] #[.pointer (some ⟨w.heap.size + 1, 0, none⟩)]] w0 fun e w' => e = .returned (.bool (s.pres.any (fun x => decide (72 :: x = t)))) ∧ Below w0.heap.size w0 w') := hid (contains_t57 (w.heap.size + 1) (fun x => decide (72 :: x = t)) s.pres pa pc w0 hsw0.pres hsw.pl (fun W hW x _ => (ask57 x t htd _ W (hcl W hW 1 _ rfl)).mono (fun e w' ⟨h1, h2⟩ => ⟨h1, hW.trans (h2.mono hW.size)⟩)))
        generalize s.pres.any (fun x => decide (72 :: x = t)) = R at *
        clear htd
        clear hsw hks hl hfit hoks hkd ih hcs hcl hsw0 hB0
        generalize s.sigs.length = n1 at *
        generalize s.pres.length = n2 at *
        generalize s.msg = msg at *
        generalize s.after = af at *
        generalize s.age = ag at *
        go_enter Tryz.func47, Tryz.ntmps47
        go_wp2_with fail
        rw [← hw0]
        refine HC.out.mono ?_
        rintro e w2 ⟨rfl, hb2⟩
        have HB2 : Hid (Below w.heap.size w w2) := hid (HB0.out.trans (hb2.mono HB0.out.size))
        clear hb2 HC hw0
        go_wp2_with fail
        go_ret
        exact ⟨rfl, HB2.out⟩
      · by_cases k3 : kd = 3
        · subst k3
          clear hhs
          have hw0 : w0 = (w.alloc (.cells #[.slice sa s.sigs.length sc, .slice pa s.pres.length pc, St s.msg, .int .i64 s.after, .int .i64 s.age] 66)).alloc (.cells #[.int .u8 3, St t, .int .i64 n, .slice ao ks.length cap] 25) := hw0
          rw [if_neg (by omega)]
          rw [if_neg (by omega)]
          rw [if_pos rfl]
          clear hsw hks hl hfit hoks hkd ih hcs hcl hsw0 hB0
          generalize s.sigs.length = n1 at *
          generalize s.pres.length = n2 at *
          generalize s.msg = msg at *
          generalize s.after = af at *
          generalize s.age = ag at *
          go_enter Tryz.func47, Tryz.ntmps47
          go_wp2_with fail
          rw [← hw0]
          go_ret
          exact ⟨rfl, HB0.out⟩
        · by_cases k4 : kd = 4
          · subst k4
            clear hhs
            have hw0 : w0 = (w.alloc (.cells #[.slice sa s.sigs.length sc, .slice pa s.pres.length pc, St s.msg, .int .i64 s.after, .int .i64 s.age] 66)).alloc (.cells #[.int .u8 4, St t, .int .i64 n, .slice ao ks.length cap] 25) := hw0
            rw [if_neg (by omega)]
            rw [if_neg (by omega)]
            rw [if_neg (by omega)]
            rw [if_pos rfl]
            clear hsw hks hl hfit hoks hkd ih hcs hcl hsw0 hB0
            generalize s.sigs.length = n1 at *
            generalize s.pres.length = n2 at *
            generalize s.msg = msg at *
            generalize s.after = af at *
            generalize s.age = ag at *
            go_enter Tryz.func47, Tryz.ntmps47
            go_wp2_with fail
            rw [← hw0]
            go_ret
            exact ⟨rfl, HB0.out⟩
          · by_cases k5 : kd = 5
            · subst k5
              have hw0 : w0 = (w.alloc (.cells #[.slice sa s.sigs.length sc, .slice pa s.pres.length pc, St s.msg, .int .i64 s.after, .int .i64 s.age] 66)).alloc (.cells #[.int .u8 5, St t, .int .i64 n, .slice ao ks.length cap] 25) := hw0
              rw [if_neg (by omega)]
              rw [if_neg (by omega)]
              rw [if_neg (by omega)]
              rw [if_neg (by omega)]
              rw [if_pos rfl, Lk.all_is]
              have HC : Hid (Calls Tryz.prog 72 #[.slice ao ks.length cap, .func (.func 73) #[] #[.pointer (some ⟨w.heap.size, 0, none⟩)]] w0 fun e w' => e = .returned (.bool (ks.any (fun x => !Lk.opn verifyRes s x))) ∧ Below w0.heap.size w0 w') := hid (contains_l60 w.heap.size (fun x => !Lk.opn verifyRes s x) ks ao cap w0 (hks.low hB0) hl (fun W hW x hx kv d' hd' hkd' => (ask60 x kv w.heap.size _ _ _ _ _ _ _ _ _ (Lk.opn verifyRes s x) W hkd'.shape.2 (hhs W hW) (fun W' hW' => (ih d' hd' x kv W' (hkd'.low hW') (Lk.oks_get hoks x hx) ((hsw0.low hW).low hW')).mono (fun e w' ⟨h1, h2⟩ => ⟨h1, hW'.trans (h2.mono hW'.size)⟩))).mono (fun e w' ⟨h1, h2⟩ => ⟨h1, hW.trans (h2.mono hW.size)⟩)))
              generalize ks.any (fun x => !Lk.opn verifyRes s x) = R at *
              clear hsw hks hl hfit hoks hkd ih hcs hcl hsw0 hB0
              clear hhs
              generalize s.sigs.length = n1 at *
              generalize s.pres.length = n2 at *
              generalize s.msg = msg at *
              generalize s.after = af at *
              generalize s.age = ag at *
              go_enter Tryz.func47, Tryz.ntmps47
              go_wp2_with fail
              rw [← hw0]
              refine HC.out.mono ?_
              rintro e w2 ⟨rfl, hb2⟩
              have HB2 : Hid (Below w.heap.size w w2) := hid (HB0.out.trans (hb2.mono HB0.out.size))
              clear hb2 HC hw0
              go_wp2_with fail
              go_ret
              exact ⟨rfl, HB2.out⟩
            · have k6 : kd = 6 := by omega
              subst k6
              have hw0 : w0 = (w.alloc (.cells #[.slice sa s.sigs.length sc, .slice pa s.pres.length pc, St s.msg, .int .i64 s.after, .int .i64 s.age] 66)).alloc (.cells #[.int .u8 6, St t, .int .i64 n, .slice ao ks.length cap] 25) := hw0
              rw [if_neg (by omega)]
              rw [if_neg (by omega)]
              rw [if_neg (by omega)]
              rw [if_neg (by omega)]
              rw [if_neg (by omega)]
              rw [Lk.any_is]
              have HC : Hid (Calls Tryz.prog 72 #[.slice ao ks.length cap, .func (.func 47) #[.agg #[.slice sa s.sigs.length sc, .slice pa s.pres.length pc, St s.msg, .int .i64 s.after, .int .i64 s.age]] #[]] w0 fun e w' => e = .returned (.bool (ks.any (fun x => Lk.opn verifyRes s x))) ∧ Below w0.heap.size w0 w') := hid (contains_l42 _ _ _ _ _ (fun x => Lk.opn verifyRes s x) ks ao cap w0 (hks.low hB0) hl (fun W hW x hx kv d' hd' hkd' => (ih d' hd' x kv W hkd' (Lk.oks_get hoks x hx) (hsw0.low hW)).mono (fun e w' ⟨h1, h2⟩ => ⟨h1, hW.trans (h2.mono hW.size)⟩)))
              generalize ks.any (fun x => Lk.opn verifyRes s x) = R at *
              clear hsw hks hl hfit hoks hkd ih hcs hcl hsw0 hB0
              clear hhs
              generalize s.sigs.length = n1 at *
              generalize s.pres.length = n2 at *
              generalize s.msg = msg at *
              generalize s.after = af at *
              generalize s.age = ag at *
              go_enter Tryz.func47, Tryz.ntmps47
              go_wp2_with fail
              rw [← hw0]
              refine HC.out.mono ?_
              rintro e w2 ⟨rfl, hb2⟩
              have HB2 : Hid (Below w.heap.size w w2) := hid (HB0.out.trans (hb2.mono HB0.out.size))
              clear hb2 HC hw0
              go_wp2_with fail
              go_ret
              exact ⟨rfl, HB2.out⟩
end Go.Proofs.YtdllpklecdmghaaGreatDoor
/- Opens, whatever it is handed. -/
namespace Go.Proofs.YtdllpklecdmghaaGreatDoor
open Go.RowKit
open Lk (Lt Sp)
def opRes (l : Lt) (s : Sp) : Bool := Lk.right l && decide (s.sigs.length ≤ 16) && decide (s.pres.length ≤ 16) && Lk.opn verifyRes s l
set_option maxHeartbeats 8000000 in
theorem lopens_any {b : Nat → Prop} (d : Nat) (l : Lt) (kv : Value) (s : Sp) (sv pv : Value) (w : World) (hk : Kd b w d kv l.kids) (hsw : Sw w s sv pv) : Calls Tryz.prog 20 #[.agg (lcs l kv), .agg #[sv, pv], St s.msg, .int .i64 s.after, .int .i64 s.age] w fun e w' => e = .returned (.bool (opRes l s)) ∧ Below w.heap.size w w' := by
  obtain ⟨sa, sc, rfl⟩ : ∃ sa sc, sv = .slice sa s.sigs.length sc := by obtain ⟨a, c, h, _⟩ := hsw.sigs; exact ⟨a, c, h⟩
  obtain ⟨pa, pc, rfl⟩ : ∃ pa pc, pv = .slice pa s.pres.length pc := by obtain ⟨a, c, h, _⟩ := hsw.pres; exact ⟨a, c, h⟩
  obtain ⟨hz, ao, cap, rfl⟩ := hk.shape
  clear hz
  obtain ⟨w0, hw0⟩ : ∃ w0, w0 = (w.alloc (.cells #[.int .u8 (l.kind : Int), St l.term, .int .i64 l.n, .slice ao l.kids.length cap] 25)).alloc (.cells #[.slice sa s.sigs.length sc, .slice pa s.pres.length pc] 40) := ⟨_, rfl⟩
  have hB0 : Below w.heap.size w w0 := by rw [hw0]; exact (below_al w _).trans ((below_al _ _).mono (below_al w _).size)
  have HCL : Hid (∀ W, Below w0.heap.size w0 W → (W.cell? ⟨w.heap.size, 0, none⟩ = some (.int .u8 (l.kind : Int)) ∧ W.cell? ⟨w.heap.size, 1, none⟩ = some (St l.term) ∧ W.cell? ⟨w.heap.size, 2, none⟩ = some (.int .i64 l.n) ∧ W.cell? ⟨w.heap.size, 3, none⟩ = some (.slice ao l.kids.length cap)) ∧ W.cell? ⟨w.heap.size + 1, 0, none⟩ = some (.slice sa s.sigs.length sc) ∧ W.cell? ⟨w.heap.size + 1, 1, none⟩ = some (.slice pa s.pres.length pc)) := hid (fun W hW => by
    have h := fun (j : Nat) (u : Value) (hu : (#[Value.int .u8 (l.kind : Int), St l.term, .int .i64 l.n, .slice ao l.kids.length cap] : Array Value)[j]? = some u) => cell_later hW (a := ⟨w.heap.size, j, none⟩) (v := u) (by rw [hw0]; exact cell_later (below_al _ _) ((cell_of_heap (heap_alloc_new w _) j).trans hu))
    have h2 := fun (j : Nat) (u : Value) (hu : (#[Value.slice sa s.sigs.length sc, .slice pa s.pres.length pc] : Array Value)[j]? = some u) => cell_later hW (a := ⟨w.heap.size + 1, j, none⟩) (v := u) (by
      rw [hw0]
      have h := heap_alloc_new (w.alloc (.cells #[.int .u8 (l.kind : Int), St l.term, .int .i64 l.n, .slice ao l.kids.length cap] 25)) (.cells #[.slice sa s.sigs.length sc, .slice pa s.pres.length pc] 40)
      rw [show (w.alloc (.cells #[.int .u8 (l.kind : Int), St l.term, .int .i64 l.n, .slice ao l.kids.length cap] 25)).heap.size = w.heap.size + 1 by simp] at h
      exact (cell_of_heap h j).trans hu)
    exact ⟨⟨h 0 _ rfl, h 1 _ rfl, h 2 _ rfl, h 3 _ rfl⟩, h2 0 _ rfl, h2 1 _ rfl⟩)
  have HR1 : Hid (Calls Tryz.prog 10 #[.agg #[.int .u8 (l.kind : Int), St l.term, .int .i64 l.n, .slice ao l.kids.length cap]] w0 fun e w' => e = .returned (.bool (Lk.right l)) ∧ Below w0.heap.size w0 w') := hid (lright_any d l _ w0 (hk.low hB0))
  have HOP : Hid (Lk.right l = true → ∀ W, Below w0.heap.size w0 W → Calls Tryz.prog 47 #[.agg #[.slice sa s.sigs.length sc, .slice pa s.pres.length pc, St s.msg, .int .i64 s.after, .int .i64 s.age], .agg #[.int .u8 (l.kind : Int), St l.term, .int .i64 l.n, .slice ao l.kids.length cap]] W fun e w' => e = .returned (.bool (Lk.opn verifyRes s l)) ∧ Below w0.heap.size w0 w') := hid (fun hr W hW => (opens_all s _ _ d l _ W ((hk.low hB0).low hW) ((Lk.right_is l).1 hr).1 ((hsw.low hB0).low hW)).mono (fun e w' ⟨h1, h2⟩ => ⟨h1, hW.trans (h2.mono hW.size)⟩))
  have HRES : Hid (opRes l s = (Lk.right l && decide (s.sigs.length ≤ 16) && decide (s.pres.length ≤ 16) && Lk.opn verifyRes s l)) := hid rfl
  have HB0 := hid hB0
  unfold lcs
  clear hk hsw hB0
  generalize opRes l s = RES at *
  generalize Lk.opn verifyRes s l = OP at *
  generalize Lk.right l = R at *
  generalize s.sigs.length = n1 at *
  generalize s.pres.length = n2 at *
  generalize s.msg = msg at *
  generalize s.after = af at *
  generalize s.age = ag at *
  go_enter Tryz.func20, Tryz.ntmps20
  go_wp2_with fail
  rw [← hw0]
  refine HR1.out.mono ?_
  rintro e w1 ⟨rfl, hb⟩
  obtain ⟨⟨q0, q1, q2, q3⟩, q4, q5⟩ := HCL.out w1 hb
  have HB1 : Hid (Below w.heap.size w w1) := hid (HB0.out.trans (hb.mono HB0.out.size))
  cases R with
  | false =>
    have HF : Hid (RES = false) := hid HRES.out
    clear hb HR1 HOP hw0 HCL HRES
    go_wp2_with fail
    go_ret
    exact ⟨by rw [HF.out]; rfl, HB1.out⟩
  | true =>
    have HO1 := hid (HOP.out rfl w1 hb)
    clear hb HR1 HOP hw0 HCL
    by_cases h1 : n1 ≤ 16
    · by_cases h2 : n2 ≤ 16
      · have i1 : ¬ (16 : Int) < (n1 : Int) := by omega
        have i2 : ¬ (16 : Int) < (n2 : Int) := by omega
        have HF : Hid (RES = OP) := hid (by rw [HRES.out]; simp [h1, h2])
        clear HRES h1 h2
        go_wp2_with fail
        refine HO1.out.mono ?_
        rintro e w2 ⟨rfl, hb2⟩
        have HB2 : Hid (Below w.heap.size w w2) := hid (HB0.out.trans (hb2.mono HB0.out.size))
        clear hb2 HO1 q0 q1 q2 q3 q4 q5
        go_wp2_with fail
        go_ret
        exact ⟨by rw [HF.out]; rfl, HB2.out⟩
      · have i1 : ¬ (16 : Int) < (n1 : Int) := by omega
        have i2 : (16 : Int) < (n2 : Int) := by omega
        have HF : Hid (RES = false) := hid (by rw [HRES.out]; simp [h2])
        clear HRES h1 h2 HO1
        go_wp2_with fail
        go_ret
        exact ⟨by rw [HF.out]; rfl, HB1.out⟩
    · have i1 : (16 : Int) < (n1 : Int) := by omega
      have HF : Hid (RES = false) := hid (by rw [HRES.out]; simp [h1])
      clear HRES h1 HO1
      go_wp2_with fail
      go_ret
      exact ⟨by rw [HF.out]; rfl, HB1.out⟩
end Go.Proofs.YtdllpklecdmghaaGreatDoor
