import Derived.Test.YtdllpklecdmghaaGreatDoorLkEAll
import Derived.Test.YtdllpklecdmghaaGreatDoorKaAll
/- A right lock is written behind what is there. -/
namespace Go.Proofs.YtdllpklecdmghaaGreatDoor
open Go.RowKit
open Lk (Lt)
namespace Lk
open Tm
theorem wrs_app : ∀ (a b : List Lt), wrs (a ++ b) = wrs a ++ wrs b
  | [], b => by simp [wrs]
  | x :: a, b => by rw [List.cons_append, wrs, wrs, wrs_app a b, List.append_assoc]
theorem wrs_next {ks : List Lt} {i : Nat} (hi : i < ks.length) : wrs (ks.take (i + 1)) = wrs (ks.take i) ++ wr ks[i] := by
  rw [List.take_add_one, List.getElem?_eq_getElem hi, wrs_app]
  simp [wrs]
theorem wrs_le {ks : List Lt} (i : Nat) : (wrs (ks.take i)).length ≤ (wrs ks).length := by
  have h := congrArg (fun x => (wrs x).length) (List.take_append_drop i ks)
  simp only [wrs_app, List.length_append] at h
  omega
theorem oks_get : ∀ {ks : List Lt}, oks ks = true → ∀ x ∈ ks, ok x = true
  | y :: ks, h, x, hx => by
    rw [oks, Bool.and_eq_true] at h
    rcases List.mem_cons.1 hx with rfl | hx
    · exact h.1
    · exact oks_get h.2 x hx
theorem fit_kind {k : Nat} {t : Bs} {n : Int} {ks : List Lt} (h : fit (.mk k t n ks) = true) : 1 ≤ k ∧ k ≤ 6 := by
  apply Classical.byContradiction
  intro hn
  have : fit (.mk k t n ks) = false := by
    unfold fit
    rw [if_neg (by show ¬ k = 1; omega), if_neg (by show ¬ k = 2; omega), if_neg (by show ¬ (k = 3 ∨ k = 4); omega), if_neg (by show ¬ (k = 5 ∨ k = 6); omega)]
  rw [this] at h
  cases h
theorem fit_t {k : Nat} {t : Bs} {n : Int} {ks : List Lt} (hk : k = 1 ∨ k = 2) (h : fit (.mk k t n ks) = true) : n = 0 ∧ ks = [] ∧ deep t ≠ 0 := by
  unfold fit at h
  rcases hk with rfl | rfl
  · rw [if_pos (show (Lt.mk 1 t n ks).kind = 1 from rfl), Bool.and_eq_true, Bool.and_eq_true] at h
    have h3 := h.2
    unfold isKey at h3
    rw [Bool.and_eq_true] at h3
    exact ⟨of_decide_eq_true h.1.1, List.eq_nil_of_length_eq_zero (of_decide_eq_true h.1.2), bne_iff_ne.1 h3.1⟩
  · rw [if_neg (show ¬ (Lt.mk 2 t n ks).kind = 1 by show ¬ (2 = 1); omega), if_pos (show (Lt.mk 2 t n ks).kind = 2 from rfl), Bool.and_eq_true, Bool.and_eq_true] at h
    have h3 := h.2
    unfold isOp at h3
    rw [Bool.and_eq_true] at h3
    exact ⟨of_decide_eq_true h.1.1, List.eq_nil_of_length_eq_zero (of_decide_eq_true h.1.2), bne_iff_ne.1 h3.1⟩
theorem fit_n {k : Nat} {t : Bs} {n : Int} {ks : List Lt} (hk : k = 3 ∨ k = 4) (h : fit (.mk k t n ks) = true) : t = [] ∧ ks = [] ∧ 0 ≤ n ∧ n ≤ 1073741823 := by
  unfold fit at h
  rw [if_neg (show ¬ (Lt.mk k t n ks).kind = 1 by show ¬ (k = 1); omega), if_neg (show ¬ (Lt.mk k t n ks).kind = 2 by show ¬ (k = 2); omega), if_pos (show (Lt.mk k t n ks).kind = 3 ∨ (Lt.mk k t n ks).kind = 4 from hk), Bool.and_eq_true, Bool.and_eq_true, Bool.and_eq_true] at h
  exact ⟨List.eq_nil_of_length_eq_zero (of_decide_eq_true h.1.1.1), List.eq_nil_of_length_eq_zero (of_decide_eq_true h.1.1.2), of_decide_eq_true h.1.2, of_decide_eq_true h.2⟩
theorem fit_k {k : Nat} {t : Bs} {n : Int} {ks : List Lt} (hk : k = 5 ∨ k = 6) (h : fit (.mk k t n ks) = true) : t = [] ∧ n = 0 ∧ ks.length ≠ 0 ∧ ks.length ≤ 8 := by
  unfold fit at h
  rw [if_neg (show ¬ (Lt.mk k t n ks).kind = 1 by show ¬ (k = 1); omega), if_neg (show ¬ (Lt.mk k t n ks).kind = 2 by show ¬ (k = 2); omega), if_neg (show ¬ ((Lt.mk k t n ks).kind = 3 ∨ (Lt.mk k t n ks).kind = 4) by show ¬ (k = 3 ∨ k = 4); omega), if_pos (show (Lt.mk k t n ks).kind = 5 ∨ (Lt.mk k t n ks).kind = 6 from hk), Bool.and_eq_true, Bool.and_eq_true, Bool.and_eq_true] at h
  exact ⟨List.eq_nil_of_length_eq_zero (of_decide_eq_true h.1.1.1), of_decide_eq_true h.1.1.2, of_decide_eq_true h.1.2, of_decide_eq_true h.2⟩
end Lk
theorem box_kept {w w' : World} {b : Nat} {e : TypeId} {sz : Nat} {v : Value} {n : Nat} {xs : List Value} {cs : Array Value} (ho : w.ownsRow b e sz v n xs) (hg : (w.alloc (.cells cs 25)).grownBy w' v.ownBlock) : w'.heap[w.heap.size]? = some (.cells cs 25 (0, 0)) := by
  rw [hg.block w.heap.size (lt_of_heap (heap_alloc_new w _)) (fun e => by have := (ho.lt w.heap.size e.symm).2; omega)]
  exact heap_alloc_new w _
theorem row_kept {w w' : World} {b g : Nat} {e : TypeId} {sz : Nat} {v : Value} {n : Nat} {xs : List Value} {o : Obj} (ho : w.ownsRow b e sz v n xs) (hg : w.grownBy w' v.ownBlock) (hh : w.heap[g]? = some o) (hne : ∀ k, v.ownBlock = some k → k ≠ g) : w'.heap[g]? = some o := by
  have _ := ho
  rw [hg.block g (lt_of_heap hh) (fun e => hne g e.symm rfl)]
  exact hh
set_option maxHeartbeats 8000000 in
set_option maxRecDepth 100000 in
theorem alock_any (w0 : World) (hp : Pw w0) {b : Nat → Prop} (d : Nat) : ∀ (l : Lt) (kv : Value), Kd b w0 d kv l.kids → Lk.ok l = true → ∀ (w : World) (v : Value) (out : Bs), Below w0.heap.size w0 w → w.ownsRow w0.heap.size 5 1 v out.length (bcs out) → out.length + (Lk.wr l).length ≤ 100000000 → Calls Tryz.prog 33 #[v, .agg (lcs l kv)] w fun e w' => ∃ v', e = .returned v' ∧ w'.ownsRow w0.heap.size 5 1 v' (out ++ Lk.wr l).length (bcs (out ++ Lk.wr l)) ∧ Below w0.heap.size w0 w' := by
  induction d using Nat.strongRecOn with
  | ind d ih =>
    intro l kv hk hok w v out hB hown hlen
    obtain ⟨kd, t, n, ks⟩ := l
    obtain ⟨_, ao, cap, rfl, hks⟩ := hk.parts
    clear hk
    have hks : Kr b w0 d ao ks := hks
    rw [Lk.ok, Bool.and_eq_true] at hok
    obtain ⟨hfit, hoks⟩ := hok
    rw [Lk.wr] at hlen ⊢
    show Calls Tryz.prog 33 #[v, .agg #[.int .u8 (kd : Int), St t, .int .i64 n, .slice ao ks.length cap]] w _
    obtain ⟨va, vc, rfl⟩ := row_shape hown
    obtain ⟨nO, hnO⟩ : ∃ nO, nO = out.length := ⟨_, rfl⟩
    rw [← hnO] at hown ⊢
    have HNO := hid hnO
    obtain ⟨w1, hw1⟩ : ∃ w1, w1 = w.alloc (.cells #[.int .u8 (kd : Int), St t, .int .i64 n, .slice ao ks.length cap] 25) := ⟨_, rfl⟩
    have hB1 : Below w0.heap.size w0 w1 := by rw [hw1]; exact hB.trans ((below_al w _).mono hB.size)
    have hown1 : w1.ownsRow w0.heap.size 5 1 (.slice va nO vc) out.length (bcs out) := by rw [hw1, ← hnO]; exact hown.alloc _
    have hbl : 1 ≤ (if kd = 1 ∨ kd = 2 then t else if kd = 3 ∨ kd = 4 then Lib.decDigits n.toNat ++ [59] else Lib.decDigits ks.length ++ 58 :: Lk.wrs ks).length + 1 := by omega
    rw [List.length_cons] at hlen
    have hapb := fun (c : UInt8) (z : Int) (hz : z = (c.toNat : Int)) => app_byte hown1 c z hz (by omega) hB1.size
    rw [← hnO] at hapb
    by_cases k1 : kd = 1
    · subst k1
      simp only [true_or, if_true] at hlen ⊢
      rw [show Lk.letter 1 = 115 from rfl]
      have hw1 : w1 = w.alloc (.cells #[.int .u8 1, St t, .int .i64 n, .slice ao ks.length cap] 25) := hw1
      obtain ⟨a2, c2, w2, r2, o2, g2⟩ := hapb 115 (((⟨#[115, 112, 97, 111, 38, 124]⟩ : ByteArray)[0]'(by decide)).toNat : Int) rfl
      have HR2 : Hid (∀ ty, (Builtin.append_ #[51, 51] ty #[.slice va nO vc, .slice (some ⟨w.heap.size + 1, 0, none⟩) 1 1]).run Tryz.prog ((w.alloc (.cells #[.int .u8 1, St t, .int .i64 n, .slice ao ks.length cap] 25)).alloc (.cells #[.int .u8 (((⟨#[115, 112, 97, 111, 38, 124]⟩ : ByteArray)[0]'(by decide)).toNat : Int)] 5)) = .ok (.slice a2 (nO + 1) c2) w2) := hid (by rw [hw1, heap_alloc_size] at r2; exact r2)
      have hB2 : Below w0.heap.size w0 w2 := below_own hB1 hB1.size hown1 g2
      have hbx : w2.heap[w.heap.size]? = some (.cells #[.int .u8 1, St t, .int .i64 n, .slice ao ks.length cap] 25 (0, 0)) := by
        rw [hw1] at g2
        exact box_kept hown g2
      have e0 : w2.cell? ⟨w.heap.size, 0, none⟩ = some (.int .u8 1) := (cell_of_heap hbx 0).trans rfl
      have e1 : w2.cell? ⟨w.heap.size, 1, none⟩ = some (St t) := (cell_of_heap hbx 1).trans rfl
      obtain ⟨a3, c3, w3, r3, o3, g3⟩ := app_str o2 t (by simp only [List.length_append, List.length_singleton]; omega) hB2.size
      rw [List.append_assoc] at o3 r3
      have hl3 : (out ++ ([115] ++ t)).length = (out ++ 115 :: t).length := rfl
      have HR3 : Hid (∀ ty, (Builtin.append_ #[51, 22] ty #[.slice a2 (nO + 1) c2, St t]).run Tryz.prog w2 = .ok (.slice a3 (out ++ 115 :: t).length c3) w3) := hid r3
      have HF : Hid (w3.ownsRow w0.heap.size 5 1 (.slice a3 (out ++ 115 :: t).length c3) (out ++ 115 :: t).length (bcs (out ++ 115 :: t)) ∧ Below w0.heap.size w0 w3) := hid ⟨o3, below_own hB2 hB2.size o2 g3⟩
      generalize (out ++ 115 :: t).length = nn at *
      clear hapb hB hown hlen hks hfit hoks hB1 hown1 hB2 hbx o2 g2 o3 g3 r2 r3 hl3 ih hbl hnO
      clear hw1
      go_enter Tryz.func33, Tryz.ntmps33
      go_wp2_with (first | (at_builtin; refine wpList_append_run rfl (.tmp 7) (.tmp 12) 51 51 rfl _ _ (.slice a2 (nO + 1) c2) w2 rfl rfl HR2.out ?_) | (at_builtin; refine wpList_append_run rfl (.tmp 19) (.tmp 21) 51 22 rfl _ _ (.slice a3 nn c3) w3 rfl rfl HR3.out ?_) | fail)
      go_ret
      exact ⟨.slice a3 nn c3, rfl, HF.out⟩
    · by_cases k2 : kd = 2
      · subst k2
        simp only [or_true, if_true] at hlen ⊢
        rw [show Lk.letter 2 = 112 from rfl]
        have hw1 : w1 = w.alloc (.cells #[.int .u8 2, St t, .int .i64 n, .slice ao ks.length cap] 25) := hw1
        obtain ⟨a2, c2, w2, r2, o2, g2⟩ := hapb 112 (((⟨#[115, 112, 97, 111, 38, 124]⟩ : ByteArray)[1]'(by decide)).toNat : Int) rfl
        have HR2 : Hid (∀ ty, (Builtin.append_ #[51, 51] ty #[.slice va nO vc, .slice (some ⟨w.heap.size + 1, 0, none⟩) 1 1]).run Tryz.prog ((w.alloc (.cells #[.int .u8 2, St t, .int .i64 n, .slice ao ks.length cap] 25)).alloc (.cells #[.int .u8 (((⟨#[115, 112, 97, 111, 38, 124]⟩ : ByteArray)[1]'(by decide)).toNat : Int)] 5)) = .ok (.slice a2 (nO + 1) c2) w2) := hid (by rw [hw1, heap_alloc_size] at r2; exact r2)
        have hB2 : Below w0.heap.size w0 w2 := below_own hB1 hB1.size hown1 g2
        have hbx : w2.heap[w.heap.size]? = some (.cells #[.int .u8 2, St t, .int .i64 n, .slice ao ks.length cap] 25 (0, 0)) := by
          rw [hw1] at g2
          exact box_kept hown g2
        have e0 : w2.cell? ⟨w.heap.size, 0, none⟩ = some (.int .u8 2) := (cell_of_heap hbx 0).trans rfl
        have e1 : w2.cell? ⟨w.heap.size, 1, none⟩ = some (St t) := (cell_of_heap hbx 1).trans rfl
        obtain ⟨a3, c3, w3, r3, o3, g3⟩ := app_str o2 t (by simp only [List.length_append, List.length_singleton]; omega) hB2.size
        rw [List.append_assoc] at o3 r3
        have hl3 : (out ++ ([112] ++ t)).length = (out ++ 112 :: t).length := rfl
        have HR3 : Hid (∀ ty, (Builtin.append_ #[51, 22] ty #[.slice a2 (nO + 1) c2, St t]).run Tryz.prog w2 = .ok (.slice a3 (out ++ 112 :: t).length c3) w3) := hid r3
        have HF : Hid (w3.ownsRow w0.heap.size 5 1 (.slice a3 (out ++ 112 :: t).length c3) (out ++ 112 :: t).length (bcs (out ++ 112 :: t)) ∧ Below w0.heap.size w0 w3) := hid ⟨o3, below_own hB2 hB2.size o2 g3⟩
        generalize (out ++ 112 :: t).length = nn at *
        clear hapb hB hown hlen hks hfit hoks hB1 hown1 hB2 hbx o2 g2 o3 g3 r2 r3 hl3 ih hbl hnO
        clear hw1
        go_enter Tryz.func33, Tryz.ntmps33
        go_wp2_with (first | (at_builtin; refine wpList_append_run rfl (.tmp 7) (.tmp 12) 51 51 rfl _ _ (.slice a2 (nO + 1) c2) w2 rfl rfl HR2.out ?_) | (at_builtin; refine wpList_append_run rfl (.tmp 19) (.tmp 21) 51 22 rfl _ _ (.slice a3 nn c3) w3 rfl rfl HR3.out ?_) | fail)
        go_ret
        exact ⟨.slice a3 nn c3, rfl, HF.out⟩
      · by_cases k3 : kd = 3
        · subst k3
          rw [if_neg (by omega), if_pos (.inl rfl)] at hlen ⊢
          rw [show Lk.letter 3 = 97 from rfl]
          have hw1 : w1 = w.alloc (.cells #[.int .u8 3, St t, .int .i64 n, .slice ao ks.length cap] 25) := hw1
          obtain ⟨a2, c2, w2, r2, o2, g2⟩ := hapb 97 (((⟨#[115, 112, 97, 111, 38, 124]⟩ : ByteArray)[2]'(by decide)).toNat : Int) rfl
          have HR2 : Hid (∀ ty, (Builtin.append_ #[51, 51] ty #[.slice va nO vc, .slice (some ⟨w.heap.size + 1, 0, none⟩) 1 1]).run Tryz.prog ((w.alloc (.cells #[.int .u8 3, St t, .int .i64 n, .slice ao ks.length cap] 25)).alloc (.cells #[.int .u8 (((⟨#[115, 112, 97, 111, 38, 124]⟩ : ByteArray)[2]'(by decide)).toNat : Int)] 5)) = .ok (.slice a2 (nO + 1) c2) w2) := hid (by rw [hw1, heap_alloc_size] at r2; exact r2)
          have hB2 : Below w0.heap.size w0 w2 := below_own hB1 hB1.size hown1 g2
          have hbx : w2.heap[w.heap.size]? = some (.cells #[.int .u8 3, St t, .int .i64 n, .slice ao ks.length cap] 25 (0, 0)) := by
            rw [hw1] at g2
            exact box_kept hown g2
          have e0 : w2.cell? ⟨w.heap.size, 0, none⟩ = some (.int .u8 3) := (cell_of_heap hbx 0).trans rfl
          have e2 : w2.cell? ⟨w.heap.size, 2, none⟩ = some (.int .i64 n) := (cell_of_heap hbx 2).trans rfl
          have hn0 : 0 ≤ n ∧ n ≤ 1073741823 := (Lk.fit_n (by omega) hfit).2.2
          obtain ⟨n', rfl⟩ : ∃ n' : Nat, n = n' := ⟨n.toNat, by omega⟩
          rw [Int.toNat_natCast] at hlen ⊢
          have HAI : Hid (Calls Tryz.prog 57 #[.slice a2 (nO + 1) c2, .int .i64 (n' : Int), .int .i64 10] w2 fun e w' => ∃ v', e = .returned v' ∧ w'.ownsRow w0.heap.size 5 1 v' ((out ++ [97]) ++ Lib.decDigits n').length (bcs ((out ++ [97]) ++ Lib.decDigits n')) ∧ Below w0.heap.size w0 w' ∧ Lib.OthersKept 5 none w2 w') := hid (appint_any w0 w2 hp hB2 n' (by omega) _ _ (out ++ [97]) (by rw [List.length_append, ← hnO, List.length_singleton]) (by rw [List.length_append, ← hnO] at o2; exact o2) (by rw [List.length_append]; show out.length + 1 + 21 ≤ 140737488355328; omega))
          have HLEN : Hid (((out ++ [97]) ++ Lib.decDigits n').length + 1 ≤ 140737488355328) := hid (by simp only [List.length_append, List.length_singleton] at hlen ⊢; omega)
          clear hapb hB hown hlen hks hfit hoks hB1 hown1 hB2 hbx o2 g2 r2 ih hbl hnO hw1
          clear hn0
          go_enter Tryz.func33, Tryz.ntmps33
          go_wp2_with (first | (at_builtin; refine wpList_append_run rfl (.tmp 7) (.tmp 12) 51 51 rfl _ _ (.slice a2 (nO + 1) c2) w2 rfl rfl HR2.out ?_) | fail)
          refine HAI.out.mono ?_
          rintro e w3 ⟨v3, rfl, o3, b3, _⟩
          obtain ⟨a4, c4, w4, r4, o4, g4⟩ := app_byte o3 59 59 rfl HLEN.out b3.size
          obtain ⟨a3, c3, rfl⟩ := row_shape o3
          have HF : Hid (w4.ownsRow w0.heap.size 5 1 (.slice a4 (((out ++ [97]) ++ Lib.decDigits n').length + 1) c4) (out ++ 97 :: (Lib.decDigits n' ++ [59])).length (bcs (out ++ 97 :: (Lib.decDigits n' ++ [59]))) ∧ Below w0.heap.size w0 w4) := hid ⟨by simpa using o4, below_own b3 b3.size o3 g4⟩
          have HR4 := hid r4
          generalize ((out ++ [97]) ++ Lib.decDigits n').length = nn at *
          clear o3 b3 r4 o4 g4
          go_wp2_with (first | (at_builtin; refine wpList_append_run rfl (.tmp 29) (.tmp 30) 51 51 rfl _ _ (.slice a4 (nn + 1) c4) w4 rfl rfl HR4.out ?_) | fail)
          go_ret
          exact ⟨.slice a4 (nn + 1) c4, rfl, HF.out⟩
        · by_cases k4 : kd = 4
          · subst k4
            rw [if_neg (by omega), if_pos (.inr rfl)] at hlen ⊢
            rw [show Lk.letter 4 = 111 from rfl]
            have hw1 : w1 = w.alloc (.cells #[.int .u8 4, St t, .int .i64 n, .slice ao ks.length cap] 25) := hw1
            obtain ⟨a2, c2, w2, r2, o2, g2⟩ := hapb 111 (((⟨#[115, 112, 97, 111, 38, 124]⟩ : ByteArray)[3]'(by decide)).toNat : Int) rfl
            have HR2 : Hid (∀ ty, (Builtin.append_ #[51, 51] ty #[.slice va nO vc, .slice (some ⟨w.heap.size + 1, 0, none⟩) 1 1]).run Tryz.prog ((w.alloc (.cells #[.int .u8 4, St t, .int .i64 n, .slice ao ks.length cap] 25)).alloc (.cells #[.int .u8 (((⟨#[115, 112, 97, 111, 38, 124]⟩ : ByteArray)[3]'(by decide)).toNat : Int)] 5)) = .ok (.slice a2 (nO + 1) c2) w2) := hid (by rw [hw1, heap_alloc_size] at r2; exact r2)
            have hB2 : Below w0.heap.size w0 w2 := below_own hB1 hB1.size hown1 g2
            have hbx : w2.heap[w.heap.size]? = some (.cells #[.int .u8 4, St t, .int .i64 n, .slice ao ks.length cap] 25 (0, 0)) := by
              rw [hw1] at g2
              exact box_kept hown g2
            have e0 : w2.cell? ⟨w.heap.size, 0, none⟩ = some (.int .u8 4) := (cell_of_heap hbx 0).trans rfl
            have e2 : w2.cell? ⟨w.heap.size, 2, none⟩ = some (.int .i64 n) := (cell_of_heap hbx 2).trans rfl
            have hn0 : 0 ≤ n ∧ n ≤ 1073741823 := (Lk.fit_n (by omega) hfit).2.2
            obtain ⟨n', rfl⟩ : ∃ n' : Nat, n = n' := ⟨n.toNat, by omega⟩
            rw [Int.toNat_natCast] at hlen ⊢
            have HAI : Hid (Calls Tryz.prog 57 #[.slice a2 (nO + 1) c2, .int .i64 (n' : Int), .int .i64 10] w2 fun e w' => ∃ v', e = .returned v' ∧ w'.ownsRow w0.heap.size 5 1 v' ((out ++ [111]) ++ Lib.decDigits n').length (bcs ((out ++ [111]) ++ Lib.decDigits n')) ∧ Below w0.heap.size w0 w' ∧ Lib.OthersKept 5 none w2 w') := hid (appint_any w0 w2 hp hB2 n' (by omega) _ _ (out ++ [111]) (by rw [List.length_append, ← hnO, List.length_singleton]) (by rw [List.length_append, ← hnO] at o2; exact o2) (by rw [List.length_append]; show out.length + 1 + 21 ≤ 140737488355328; omega))
            have HLEN : Hid (((out ++ [111]) ++ Lib.decDigits n').length + 1 ≤ 140737488355328) := hid (by simp only [List.length_append, List.length_singleton] at hlen ⊢; omega)
            clear hapb hB hown hlen hks hfit hoks hB1 hown1 hB2 hbx o2 g2 r2 ih hbl hnO hw1
            clear hn0
            go_enter Tryz.func33, Tryz.ntmps33
            go_wp2_with (first | (at_builtin; refine wpList_append_run rfl (.tmp 7) (.tmp 12) 51 51 rfl _ _ (.slice a2 (nO + 1) c2) w2 rfl rfl HR2.out ?_) | fail)
            refine HAI.out.mono ?_
            rintro e w3 ⟨v3, rfl, o3, b3, _⟩
            obtain ⟨a4, c4, w4, r4, o4, g4⟩ := app_byte o3 59 59 rfl HLEN.out b3.size
            obtain ⟨a3, c3, rfl⟩ := row_shape o3
            have HF : Hid (w4.ownsRow w0.heap.size 5 1 (.slice a4 (((out ++ [111]) ++ Lib.decDigits n').length + 1) c4) (out ++ 111 :: (Lib.decDigits n' ++ [59])).length (bcs (out ++ 111 :: (Lib.decDigits n' ++ [59]))) ∧ Below w0.heap.size w0 w4) := hid ⟨by simpa using o4, below_own b3 b3.size o3 g4⟩
            have HR4 := hid r4
            generalize ((out ++ [111]) ++ Lib.decDigits n').length = nn at *
            clear o3 b3 r4 o4 g4
            go_wp2_with (first | (at_builtin; refine wpList_append_run rfl (.tmp 29) (.tmp 30) 51 51 rfl _ _ (.slice a4 (nn + 1) c4) w4 rfl rfl HR4.out ?_) | fail)
            go_ret
            exact ⟨.slice a4 (nn + 1) c4, rfl, HF.out⟩
          · rw [if_neg (by omega), if_neg (by omega)] at hlen ⊢
            by_cases k5 : kd = 5
            · subst k5
              rw [show Lk.letter 5 = 38 from rfl]
              have hw1 : w1 = w.alloc (.cells #[.int .u8 5, St t, .int .i64 n, .slice ao ks.length cap] 25) := hw1
              obtain ⟨a2, c2, w2, r2, o2, g2⟩ := hapb 38 (((⟨#[115, 112, 97, 111, 38, 124]⟩ : ByteArray)[4]'(by decide)).toNat : Int) rfl
              have HR2 : Hid (∀ ty, (Builtin.append_ #[51, 51] ty #[.slice va nO vc, .slice (some ⟨w.heap.size + 1, 0, none⟩) 1 1]).run Tryz.prog ((w.alloc (.cells #[.int .u8 5, St t, .int .i64 n, .slice ao ks.length cap] 25)).alloc (.cells #[.int .u8 (((⟨#[115, 112, 97, 111, 38, 124]⟩ : ByteArray)[4]'(by decide)).toNat : Int)] 5)) = .ok (.slice a2 (nO + 1) c2) w2) := hid (by rw [hw1, heap_alloc_size] at r2; exact r2)
              have hB2 : Below w0.heap.size w0 w2 := below_own hB1 hB1.size hown1 g2
              have hbx : w2.heap[w.heap.size]? = some (.cells #[.int .u8 5, St t, .int .i64 n, .slice ao ks.length cap] 25 (0, 0)) := by
                rw [hw1] at g2
                exact box_kept hown g2
              have e0 : w2.cell? ⟨w.heap.size, 0, none⟩ = some (.int .u8 5) := (cell_of_heap hbx 0).trans rfl
              have e3 : w2.cell? ⟨w.heap.size, 3, none⟩ = some (.slice ao ks.length cap) := (cell_of_heap hbx 3).trans rfl
              have hks8 : ks.length ≤ 8 := (Lk.fit_k (by omega) hfit).2.2.2
              obtain ⟨m, hm⟩ : ∃ m, m = ks.length := ⟨_, rfl⟩
              obtain ⟨P, hP⟩ : ∃ P : Bs, P = (out ++ [38]) ++ Lib.decDigits ks.length := ⟨_, rfl⟩
              have HAI : Hid (Calls Tryz.prog 57 #[.slice a2 (nO + 1) c2, .int .i64 (m : Int), .int .i64 10] w2 fun e w' => ∃ v', e = .returned v' ∧ w'.ownsRow w0.heap.size 5 1 v' P.length (bcs P) ∧ Below w0.heap.size w0 w' ∧ Lib.OthersKept 5 none w2 w') := hid (by
                rw [hm, hP]
                exact appint_any w0 w2 hp hB2 ks.length (by omega) _ _ (out ++ [38]) (by rw [List.length_append, ← hnO, List.length_singleton]) (by rw [List.length_append, ← hnO] at o2; exact o2) (by rw [List.length_append]; show out.length + 1 + 21 ≤ 140737488355328; omega))
              have HLEN : Hid (P.length + 1 + (Lk.wrs ks).length ≤ 100000000) := hid (by rw [hP]; simp only [List.length_append, List.length_cons, List.length_nil] at hlen ⊢; omega)
              have HEND : Hid ((P ++ [58]) ++ Lk.wrs ks = out ++ 38 :: (Lib.decDigits ks.length ++ 58 :: Lk.wrs ks)) := hid (by rw [hP]; simp)
              have HBX := hid hbx
              have HKS := hid hks
              have HIH := hid ih
              have HOK := hid hoks
              have HM := hid hm
              have HM8 : Hid (m ≤ 8) := hid (by omega)
              rw [← HEND.out]
              rw [← hm] at HR2 e3 HBX ⊢
              clear hm hP hks8
              clear hapb hB hown hlen hks hfit hoks hB1 hown1 hB2 hbx o2 g2 r2 ih hbl hnO hw1
              go_enter Tryz.func33, Tryz.ntmps33
              go_wp2_with (first | (at_builtin; refine wpList_append_run rfl (.tmp 7) (.tmp 12) 51 51 rfl _ _ (.slice a2 (nO + 1) c2) w2 rfl rfl HR2.out ?_) | fail)
              refine HAI.out.mono ?_
              rintro e w3 ⟨v3, rfl, o3, b3, ok3⟩
              obtain ⟨a4, c4, w4, r4, o4, g4⟩ := app_byte o3 58 58 rfl (by have := HLEN.out; omega) b3.size
              obtain ⟨a3, c3, rfl⟩ := row_shape o3
              have hbx3 : w3.heap[w.heap.size]? = some (.cells #[.int .u8 5, St t, .int .i64 n, .slice ao m cap] 25 (0, 0)) := ok3 _ _ HBX.out (by simp) (fun c fz e => by cases e)
              have hbx4 : w4.heap[w.heap.size]? = some (.cells #[.int .u8 5, St t, .int .i64 n, .slice ao m cap] 25 (0, 0)) := row_kept o3 g4 hbx3 (fun k hk e => by
                subst e
                obtain ⟨_, ⟨e1, _⟩ | ⟨g', cap', cur, e1, _, hh, _⟩⟩ := o3
                · rw [e1] at hk; cases hk
                · rw [e1] at hk
                  have hg' : g' = w.heap.size := by simpa [Value.ownBlock] using hk
                  rw [hg', hbx3] at hh
                  simp at hh)
              have e34 : w4.cell? ⟨w.heap.size, 3, none⟩ = some (.slice ao m cap) := (cell_of_heap hbx4 3).trans rfl
              have HF4 : Hid (w4.ownsRow w0.heap.size 5 1 (.slice a4 (P.length + 1) c4) ((P ++ [58]) ++ Lk.wrs (ks.take 0)).length (bcs ((P ++ [58]) ++ Lk.wrs (ks.take 0))) ∧ Below w0.heap.size w0 w4) := hid ⟨by rw [List.take_zero, Lk.wrs, List.append_nil]; exact o4, below_own b3 b3.size o3 g4⟩
              have HR4 := hid r4
              obtain ⟨nP, hnP⟩ : ∃ nP, nP = P.length := ⟨_, rfl⟩
              rw [← hnP] at HR4 HF4 ⊢
              clear o3 b3 r4 o4 g4 ok3 hbx3 hbx4 hnP
              clear e0 e3 HAI HR2 HBX
              go_wp2_with (first | (at_builtin; refine wpList_append_run rfl (.tmp 36) (.tmp 37) 51 51 rfl _ _ (.slice a4 (nP + 1) c4) w4 rfl rfl HR4.out ?_) | fail)
              clear HR4 e34
              go_loopg [0, 42] m (fun gg v0 v42 wr => ∃ (i : Nat) (v : Value), gg = m - i ∧ i ≤ m ∧ v0 = v ∧ v42 = .int .i64 (i : Int) ∧ wr.ownsRow w0.heap.size 5 1 v ((P ++ [58]) ++ Lk.wrs (ks.take i)).length (bcs ((P ++ [58]) ++ Lk.wrs (ks.take i))) ∧ Below w0.heap.size w0 wr)
              case atStart => exact ⟨0, _, rfl, Nat.zero_le _, rfl, rfl, HF4.out⟩
              case round =>
                obtain ⟨i, v, rfl, hi, rfl, rfl, ho, hb⟩ := hrel
                obtain ⟨a5, c5, rfl⟩ := row_shape ho
                by_cases him : i < m
                · have hik : i < ks.length := by have := HM.out; omega
                  have hks' : Kr b w0 d ao ks := HKS.out
                  obtain ⟨g, o, hg, _, hc⟩ := hks' (show 0 < ks.length by omega)
                  clear hks'
                  subst hg
                  obtain ⟨kv, hcs, hlr, d', hd', hkd⟩ := hc i hik
                  obtain ⟨x, hx⟩ : ∃ x, x = ks[i] := ⟨_, rfl⟩
                  rw [← hx] at hcs hlr hkd
                  obtain ⟨_, a6, c6, rfl⟩ := hkd.shape
                  have e0 : wr.cell? ⟨g, o + i * 4, none⟩ = some (.int .u8 (x.kind : Int)) := cell_later hb (hcs 0 _ rfl)
                  have e1 : wr.cell? ⟨g, o + i * 4 + 1, none⟩ = some (St x.term) := cell_later hb (hcs 1 _ rfl)
                  have e2 : wr.cell? ⟨g, o + i * 4 + 2, none⟩ = some (.int .i64 x.n) := cell_later hb (hcs 2 _ rfl)
                  have e3 : wr.cell? ⟨g, o + i * 4 + 3, none⟩ = some (.slice a6 x.kids.length c6) := cell_later hb (hcs 3 _ rfl)
                  have hokx : Lk.ok x = true := Lk.oks_get HOK.out x (by rw [hx]; exact List.getElem_mem hik)
                  have hle : (Lk.wrs (ks.take i)).length + (Lk.wr x).length ≤ (Lk.wrs ks).length := by
                    have h1 := Lk.wrs_le (ks := ks) (i + 1)
                    rw [Lk.wrs_next hik, List.length_append, ← hx] at h1
                    exact h1
                  have HNX : Hid (((P ++ [58]) ++ Lk.wrs (ks.take i)) ++ Lk.wr x = (P ++ [58]) ++ Lk.wrs (ks.take (i + 1))) := hid (by rw [Lk.wrs_next hik, ← hx]; simp)
                  have HCA : Hid (∀ ob, Calls Tryz.prog 33 #[.slice a5 ((P ++ [58]) ++ Lk.wrs (ks.take i)).length c5, .agg #[.int .u8 (x.kind : Int), St x.term, .int .i64 x.n, .slice a6 x.kids.length c6]] (wr.alloc ob) fun e w' => ∃ v', e = .returned v' ∧ w'.ownsRow w0.heap.size 5 1 v' ((P ++ [58]) ++ Lk.wrs (ks.take (i + 1))).length (bcs ((P ++ [58]) ++ Lk.wrs (ks.take (i + 1)))) ∧ Below w0.heap.size w0 w') := hid (fun ob => by
                    rw [← HNX.out]
                    exact HIH.out d' hd' x _ hkd hokx (wr.alloc ob) _ _ (hb.trans ((below_al wr ob).mono hb.size)) (ho.alloc ob) (by have := HLEN.out; simp only [List.length_append, List.length_cons, List.length_nil] at *; omega))
                  have hiw : IntKind.i64.wrap ((i : Int) + 1) = ((i + 1 : Nat) : Int) := by rw [IntKind.wrap_i64]; have := HM8.out; omega
                  have hi0 : (0 : Int) ≤ (i : Int) := Int.natCast_nonneg _
                  have hi1 : (i : Int) < (m : Int) := by omega
                  have HI := hid him
                  generalize ((P ++ [58]) ++ Lk.wrs (ks.take i)).length = n5 at *
                  clear hcs hlr hkd hc hik him hi hx hokx hle ho hb HNX
                  go_wp2_with fail
                  refine (HCA.out _).mono ?_
                  rintro e w6 ⟨v6, rfl, h6⟩
                  have H6 := hid h6
                  clear h6 HCA
                  go_wp2_with fail
                  go_roundg (m - (i + 1))
                  case measure => have := HI.out; omega
                  case rel => exact ⟨i + 1, v6, rfl, HI.out, rfl, rfl, H6.out⟩
                · have hie : i = m := by omega
                  subst hie
                  have hin : ¬ (i : Int) < (i : Int) := by omega
                  have HE : Hid (wr.ownsRow w0.heap.size 5 1 (.slice a5 ((P ++ [58]) ++ Lk.wrs (ks.take i)).length c5) ((P ++ [58]) ++ Lk.wrs ks).length (bcs ((P ++ [58]) ++ Lk.wrs ks)) ∧ Below w0.heap.size w0 wr) := hid ⟨by
                    have h := ho
                    rw [show ks.take i = ks by rw [HM.out, List.take_length]] at h ⊢
                    exact h, hb⟩
                  generalize ((P ++ [58]) ++ Lk.wrs (ks.take i)).length = n5 at *
                  clear ho hb hi him
                  go_wp2_with fail
                  go_ret
                  exact ⟨.slice a5 n5 c5, rfl, by simpa using HE.out⟩
            · have k6 : kd = 6 := by have := Lk.fit_kind hfit; omega
              subst k6
              rw [show Lk.letter 6 = 124 from rfl]
              have hw1 : w1 = w.alloc (.cells #[.int .u8 6, St t, .int .i64 n, .slice ao ks.length cap] 25) := hw1
              obtain ⟨a2, c2, w2, r2, o2, g2⟩ := hapb 124 (((⟨#[115, 112, 97, 111, 38, 124]⟩ : ByteArray)[5]'(by decide)).toNat : Int) rfl
              have HR2 : Hid (∀ ty, (Builtin.append_ #[51, 51] ty #[.slice va nO vc, .slice (some ⟨w.heap.size + 1, 0, none⟩) 1 1]).run Tryz.prog ((w.alloc (.cells #[.int .u8 6, St t, .int .i64 n, .slice ao ks.length cap] 25)).alloc (.cells #[.int .u8 (((⟨#[115, 112, 97, 111, 38, 124]⟩ : ByteArray)[5]'(by decide)).toNat : Int)] 5)) = .ok (.slice a2 (nO + 1) c2) w2) := hid (by rw [hw1, heap_alloc_size] at r2; exact r2)
              have hB2 : Below w0.heap.size w0 w2 := below_own hB1 hB1.size hown1 g2
              have hbx : w2.heap[w.heap.size]? = some (.cells #[.int .u8 6, St t, .int .i64 n, .slice ao ks.length cap] 25 (0, 0)) := by
                rw [hw1] at g2
                exact box_kept hown g2
              have e0 : w2.cell? ⟨w.heap.size, 0, none⟩ = some (.int .u8 6) := (cell_of_heap hbx 0).trans rfl
              have e3 : w2.cell? ⟨w.heap.size, 3, none⟩ = some (.slice ao ks.length cap) := (cell_of_heap hbx 3).trans rfl
              have hks8 : ks.length ≤ 8 := (Lk.fit_k (by omega) hfit).2.2.2
              obtain ⟨m, hm⟩ : ∃ m, m = ks.length := ⟨_, rfl⟩
              obtain ⟨P, hP⟩ : ∃ P : Bs, P = (out ++ [124]) ++ Lib.decDigits ks.length := ⟨_, rfl⟩
              have HAI : Hid (Calls Tryz.prog 57 #[.slice a2 (nO + 1) c2, .int .i64 (m : Int), .int .i64 10] w2 fun e w' => ∃ v', e = .returned v' ∧ w'.ownsRow w0.heap.size 5 1 v' P.length (bcs P) ∧ Below w0.heap.size w0 w' ∧ Lib.OthersKept 5 none w2 w') := hid (by
                rw [hm, hP]
                exact appint_any w0 w2 hp hB2 ks.length (by omega) _ _ (out ++ [124]) (by rw [List.length_append, ← hnO, List.length_singleton]) (by rw [List.length_append, ← hnO] at o2; exact o2) (by rw [List.length_append]; show out.length + 1 + 21 ≤ 140737488355328; omega))
              have HLEN : Hid (P.length + 1 + (Lk.wrs ks).length ≤ 100000000) := hid (by rw [hP]; simp only [List.length_append, List.length_cons, List.length_nil] at hlen ⊢; omega)
              have HEND : Hid ((P ++ [58]) ++ Lk.wrs ks = out ++ 124 :: (Lib.decDigits ks.length ++ 58 :: Lk.wrs ks)) := hid (by rw [hP]; simp)
              have HBX := hid hbx
              have HKS := hid hks
              have HIH := hid ih
              have HOK := hid hoks
              have HM := hid hm
              have HM8 : Hid (m ≤ 8) := hid (by omega)
              rw [← HEND.out]
              rw [← hm] at HR2 e3 HBX ⊢
              clear hm hP hks8
              clear hapb hB hown hlen hks hfit hoks hB1 hown1 hB2 hbx o2 g2 r2 ih hbl hnO hw1
              go_enter Tryz.func33, Tryz.ntmps33
              go_wp2_with (first | (at_builtin; refine wpList_append_run rfl (.tmp 7) (.tmp 12) 51 51 rfl _ _ (.slice a2 (nO + 1) c2) w2 rfl rfl HR2.out ?_) | fail)
              refine HAI.out.mono ?_
              rintro e w3 ⟨v3, rfl, o3, b3, ok3⟩
              obtain ⟨a4, c4, w4, r4, o4, g4⟩ := app_byte o3 58 58 rfl (by have := HLEN.out; omega) b3.size
              obtain ⟨a3, c3, rfl⟩ := row_shape o3
              have hbx3 : w3.heap[w.heap.size]? = some (.cells #[.int .u8 6, St t, .int .i64 n, .slice ao m cap] 25 (0, 0)) := ok3 _ _ HBX.out (by simp) (fun c fz e => by cases e)
              have hbx4 : w4.heap[w.heap.size]? = some (.cells #[.int .u8 6, St t, .int .i64 n, .slice ao m cap] 25 (0, 0)) := row_kept o3 g4 hbx3 (fun k hk e => by
                subst e
                obtain ⟨_, ⟨e1, _⟩ | ⟨g', cap', cur, e1, _, hh, _⟩⟩ := o3
                · rw [e1] at hk; cases hk
                · rw [e1] at hk
                  have hg' : g' = w.heap.size := by simpa [Value.ownBlock] using hk
                  rw [hg', hbx3] at hh
                  simp at hh)
              have e34 : w4.cell? ⟨w.heap.size, 3, none⟩ = some (.slice ao m cap) := (cell_of_heap hbx4 3).trans rfl
              have HF4 : Hid (w4.ownsRow w0.heap.size 5 1 (.slice a4 (P.length + 1) c4) ((P ++ [58]) ++ Lk.wrs (ks.take 0)).length (bcs ((P ++ [58]) ++ Lk.wrs (ks.take 0))) ∧ Below w0.heap.size w0 w4) := hid ⟨by rw [List.take_zero, Lk.wrs, List.append_nil]; exact o4, below_own b3 b3.size o3 g4⟩
              have HR4 := hid r4
              obtain ⟨nP, hnP⟩ : ∃ nP, nP = P.length := ⟨_, rfl⟩
              rw [← hnP] at HR4 HF4 ⊢
              clear o3 b3 r4 o4 g4 ok3 hbx3 hbx4 hnP
              clear e0 e3 HAI HR2 HBX
              go_wp2_with (first | (at_builtin; refine wpList_append_run rfl (.tmp 36) (.tmp 37) 51 51 rfl _ _ (.slice a4 (nP + 1) c4) w4 rfl rfl HR4.out ?_) | fail)
              clear HR4 e34
              go_loopg [0, 42] m (fun gg v0 v42 wr => ∃ (i : Nat) (v : Value), gg = m - i ∧ i ≤ m ∧ v0 = v ∧ v42 = .int .i64 (i : Int) ∧ wr.ownsRow w0.heap.size 5 1 v ((P ++ [58]) ++ Lk.wrs (ks.take i)).length (bcs ((P ++ [58]) ++ Lk.wrs (ks.take i))) ∧ Below w0.heap.size w0 wr)
              case atStart => exact ⟨0, _, rfl, Nat.zero_le _, rfl, rfl, HF4.out⟩
              case round =>
                obtain ⟨i, v, rfl, hi, rfl, rfl, ho, hb⟩ := hrel
                obtain ⟨a5, c5, rfl⟩ := row_shape ho
                by_cases him : i < m
                · have hik : i < ks.length := by have := HM.out; omega
                  have hks' : Kr b w0 d ao ks := HKS.out
                  obtain ⟨g, o, hg, _, hc⟩ := hks' (show 0 < ks.length by omega)
                  clear hks'
                  subst hg
                  obtain ⟨kv, hcs, hlr, d', hd', hkd⟩ := hc i hik
                  obtain ⟨x, hx⟩ : ∃ x, x = ks[i] := ⟨_, rfl⟩
                  rw [← hx] at hcs hlr hkd
                  obtain ⟨_, a6, c6, rfl⟩ := hkd.shape
                  have e0 : wr.cell? ⟨g, o + i * 4, none⟩ = some (.int .u8 (x.kind : Int)) := cell_later hb (hcs 0 _ rfl)
                  have e1 : wr.cell? ⟨g, o + i * 4 + 1, none⟩ = some (St x.term) := cell_later hb (hcs 1 _ rfl)
                  have e2 : wr.cell? ⟨g, o + i * 4 + 2, none⟩ = some (.int .i64 x.n) := cell_later hb (hcs 2 _ rfl)
                  have e3 : wr.cell? ⟨g, o + i * 4 + 3, none⟩ = some (.slice a6 x.kids.length c6) := cell_later hb (hcs 3 _ rfl)
                  have hokx : Lk.ok x = true := Lk.oks_get HOK.out x (by rw [hx]; exact List.getElem_mem hik)
                  have hle : (Lk.wrs (ks.take i)).length + (Lk.wr x).length ≤ (Lk.wrs ks).length := by
                    have h1 := Lk.wrs_le (ks := ks) (i + 1)
                    rw [Lk.wrs_next hik, List.length_append, ← hx] at h1
                    exact h1
                  have HNX : Hid (((P ++ [58]) ++ Lk.wrs (ks.take i)) ++ Lk.wr x = (P ++ [58]) ++ Lk.wrs (ks.take (i + 1))) := hid (by rw [Lk.wrs_next hik, ← hx]; simp)
                  have HCA : Hid (∀ ob, Calls Tryz.prog 33 #[.slice a5 ((P ++ [58]) ++ Lk.wrs (ks.take i)).length c5, .agg #[.int .u8 (x.kind : Int), St x.term, .int .i64 x.n, .slice a6 x.kids.length c6]] (wr.alloc ob) fun e w' => ∃ v', e = .returned v' ∧ w'.ownsRow w0.heap.size 5 1 v' ((P ++ [58]) ++ Lk.wrs (ks.take (i + 1))).length (bcs ((P ++ [58]) ++ Lk.wrs (ks.take (i + 1)))) ∧ Below w0.heap.size w0 w') := hid (fun ob => by
                    rw [← HNX.out]
                    exact HIH.out d' hd' x _ hkd hokx (wr.alloc ob) _ _ (hb.trans ((below_al wr ob).mono hb.size)) (ho.alloc ob) (by have := HLEN.out; simp only [List.length_append, List.length_cons, List.length_nil] at *; omega))
                  have hiw : IntKind.i64.wrap ((i : Int) + 1) = ((i + 1 : Nat) : Int) := by rw [IntKind.wrap_i64]; have := HM8.out; omega
                  have hi0 : (0 : Int) ≤ (i : Int) := Int.natCast_nonneg _
                  have hi1 : (i : Int) < (m : Int) := by omega
                  have HI := hid him
                  generalize ((P ++ [58]) ++ Lk.wrs (ks.take i)).length = n5 at *
                  clear hcs hlr hkd hc hik him hi hx hokx hle ho hb HNX
                  go_wp2_with fail
                  refine (HCA.out _).mono ?_
                  rintro e w6 ⟨v6, rfl, h6⟩
                  have H6 := hid h6
                  clear h6 HCA
                  go_wp2_with fail
                  go_roundg (m - (i + 1))
                  case measure => have := HI.out; omega
                  case rel => exact ⟨i + 1, v6, rfl, HI.out, rfl, rfl, H6.out⟩
                · have hie : i = m := by omega
                  subst hie
                  have hin : ¬ (i : Int) < (i : Int) := by omega
                  have HE : Hid (wr.ownsRow w0.heap.size 5 1 (.slice a5 ((P ++ [58]) ++ Lk.wrs (ks.take i)).length c5) ((P ++ [58]) ++ Lk.wrs ks).length (bcs ((P ++ [58]) ++ Lk.wrs ks)) ∧ Below w0.heap.size w0 wr) := hid ⟨by
                    have h := ho
                    rw [show ks.take i = ks by rw [HM.out, List.take_length]] at h ⊢
                    exact h, hb⟩
                  generalize ((P ++ [58]) ++ Lk.wrs (ks.take i)).length = n5 at *
                  clear ho hb hi him
                  go_wp2_with fail
                  go_ret
                  exact ⟨.slice a5 n5 c5, rfl, by simpa using HE.out⟩
end Go.Proofs.YtdllpklecdmghaaGreatDoor
/- A lock is written. -/
namespace Go.Proofs.YtdllpklecdmghaaGreatDoor
open Go.RowKit
open Lk (Lt)
theorem dec_len (n : Nat) (h : n ≤ 18446744073709551615) : (Lib.decDigits n).length ≤ 20 := by
  have step : ∀ (k m : Nat), m < 10 ^ (k + 1) → (Lib.decDigits m).length ≤ k + 1 := by
    intro k
    induction k with
    | zero => intro m hm; rw [Lib.decDigits_one (by omega)]; simp
    | succ k ih =>
      intro m hm
      by_cases h10 : m < 10
      · rw [Lib.decDigits_one h10]; simp
      · rw [Lib.decDigits, dif_neg h10, List.length_append]
        have := ih (m / 10) (by rw [Nat.pow_succ] at hm; omega)
        simp; omega
  exact step 19 n (by omega)
theorem wr_len : ∀ (l : Lt), Lk.ok l = true → (Lk.wr l).length ≤ Lk.size l * 16400 := by
  intro l
  induction l using Lk.Lt.ind with
  | h k t n ks ih =>
    intro hok
    rw [Lk.ok, Bool.and_eq_true] at hok
    have hs : ∀ (ms : List Lt), (∀ x ∈ ms, x ∈ ks) → Lk.oks ms = true → (Lk.wrs ms).length ≤ Lk.sizes ms * 16400 := by
      intro ms
      induction ms with
      | nil => intro _ _; simp [Lk.wrs, Lk.sizes]
      | cons x ms ihm =>
        intro hm ho
        rw [Lk.oks, Bool.and_eq_true] at ho
        rw [Lk.wrs, Lk.sizes, List.length_append]
        have h1 := ih x (hm x (by simp)) ho.1
        have h2 := ihm (fun y hy => hm y (by simp [hy])) ho.2
        omega
    rw [Lk.wr, Lk.size, List.length_cons]
    have hk := Lk.fit_kind hok.1
    by_cases h12 : k = 1 ∨ k = 2
    · rw [if_pos h12]
      have h1 := (Lk.fit_t h12 hok.1).2.2
      have := (Tm.deep_is h1).2
      omega
    · rw [if_neg h12]
      by_cases h34 : k = 3 ∨ k = 4
      · rw [if_pos h34]
        have h1 := Lk.fit_n h34 hok.1
        have := dec_len n.toNat (by omega)
        simp only [List.length_append, List.length_singleton]
        omega
      · rw [if_neg h34]
        have h1 := Lk.fit_k (k := k) (by omega) hok.1
        have := dec_len ks.length (by omega)
        have := hs ks (fun _ h => h) hok.2
        simp only [List.length_append, List.length_cons]
        omega
theorem wr_right {l : Lt} (h : Lk.right l = true) : (Lk.wr l).length ≤ 1049600 := by
  rw [Lk.right_is] at h
  have := wr_len l h.1
  omega
def wrRes (l : Lt) : Bs × Nat := if Lk.right l = true then (Lk.wr l, 0) else ([], 110)
set_option maxHeartbeats 4000000 in
set_option maxRecDepth 100000 in
theorem write_any {b : Nat → Prop} (d : Nat) (l : Lt) (kv : Value) (w : World) (hk : Kd b w d kv l.kids) (hp : Pw w) : Calls Tryz.prog 8 #[.agg (lcs l kv)] w fun e w' => e = .returned (.tuple #[St (wrRes l).1, .int .i64 ((wrRes l).2 : Int)]) ∧ Below w.heap.size w w' := by
  have HR : Hid (∀ W, Below w.heap.size w W → Calls Tryz.prog 10 #[.agg (lcs l kv)] W fun e w' => e = .returned (.bool (Lk.right l)) ∧ Below w.heap.size w w') := hid (fun W hW => (lright_any d l kv W (hk.low hW)).mono (fun e w' ⟨h1, h2⟩ => ⟨h1, hW.trans (h2.mono hW.size)⟩))
  obtain ⟨R, hR⟩ : ∃ R, R = Lk.right l := ⟨_, rfl⟩
  rw [← hR] at HR
  cases R with
  | false =>
    have HW : Hid (wrRes l = ([], 110)) := hid (by unfold wrRes; rw [← hR]; rfl)
    rw [HW.out]
    obtain ⟨_, ao, cap, rfl⟩ := hk.shape
    unfold lcs at *
    clear hk hp hR
    go_enter Tryz.func8, Tryz.ntmps8
    go_wp2_with fail
    refine (HR.out _ (below_al _ _)).mono ?_
    rintro e w1 ⟨rfl, hb⟩
    have HB := hid hb
    clear hb HR
    go_wp2_with fail
    go_ret2
    exact ⟨rfl, HB.out⟩
  | true =>
    have HW : Hid (wrRes l = (Lk.wr l, 0)) := hid (by unfold wrRes; rw [← hR]; rfl)
    rw [HW.out]
    have hlen := wr_right hR.symm
    have hok := ((Lk.right_is l).1 hR.symm).1
    obtain ⟨_, ao, cap, rfl⟩ := hk.shape
    obtain ⟨w0, hw0⟩ : ∃ w0, w0 = w.alloc (.cells #[.int .u8 (l.kind : Int), St l.term, .int .i64 l.n, .slice ao l.kids.length cap] 25) := ⟨_, rfl⟩
    have hB0 : Below w.heap.size w w0 := by rw [hw0]; exact below_al _ _
    have HR1 : Hid (Calls Tryz.prog 10 #[.agg #[.int .u8 (l.kind : Int), St l.term, .int .i64 l.n, .slice ao l.kids.length cap]] w0 fun e w' => e = .returned (.bool true) ∧ Below w0.heap.size w0 w') := hid (by
      have h := lright_any d l _ w0 (hk.low hB0)
      rw [← hR] at h
      exact h)
    have HAL : Hid (∀ W, Below w0.heap.size w0 W → Calls Tryz.prog 33 #[.slice none 0 0, .agg #[.int .u8 (l.kind : Int), St l.term, .int .i64 l.n, .slice ao l.kids.length cap]] W fun e w' => ∃ v', e = .returned v' ∧ w'.ownsRow w0.heap.size 5 1 v' (Lk.wr l).length (bcs (Lk.wr l)) ∧ Below w0.heap.size w0 w') := hid (fun W hW =>
      alock_any w0 (hp.below hB0) d l _ (hk.low hB0) hok W (.slice none 0 0) [] hW ⟨rfl, .inl ⟨rfl, rfl⟩⟩ (by simp only [List.length_nil]; omega))
    have HC0 : Hid (∀ W, Below w0.heap.size w0 W → W.cell? ⟨w.heap.size, 0, none⟩ = some (.int .u8 (l.kind : Int)) ∧ W.cell? ⟨w.heap.size, 1, none⟩ = some (St l.term) ∧ W.cell? ⟨w.heap.size, 2, none⟩ = some (.int .i64 l.n) ∧ W.cell? ⟨w.heap.size, 3, none⟩ = some (.slice ao l.kids.length cap)) := hid (fun W hW => by
      have h := fun (j : Nat) (u : Value) (hu : (#[Value.int .u8 (l.kind : Int), St l.term, .int .i64 l.n, .slice ao l.kids.length cap] : Array Value)[j]? = some u) => cell_later hW (a := ⟨w.heap.size, j, none⟩) (v := u) (by rw [hw0]; exact (cell_of_heap (heap_alloc_new w _) j).trans hu)
      exact ⟨h 0 _ rfl, h 1 _ rfl, h 2 _ rfl, h 3 _ rfl⟩)
    have HB0 := hid hB0
    have HNE : Hid (Lk.wr l ≠ []) := hid (by cases l; rw [Lk.wr]; simp)
    unfold lcs
    clear hk hp hR hlen hok HR hB0 HW
    generalize Lk.wr l = T at *
    go_enter Tryz.func8, Tryz.ntmps8
    go_wp2_with fail
    rw [← hw0]
    refine HR1.out.mono ?_
    rintro e w1 ⟨rfl, hb⟩
    obtain ⟨q0, q1, q2, q3⟩ := HC0.out w1 hb
    have HAL1 := hid (HAL.out w1 hb)
    clear hb HR1 HAL hw0 HC0
    go_wp2_with fail
    refine HAL1.out.mono ?_
    rintro e w2 ⟨v2, rfl, ho, hb2⟩
    obtain ⟨g2, cap2, rfl, hcv⟩ := own_string ho HNE.out
    have hcv9 := hcv 9 Tryz.underlying9
    have HB2 := hid (HB0.out.trans (hb2.mono HB0.out.size))
    clear ho hb2 HAL1 q0 q1 q2 q3 hcv
    go_wp2_with fail
    go_ret2
    exact ⟨rfl, HB2.out⟩
end Go.Proofs.YtdllpklecdmghaaGreatDoor
