/- Whether one of a row is as a function asks: the library's search with the functions that a lock asks with. -/
import Derived.Test.YtdllpklecdmghaaGreatDoorKaAll
import Derived.Shelf.Abstract
namespace Go.Proofs.YtdllpklecdmghaaGreatDoor
open Go.RowKit
open Lk (Lt)
theorem eg55 : ∀ args w, (callFunc 68 args).run Tryz.prog w = .ok (.enter 68 args) w := Go.Proofs.enters_of Tryz.func68 (by kernel_rfl) rfl
theorem eg57 : ∀ args w, (callFunc 70 args).run Tryz.prog w = .ok (.enter 70 args) w := Go.Proofs.enters_of Tryz.func70 (by kernel_rfl) rfl
theorem eg60 : ∀ args w, (callFunc 73 args).run Tryz.prog w = .ok (.enter 73 args) w := Go.Proofs.enters_of Tryz.func73 (by kernel_rfl) rfl
theorem eg42 : ∀ args w, (callFunc 47 args).run Tryz.prog w = .ok (.enter 47 args) w := Go.Proofs.enters_of Tryz.func47 (by kernel_rfl) rfl
theorem any_take_next {α : Type} {l : List α} {i : Nat} (hi : i < l.length) {P : α → Bool} (h : (l.take i).any P = false) (hx : P l[i] = false) : (l.take (i + 1)).any P = false := by
  rw [List.take_add_one, List.getElem?_eq_getElem hi, List.any_append, h]
  simp [hx]
set_option maxHeartbeats 4000000 in
theorem index_t55 (p q : Nat) (P : Bs → Bool) (xs : List Bs) (ao : Option Addr) (cap : Nat) (w : World) (hx : Texts w (.slice ao xs.length cap) xs) (hl : xs.length ≤ 140737488355328) (hQ : ∀ W, Below w.heap.size w W → ∀ x ∈ xs, Calls Tryz.prog 68 #[St x, .pointer (some ⟨p, 0, none⟩), .pointer (some ⟨q, 0, none⟩)] W fun e w' => e = .returned (.bool (P x)) ∧ Below w.heap.size w w') :
    Calls Tryz.prog 87 #[.slice ao xs.length cap, .func (.func 68) #[] #[.pointer (some ⟨p, 0, none⟩), .pointer (some ⟨q, 0, none⟩)]] w fun e w' => (∃ r : Int, e = .returned (.int .i64 r) ∧ decide (0 ≤ r) = xs.any P) ∧ Below w.heap.size w w' := by
  have eg := eg55
  obtain ⟨ao', cap', hv, hc⟩ := hx
  cases hv
  obtain ⟨m, hm⟩ : ∃ m, m = xs.length := ⟨_, rfl⟩
  rw [← hm] at hl ⊢
  have HM := hid hm
  have HL := hid hl
  have HC := hid hc
  have HQ := hid hQ
  clear hm hl hc hQ
  go_enter Tryz.func87, Tryz.ntmps87
  go_wp2_with fail
  go_loopg [8] m (fun gg v8 wr => ∃ i : Nat, gg = m - i ∧ i ≤ m ∧ v8 = .int .i64 (i : Int) ∧ (xs.take i).any P = false ∧ Below w.heap.size w wr)
  case atStart => exact ⟨0, rfl, Nat.zero_le _, rfl, by simp, Below.refl _ _⟩
  case round =>
    obtain ⟨i, rfl, hi, rfl, hno, hB⟩ := hrel
    by_cases him : i < m
    · have hik : i < xs.length := by have := HM.out; omega
      obtain ⟨g, o, hg, hgl, hcs⟩ := HC.out (fun e => by rw [e] at hik; simp at hik)
      subst hg
      obtain ⟨x, hx⟩ : ∃ x, x = xs[i] := ⟨_, rfl⟩
      have e0 : wr.cell? ⟨g, o + i, none⟩ = some (St x) := by rw [hx]; exact cell_later hB (hcs i hik)
      have HCA := hid (HQ.out wr hB x (by rw [hx]; exact List.getElem_mem hik))
      have hiw : IntKind.i64.wrap ((i : Int) + 1) = ((i + 1 : Nat) : Int) := by rw [IntKind.wrap_i64]; have := HL.out; omega
      have hi0 : (0 : Int) ≤ (i : Int) := Int.natCast_nonneg _
      have hi1 : (i : Int) < (m : Int) := by omega
      have HI := hid him
      cases hP : P x with
      | false =>
        have HNX : Hid ((xs.take (i + 1)).any P = false) := hid (any_take_next hik hno (by rw [← hx]; exact hP))
        rw [hP] at HCA
        clear hno hB hik him hi hx hcs hgl hP
        go_wp2_with fail
        refine HCA.out.mono ?_
        rintro e w2 ⟨rfl, hb2⟩
        have HB2 := hid hb2
        clear hb2 HCA
        go_wp2_with fail
        go_roundg (m - (i + 1))
        case measure => have := HI.out; omega
        case rel => exact ⟨i + 1, rfl, HI.out, rfl, HNX.out, HB2.out⟩
      | true =>
        have HAN : Hid (xs.any P = true) := hid (List.any_eq_true.2 ⟨x, by rw [hx]; exact List.getElem_mem hik, hP⟩)
        rw [hP] at HCA
        clear hno hB hik him hi hx hcs hgl hP
        go_wp2_with fail
        refine HCA.out.mono ?_
        rintro e w2 ⟨rfl, hb2⟩
        have HB2 := hid hb2
        clear hb2 HCA
        go_wp2_with fail
        go_ret
        exact ⟨⟨(i : Int), rfl, by rw [HAN.out]; simp⟩, HB2.out⟩
    · have hie : i = m := by omega
      subst hie
      have hin : ¬ (i : Int) < (i : Int) := by omega
      have HAN : Hid (xs.any P = false) := hid (by rw [HM.out, List.take_length] at hno; exact hno)
      have HB3 := hid hB
      clear hno hB hi him
      go_wp2_with fail
      go_ret
      exact ⟨⟨-1, rfl, by rw [HAN.out]; rfl⟩, HB3.out⟩
theorem contains_t55 (p q : Nat) (P : Bs → Bool) (xs : List Bs) (ao : Option Addr) (cap : Nat) (w : World) (hx : Texts w (.slice ao xs.length cap) xs) (hl : xs.length ≤ 140737488355328) (hQ : ∀ W, Below w.heap.size w W → ∀ x ∈ xs, Calls Tryz.prog 68 #[St x, .pointer (some ⟨p, 0, none⟩), .pointer (some ⟨q, 0, none⟩)] W fun e w' => e = .returned (.bool (P x)) ∧ Below w.heap.size w w') :
    Calls Tryz.prog 67 #[.slice ao xs.length cap, .func (.func 68) #[] #[.pointer (some ⟨p, 0, none⟩), .pointer (some ⟨q, 0, none⟩)]] w fun e w' => e = .returned (.bool (xs.any P)) ∧ Below w.heap.size w w' := by
  have HC := hid (index_t55 p q P xs ao cap w hx hl hQ)
  clear hx hl hQ
  generalize xs.any P = R at *
  generalize xs.length = m at *
  go_enter Tryz.func67, Tryz.ntmps67
  go_wp2_with fail
  refine HC.out.mono ?_
  rintro e w2 ⟨⟨r, rfl, hr⟩, hb2⟩
  have HR := hid hr
  have HB2 := hid hb2
  clear hr hb2 HC
  go_wp2_with fail
  go_ret
  exact ⟨by rw [← HR.out]; rfl, HB2.out⟩
set_option maxHeartbeats 4000000 in
theorem index_t57 (p : Nat) (P : Bs → Bool) (xs : List Bs) (ao : Option Addr) (cap : Nat) (w : World) (hx : Texts w (.slice ao xs.length cap) xs) (hl : xs.length ≤ 140737488355328) (hQ : ∀ W, Below w.heap.size w W → ∀ x ∈ xs, Calls Tryz.prog 70 #[St x, .pointer (some ⟨p, 0, none⟩)] W fun e w' => e = .returned (.bool (P x)) ∧ Below w.heap.size w w') :
    Calls Tryz.prog 87 #[.slice ao xs.length cap, .func (.func 70) #[] #[.pointer (some ⟨p, 0, none⟩)]] w fun e w' => (∃ r : Int, e = .returned (.int .i64 r) ∧ decide (0 ≤ r) = xs.any P) ∧ Below w.heap.size w w' := by
  have eg := eg57
  obtain ⟨ao', cap', hv, hc⟩ := hx
  cases hv
  obtain ⟨m, hm⟩ : ∃ m, m = xs.length := ⟨_, rfl⟩
  rw [← hm] at hl ⊢
  have HM := hid hm
  have HL := hid hl
  have HC := hid hc
  have HQ := hid hQ
  clear hm hl hc hQ
  go_enter Tryz.func87, Tryz.ntmps87
  go_wp2_with fail
  go_loopg [8] m (fun gg v8 wr => ∃ i : Nat, gg = m - i ∧ i ≤ m ∧ v8 = .int .i64 (i : Int) ∧ (xs.take i).any P = false ∧ Below w.heap.size w wr)
  case atStart => exact ⟨0, rfl, Nat.zero_le _, rfl, by simp, Below.refl _ _⟩
  case round =>
    obtain ⟨i, rfl, hi, rfl, hno, hB⟩ := hrel
    by_cases him : i < m
    · have hik : i < xs.length := by have := HM.out; omega
      obtain ⟨g, o, hg, hgl, hcs⟩ := HC.out (fun e => by rw [e] at hik; simp at hik)
      subst hg
      obtain ⟨x, hx⟩ : ∃ x, x = xs[i] := ⟨_, rfl⟩
      have e0 : wr.cell? ⟨g, o + i, none⟩ = some (St x) := by rw [hx]; exact cell_later hB (hcs i hik)
      have HCA := hid (HQ.out wr hB x (by rw [hx]; exact List.getElem_mem hik))
      have hiw : IntKind.i64.wrap ((i : Int) + 1) = ((i + 1 : Nat) : Int) := by rw [IntKind.wrap_i64]; have := HL.out; omega
      have hi0 : (0 : Int) ≤ (i : Int) := Int.natCast_nonneg _
      have hi1 : (i : Int) < (m : Int) := by omega
      have HI := hid him
      cases hP : P x with
      | false =>
        have HNX : Hid ((xs.take (i + 1)).any P = false) := hid (any_take_next hik hno (by rw [← hx]; exact hP))
        rw [hP] at HCA
        clear hno hB hik him hi hx hcs hgl hP
        go_wp2_with fail
        refine HCA.out.mono ?_
        rintro e w2 ⟨rfl, hb2⟩
        have HB2 := hid hb2
        clear hb2 HCA
        go_wp2_with fail
        go_roundg (m - (i + 1))
        case measure => have := HI.out; omega
        case rel => exact ⟨i + 1, rfl, HI.out, rfl, HNX.out, HB2.out⟩
      | true =>
        have HAN : Hid (xs.any P = true) := hid (List.any_eq_true.2 ⟨x, by rw [hx]; exact List.getElem_mem hik, hP⟩)
        rw [hP] at HCA
        clear hno hB hik him hi hx hcs hgl hP
        go_wp2_with fail
        refine HCA.out.mono ?_
        rintro e w2 ⟨rfl, hb2⟩
        have HB2 := hid hb2
        clear hb2 HCA
        go_wp2_with fail
        go_ret
        exact ⟨⟨(i : Int), rfl, by rw [HAN.out]; simp⟩, HB2.out⟩
    · have hie : i = m := by omega
      subst hie
      have hin : ¬ (i : Int) < (i : Int) := by omega
      have HAN : Hid (xs.any P = false) := hid (by rw [HM.out, List.take_length] at hno; exact hno)
      have HB3 := hid hB
      clear hno hB hi him
      go_wp2_with fail
      go_ret
      exact ⟨⟨-1, rfl, by rw [HAN.out]; rfl⟩, HB3.out⟩
theorem contains_t57 (p : Nat) (P : Bs → Bool) (xs : List Bs) (ao : Option Addr) (cap : Nat) (w : World) (hx : Texts w (.slice ao xs.length cap) xs) (hl : xs.length ≤ 140737488355328) (hQ : ∀ W, Below w.heap.size w W → ∀ x ∈ xs, Calls Tryz.prog 70 #[St x, .pointer (some ⟨p, 0, none⟩)] W fun e w' => e = .returned (.bool (P x)) ∧ Below w.heap.size w w') :
    Calls Tryz.prog 67 #[.slice ao xs.length cap, .func (.func 70) #[] #[.pointer (some ⟨p, 0, none⟩)]] w fun e w' => e = .returned (.bool (xs.any P)) ∧ Below w.heap.size w w' := by
  have HC := hid (index_t57 p P xs ao cap w hx hl hQ)
  clear hx hl hQ
  generalize xs.any P = R at *
  generalize xs.length = m at *
  go_enter Tryz.func67, Tryz.ntmps67
  go_wp2_with fail
  refine HC.out.mono ?_
  rintro e w2 ⟨⟨r, rfl, hr⟩, hb2⟩
  have HR := hid hr
  have HB2 := hid hb2
  clear hr hb2 HC
  go_wp2_with fail
  go_ret
  exact ⟨by rw [← HR.out]; rfl, HB2.out⟩
set_option maxHeartbeats 4000000 in
theorem index_l60 (q : Nat) {b : Nat → Prop} {d : Nat} (P : Lt → Bool) (ks : List Lt) (ao : Option Addr) (cap : Nat) (w : World) (hk : Kr b w d ao ks) (hl : ks.length ≤ 140737488355328) (hQ : ∀ W, Below w.heap.size w W → ∀ x ∈ ks, ∀ kv d', d' < d → Kd b W d' kv x.kids → Calls Tryz.prog 73 #[.agg (lcs x kv), .pointer (some ⟨q, 0, none⟩)] W fun e w' => e = .returned (.bool (P x)) ∧ Below w.heap.size w w') :
    Calls Tryz.prog 91 #[.slice ao ks.length cap, .func (.func 73) #[] #[.pointer (some ⟨q, 0, none⟩)]] w fun e w' => (∃ r : Int, e = .returned (.int .i64 r) ∧ decide (0 ≤ r) = ks.any P) ∧ Below w.heap.size w w' := by
  have eg := eg60
  obtain ⟨m, hm⟩ : ∃ m, m = ks.length := ⟨_, rfl⟩
  rw [← hm] at hl ⊢
  have HM := hid hm
  have HL := hid hl
  have HKS := hid hk
  have HQ := hid hQ
  clear hm hl hk hQ
  go_enter Tryz.func91, Tryz.ntmps91
  go_wp2_with fail
  go_loopg [8] m (fun gg v8 wr => ∃ i : Nat, gg = m - i ∧ i ≤ m ∧ v8 = .int .i64 (i : Int) ∧ (ks.take i).any P = false ∧ Below w.heap.size w wr)
  case atStart => exact ⟨0, rfl, Nat.zero_le _, rfl, by simp, Below.refl _ _⟩
  case round =>
    obtain ⟨i, rfl, hi, rfl, hno, hB⟩ := hrel
    by_cases him : i < m
    · have hik : i < ks.length := by have := HM.out; omega
      have hks' : Kr b wr d ao ks := HKS.out.low hB
      obtain ⟨g, o, hg, _, hc⟩ := hks' (show 0 < ks.length by omega)
      clear hks'
      subst hg
      obtain ⟨kv, hcs, hz1, d', hd', hkd⟩ := hc i hik
      clear hz1
      obtain ⟨x, hx⟩ : ∃ x, x = ks[i] := ⟨_, rfl⟩
      rw [← hx] at hcs hkd
      have HCA := hid (HQ.out wr hB x (by rw [hx]; exact List.getElem_mem hik) kv d' hd' hkd)
      obtain ⟨hz1, a6, c6, rfl⟩ := hkd.shape
      clear hz1
      have e0 : wr.cell? ⟨g, o + i * 4, none⟩ = some (.int .u8 (x.kind : Int)) := hcs 0 _ rfl
      have e1 : wr.cell? ⟨g, o + i * 4 + 1, none⟩ = some (St x.term) := hcs 1 _ rfl
      have e2 : wr.cell? ⟨g, o + i * 4 + 2, none⟩ = some (.int .i64 x.n) := hcs 2 _ rfl
      have e3 : wr.cell? ⟨g, o + i * 4 + 3, none⟩ = some (.slice a6 x.kids.length c6) := hcs 3 _ rfl
      unfold lcs at HCA
      have hiw : IntKind.i64.wrap ((i : Int) + 1) = ((i + 1 : Nat) : Int) := by rw [IntKind.wrap_i64]; have := HL.out; omega
      have hi0 : (0 : Int) ≤ (i : Int) := Int.natCast_nonneg _
      have hi1 : (i : Int) < (m : Int) := by omega
      have HI := hid him
      cases hP : P x with
      | false =>
        have HNX : Hid ((ks.take (i + 1)).any P = false) := hid (any_take_next hik hno (by rw [← hx]; exact hP))
        rw [hP] at HCA
        clear hno hB hik him hi hx hcs hP hc hkd
        go_wp2_with fail
        refine HCA.out.mono ?_
        rintro e w2 ⟨rfl, hb2⟩
        have HB2 := hid hb2
        clear hb2 HCA
        go_wp2_with fail
        go_roundg (m - (i + 1))
        case measure => have := HI.out; omega
        case rel => exact ⟨i + 1, rfl, HI.out, rfl, HNX.out, HB2.out⟩
      | true =>
        have HAN : Hid (ks.any P = true) := hid (List.any_eq_true.2 ⟨x, by rw [hx]; exact List.getElem_mem hik, hP⟩)
        rw [hP] at HCA
        clear hno hB hik him hi hx hcs hP hc hkd
        go_wp2_with fail
        refine HCA.out.mono ?_
        rintro e w2 ⟨rfl, hb2⟩
        have HB2 := hid hb2
        clear hb2 HCA
        go_wp2_with fail
        go_ret
        exact ⟨⟨(i : Int), rfl, by rw [HAN.out]; simp⟩, HB2.out⟩
    · have hie : i = m := by omega
      subst hie
      have hin : ¬ (i : Int) < (i : Int) := by omega
      have HAN : Hid (ks.any P = false) := hid (by rw [HM.out, List.take_length] at hno; exact hno)
      have HB3 := hid hB
      clear hno hB hi him
      go_wp2_with fail
      go_ret
      exact ⟨⟨-1, rfl, by rw [HAN.out]; rfl⟩, HB3.out⟩
theorem contains_l60 (q : Nat) {b : Nat → Prop} {d : Nat} (P : Lt → Bool) (ks : List Lt) (ao : Option Addr) (cap : Nat) (w : World) (hk : Kr b w d ao ks) (hl : ks.length ≤ 140737488355328) (hQ : ∀ W, Below w.heap.size w W → ∀ x ∈ ks, ∀ kv d', d' < d → Kd b W d' kv x.kids → Calls Tryz.prog 73 #[.agg (lcs x kv), .pointer (some ⟨q, 0, none⟩)] W fun e w' => e = .returned (.bool (P x)) ∧ Below w.heap.size w w') :
    Calls Tryz.prog 72 #[.slice ao ks.length cap, .func (.func 73) #[] #[.pointer (some ⟨q, 0, none⟩)]] w fun e w' => e = .returned (.bool (ks.any P)) ∧ Below w.heap.size w w' := by
  have HC := hid (index_l60 q P ks ao cap w hk hl hQ)
  clear hk hl hQ
  generalize ks.any P = R at *
  generalize ks.length = m at *
  go_enter Tryz.func72, Tryz.ntmps72
  go_wp2_with fail
  refine HC.out.mono ?_
  rintro e w2 ⟨⟨r, rfl, hr⟩, hb2⟩
  have HR := hid hr
  have HB2 := hid hb2
  clear hr hb2 HC
  go_wp2_with fail
  go_ret
  exact ⟨by rw [← HR.out]; rfl, HB2.out⟩
set_option maxHeartbeats 4000000 in
theorem index_l42 (s0 s1 s2 s3 s4 : Value) {b : Nat → Prop} {d : Nat} (P : Lt → Bool) (ks : List Lt) (ao : Option Addr) (cap : Nat) (w : World) (hk : Kr b w d ao ks) (hl : ks.length ≤ 140737488355328) (hQ : ∀ W, Below w.heap.size w W → ∀ x ∈ ks, ∀ kv d', d' < d → Kd b W d' kv x.kids → Calls Tryz.prog 47 #[.agg #[s0, s1, s2, s3, s4], .agg (lcs x kv)] W fun e w' => e = .returned (.bool (P x)) ∧ Below w.heap.size w w') :
    Calls Tryz.prog 91 #[.slice ao ks.length cap, .func (.func 47) #[.agg #[s0, s1, s2, s3, s4]] #[]] w fun e w' => (∃ r : Int, e = .returned (.int .i64 r) ∧ decide (0 ≤ r) = ks.any P) ∧ Below w.heap.size w w' := by
  have eg := eg42
  obtain ⟨m, hm⟩ : ∃ m, m = ks.length := ⟨_, rfl⟩
  rw [← hm] at hl ⊢
  have HM := hid hm
  have HL := hid hl
  have HKS := hid hk
  have HQ := hid hQ
  clear hm hl hk hQ
  go_enter Tryz.func91, Tryz.ntmps91
  go_wp2_with fail
  go_loopg [8] m (fun gg v8 wr => ∃ i : Nat, gg = m - i ∧ i ≤ m ∧ v8 = .int .i64 (i : Int) ∧ (ks.take i).any P = false ∧ Below w.heap.size w wr)
  case atStart => exact ⟨0, rfl, Nat.zero_le _, rfl, by simp, Below.refl _ _⟩
  case round =>
    obtain ⟨i, rfl, hi, rfl, hno, hB⟩ := hrel
    by_cases him : i < m
    · have hik : i < ks.length := by have := HM.out; omega
      have hks' : Kr b wr d ao ks := HKS.out.low hB
      obtain ⟨g, o, hg, _, hc⟩ := hks' (show 0 < ks.length by omega)
      clear hks'
      subst hg
      obtain ⟨kv, hcs, hz1, d', hd', hkd⟩ := hc i hik
      clear hz1
      obtain ⟨x, hx⟩ : ∃ x, x = ks[i] := ⟨_, rfl⟩
      rw [← hx] at hcs hkd
      have HCA := hid (HQ.out wr hB x (by rw [hx]; exact List.getElem_mem hik) kv d' hd' hkd)
      obtain ⟨hz1, a6, c6, rfl⟩ := hkd.shape
      clear hz1
      have e0 : wr.cell? ⟨g, o + i * 4, none⟩ = some (.int .u8 (x.kind : Int)) := hcs 0 _ rfl
      have e1 : wr.cell? ⟨g, o + i * 4 + 1, none⟩ = some (St x.term) := hcs 1 _ rfl
      have e2 : wr.cell? ⟨g, o + i * 4 + 2, none⟩ = some (.int .i64 x.n) := hcs 2 _ rfl
      have e3 : wr.cell? ⟨g, o + i * 4 + 3, none⟩ = some (.slice a6 x.kids.length c6) := hcs 3 _ rfl
      unfold lcs at HCA
      have hiw : IntKind.i64.wrap ((i : Int) + 1) = ((i + 1 : Nat) : Int) := by rw [IntKind.wrap_i64]; have := HL.out; omega
      have hi0 : (0 : Int) ≤ (i : Int) := Int.natCast_nonneg _
      have hi1 : (i : Int) < (m : Int) := by omega
      have HI := hid him
      cases hP : P x with
      | false =>
        have HNX : Hid ((ks.take (i + 1)).any P = false) := hid (any_take_next hik hno (by rw [← hx]; exact hP))
        rw [hP] at HCA
        clear hno hB hik him hi hx hcs hP hc hkd
        go_wp2_with fail
        refine HCA.out.mono ?_
        rintro e w2 ⟨rfl, hb2⟩
        have HB2 := hid hb2
        clear hb2 HCA
        go_wp2_with fail
        go_roundg (m - (i + 1))
        case measure => have := HI.out; omega
        case rel => exact ⟨i + 1, rfl, HI.out, rfl, HNX.out, HB2.out⟩
      | true =>
        have HAN : Hid (ks.any P = true) := hid (List.any_eq_true.2 ⟨x, by rw [hx]; exact List.getElem_mem hik, hP⟩)
        rw [hP] at HCA
        clear hno hB hik him hi hx hcs hP hc hkd
        go_wp2_with fail
        refine HCA.out.mono ?_
        rintro e w2 ⟨rfl, hb2⟩
        have HB2 := hid hb2
        clear hb2 HCA
        go_wp2_with fail
        go_ret
        exact ⟨⟨(i : Int), rfl, by rw [HAN.out]; simp⟩, HB2.out⟩
    · have hie : i = m := by omega
      subst hie
      have hin : ¬ (i : Int) < (i : Int) := by omega
      have HAN : Hid (ks.any P = false) := hid (by rw [HM.out, List.take_length] at hno; exact hno)
      have HB3 := hid hB
      clear hno hB hi him
      go_wp2_with fail
      go_ret
      exact ⟨⟨-1, rfl, by rw [HAN.out]; rfl⟩, HB3.out⟩
theorem contains_l42 (s0 s1 s2 s3 s4 : Value) {b : Nat → Prop} {d : Nat} (P : Lt → Bool) (ks : List Lt) (ao : Option Addr) (cap : Nat) (w : World) (hk : Kr b w d ao ks) (hl : ks.length ≤ 140737488355328) (hQ : ∀ W, Below w.heap.size w W → ∀ x ∈ ks, ∀ kv d', d' < d → Kd b W d' kv x.kids → Calls Tryz.prog 47 #[.agg #[s0, s1, s2, s3, s4], .agg (lcs x kv)] W fun e w' => e = .returned (.bool (P x)) ∧ Below w.heap.size w w') :
    Calls Tryz.prog 72 #[.slice ao ks.length cap, .func (.func 47) #[.agg #[s0, s1, s2, s3, s4]] #[]] w fun e w' => e = .returned (.bool (ks.any P)) ∧ Below w.heap.size w w' := by
  have HC := hid (index_l42 s0 s1 s2 s3 s4 P ks ao cap w hk hl hQ)
  clear hk hl hQ
  generalize ks.any P = R at *
  generalize ks.length = m at *
  go_enter Tryz.func72, Tryz.ntmps72
  go_wp2_with fail
  refine HC.out.mono ?_
  rintro e w2 ⟨⟨r, rfl, hr⟩, hb2⟩
  have HR := hid hr
  have HB2 := hid hb2
  clear hr hb2 HC
  go_wp2_with fail
  go_ret
  exact ⟨by rw [← HR.out]; rfl, HB2.out⟩
end Go.Proofs.YtdllpklecdmghaaGreatDoor
