import Derived.Test.YtdllpklecdmghaaGreatDoorDkAll
import Derived.Test.YtdllpklecdmghaaGreatDoorRAAll
import Derived.Test.YtdllpklecdmghaaGreatDoorLkOAll
import Derived.Test.YtdllpklecdmghaaGreatDoorLkTxAll
import Derived.Deep.Cut
import Derived.Test.YtdllpklecdmghaaGreatDoorLkWkAll
import Derived.Test.YtdllpklecdmghaaGreatDoorLkHAll
/- What opens a lock, by the document. -/
namespace Go.Proofs.YtdllpklecdmghaaGreatDoor
open Go.RowKit
open Lk (Lt Sp)
theorem dhash_is {t : Bs} (ht : Tm.deep t ≠ 0) (x : Bs) : ((((oneRes 72 x).2 : Int) == 0) && ((oneRes 72 x).1 == t)) = decide (72 :: x = t) := by
  by_cases e : 72 :: x = t
  · have h1 := (Tm.deep_is ht).1
    have h2 := (Tm.deep_is ht).2
    have h3 := Tm.deep_le t
    have ht' := ht
    rw [← e] at h1 h2 h3 ht'
    obtain ⟨a, ha, hd⟩ := Tm.is_inv_hash h1
    have hxl : x.length ≤ 16384 := by simp at h2; omega
    have hx : Tm.deep x = a := Tm.is_deep ha (by omega) hxl
    have ha1 := ha.1
    have hb : oneRes 72 x = (72 :: x, 0) := by
      unfold oneRes madeRes
      rw [if_neg (by omega), if_neg ht']
    rw [hb]
    simp [e]
  · rw [decide_eq_false e, Bool.and_eq_false_iff]
    unfold oneRes madeRes
    split
    · exact .inl rfl
    · split
      · exact .inl rfl
      · right
        simpa using e
namespace Lk
theorem opnAll_count (ver : Bs → Bs → Bs → Bool) (s : Sp) : ∀ ks : List Lt, opnAll ver s ks = decide (ks.countP (opn ver s) = ks.length)
  | [] => rfl
  | x :: ks => by
    have h := List.countP_le_length (p := opn ver s) (l := ks)
    rw [opnAll, opnAll_count ver s ks, List.countP_cons, List.length_cons]
    cases opn ver s x with
    | true =>
      rw [Bool.true_and, Bool.eq_iff_iff, decide_eq_true_iff, decide_eq_true_iff]
      simp
    | false =>
      rw [Bool.false_and]
      symm
      apply decide_eq_false
      simp
      omega
theorem opnAny_count (ver : Bs → Bs → Bs → Bool) (s : Sp) : ∀ ks : List Lt, opnAny ver s ks = decide (0 < ks.countP (opn ver s))
  | [] => rfl
  | x :: ks => by
    rw [opnAny, opnAny_count ver s ks, List.countP_cons]
    cases opn ver s x with
    | true => simp
    | false => simp
theorem count_step (ver : Bs → Bs → Bs → Bool) (s : Sp) (ks : List Lt) (i : Nat) (hi : i < ks.length) : (ks.take (i + 1)).countP (opn ver s) = (ks.take i).countP (opn ver s) + (if opn ver s ks[i] = true then 1 else 0) := by
  rw [List.take_add_one, List.getElem?_eq_getElem hi, List.countP_append]
  simp [List.countP_cons]
end Lk
theorem any_step {l : List Bs} {i : Nat} (hi : i < l.length) (p : Bs → Bool) (h : (l.take i).any p = false) : (l.take (i + 1)).any p = p l[i] := by
  rw [List.take_add_one, List.any_append, h, List.getElem?_eq_getElem hi]
  simp
theorem any_yes {l : List Bs} {i : Nat} (hi : i < l.length) (p : Bs → Bool) (h : p l[i] = true) : l.any p = true := List.any_eq_true.2 ⟨_, List.getElem_mem hi, h⟩
theorem box_lw (kd : Nat) (t : Bs) (n : Int) (ao : Option Addr) (m cap : Nat) (sa pa : Option Addr) (n1 sc n2 pc : Nat) (w w0 : World) (hw0 : w0 = (w.alloc (.cells #[.int .u8 (kd : Int), St t, .int .i64 n, .slice ao m cap] 25)).alloc (.cells #[.slice sa n1 sc, .slice pa n2 pc] 40)) : Below w.heap.size w w0 ∧ ∀ W, Below w0.heap.size w0 W → (W.cell? ⟨w.heap.size, 0, none⟩ = some (.int .u8 (kd : Int)) ∧ W.cell? ⟨w.heap.size, 1, none⟩ = some (St t) ∧ W.cell? ⟨w.heap.size, 2, none⟩ = some (.int .i64 n) ∧ W.cell? ⟨w.heap.size, 3, none⟩ = some (.slice ao m cap)) ∧ W.cell? ⟨w.heap.size + 1, 0, none⟩ = some (.slice sa n1 sc) ∧ W.cell? ⟨w.heap.size + 1, 1, none⟩ = some (.slice pa n2 pc) := by
  have e1 : (w.alloc (.cells #[.int .u8 (kd : Int), St t, .int .i64 n, .slice ao m cap] 25)).heap.size = w.heap.size + 1 := by simp
  have h1 := heap_alloc_new w (.cells #[.int .u8 (kd : Int), St t, .int .i64 n, .slice ao m cap] 25)
  have b1 := below_al w (.cells #[.int .u8 (kd : Int), St t, .int .i64 n, .slice ao m cap] 25)
  generalize w.alloc (.cells #[.int .u8 (kd : Int), St t, .int .i64 n, .slice ao m cap] 25) = w1 at *
  have h2 := heap_alloc_new w1 (.cells #[.slice sa n1 sc, .slice pa n2 pc] 40)
  have b2 := below_al w1 (.cells #[.slice sa n1 sc, .slice pa n2 pc] 40)
  rw [← hw0] at h2 b2
  refine ⟨b1.trans (b2.mono (by omega)), fun W hB => ?_⟩
  have k1 := (hB.block _ (lt_of_heap ((b2.block _ (by omega)).trans h1))).trans ((b2.block _ (by omega)).trans h1)
  have k2 := (hB.block _ (lt_of_heap h2)).trans h2
  rw [e1] at k2
  exact ⟨⟨(cell_of_heap k1 0).trans rfl, (cell_of_heap k1 1).trans rfl, (cell_of_heap k1 2).trans rfl, (cell_of_heap k1 3).trans rfl⟩, (cell_of_heap k2 0).trans rfl, (cell_of_heap k2 1).trans rfl⟩
set_option maxHeartbeats 8000000 in
set_option maxRecDepth 100000 in
theorem dop_sig (t : Bs) (n : Int) (ao : Option Addr) (m cap : Nat) (sigs : List Bs) (sa pa : Option Addr) (sc n2 pc : Nat) (msg : Bs) (af ag : Int) (w : World) (hs : Texts w (.slice sa sigs.length sc) sigs) (hl : sigs.length ≤ 140737488355328) : Calls Tryz.prog 48 #[.agg #[.int .u8 1, St t, .int .i64 n, .slice ao m cap], .agg #[.slice sa sigs.length sc, .slice pa n2 pc], St msg, .int .i64 af, .int .i64 ag] w fun e w' => e = .returned (.bool (sigs.any (fun x => verifyRes t msg x))) ∧ Below w.heap.size w w' := by
  obtain ⟨w0, hw0⟩ : ∃ w0, w0 = (w.alloc (.cells #[.int .u8 1, St t, .int .i64 n, .slice ao m cap] 25)).alloc (.cells #[.slice sa sigs.length sc, .slice pa n2 pc] 40) := ⟨_, rfl⟩
  obtain ⟨hB0, hC0⟩ := box_lw 1 t n ao m cap sa pa sigs.length sc n2 pc w w0 hw0
  obtain ⟨n1, hn1⟩ : ∃ n1, n1 = sigs.length := ⟨_, rfl⟩
  have HTX : Hid (∀ W, Below w0.heap.size w0 W → ∀ i (h : i < sigs.length), ∃ g o, sa = some ⟨g, o, none⟩ ∧ g < W.heap.size ∧ W.cell? ⟨g, o + i, none⟩ = some (St sigs[i])) := hid (fun W hW i h => ((hs.low hB0).low hW).cells i h)
  rw [← hn1] at hw0 hC0 hl ⊢
  have HC0 := hid hC0
  have HV : Hid (∀ x W, Calls Tryz.prog 74 #[St t, St msg, St x] W fun e w' => e = .returned (.bool (verifyRes t msg x)) ∧ Below W.heap.size W w') := hid (fun x W => rverify_any t msg x W)
  obtain ⟨R, hR⟩ : ∃ R, R = sigs.any (fun x => verifyRes t msg x) := ⟨_, rfl⟩
  have HR := hid hR
  rw [← hR]
  have HN := hid hn1
  have HB0 := hid hB0
  have HL := hid hl
  obtain ⟨⟨c0, c1, c2, c3⟩, d0, d1⟩ := hC0 w0 (Below.refl _ _)
  rw [hw0] at c0 c1 c2 c3 d0 d1
  clear hB0 hs hC0 hn1 hR hl
  go_enter Tryz.func48, Tryz.ntmps48
  go_wp2_with fail
  rw [← hw0]
  clear hw0 c0 c1 c2 c3 d0 d1
  go_loopg [11] n1 (fun gg v11 wr => ∃ i : Nat, gg = n1 - i ∧ i ≤ n1 ∧ v11 = .int .i64 (i : Int) ∧ (sigs.take i).any (fun x => verifyRes t msg x) = false ∧ Below w0.heap.size w0 wr)
  case atStart => exact ⟨0, rfl, Nat.zero_le _, rfl, rfl, Below.refl _ _⟩
  case round =>
    obtain ⟨i, rfl, hi, rfl, han, hB⟩ := hrel
    obtain ⟨⟨c0, c1, c2, c3⟩, d0, d1⟩ := HC0.out wr hB
    have HBW : Hid (Below w.heap.size w wr) := hid (HB0.out.trans (hB.mono HB0.out.size))
    by_cases him : i < n1
    · have hik : i < sigs.length := by have := HN.out; omega
      obtain ⟨g, o, rfl, hgl, hc⟩ := HTX.out wr hB i hik
      obtain ⟨x, hx⟩ : ∃ x, x = sigs[i] := ⟨_, rfl⟩
      have HNX : Hid (verifyRes t msg x = false → (sigs.take (i + 1)).any (fun x => verifyRes t msg x) = false) := hid (fun h => by rw [any_step hik _ han, ← hx]; exact h)
      have HYS : Hid (verifyRes t msg x = true → R = true) := hid (fun h => by rw [HR.out]; exact any_yes hik _ (by rw [← hx]; exact h))
      rw [← hx] at hc
      have HVX : Hid (∀ W, Below wr.heap.size wr W → Calls Tryz.prog 74 #[St t, St msg, St x] W fun e w' => e = .returned (.bool (verifyRes t msg x)) ∧ Below wr.heap.size wr w') := hid (fun W hW => (HV.out x W).mono (fun e w' ⟨h1, h2⟩ => ⟨h1, hW.trans (h2.mono hW.size)⟩))
      have hiw : IntKind.i64.wrap ((i : Int) + 1) = ((i + 1 : Nat) : Int) := by rw [IntKind.wrap_i64]; have := HL.out; omega
      have hi0 : (0 : Int) ≤ (i : Int) := Int.natCast_nonneg _
      have hi1 : (i : Int) < (n1 : Int) := by omega
      have HI := hid him
      have HCW : Hid (∀ W, Below wr.heap.size wr W → W.cell? ⟨w.heap.size, 1, none⟩ = some (St t) ∧ W.cell? ⟨w.heap.size + 1, 0, none⟩ = some (.slice (some ⟨g, o, none⟩) n1 sc) ∧ W.cell? ⟨g, o + i, none⟩ = some (St x)) := hid (fun W hW => ⟨cell_later hW c1, cell_later hW d0, cell_later hW hc⟩)
      have hs0 : wr.cell? ⟨w.heap.size, 1, none⟩ = some (St t) ∧ wr.cell? ⟨w.heap.size + 1, 0, none⟩ = some (.slice (some ⟨g, o, none⟩) n1 sc) ∧ wr.cell? ⟨g, o + i, none⟩ = some (St x) := ⟨c1, d0, hc⟩
      generalize verifyRes t msg x = v at *
      have HBR := hid (hB)
      clear hx han hik him hi hgl hB c2 c3 c0 d1
      go_wp2_with fail
      go_region_held3 (fun wq : World => wq.cell? ⟨w.heap.size, 1, none⟩ = some (St t) ∧ wq.cell? ⟨w.heap.size + 1, 0, none⟩ = some (.slice (some ⟨g, o, none⟩) n1 sc) ∧ wq.cell? ⟨g, o + i, none⟩ = some (St x)) (first | exact hs0 | exact HCW.out _ (below_dr _) | exact HCW.out _ HXa.out) (first | (go_at_call 74; refine (HVX.out _ (below_dr _)).mono ?_; rintro e xa ⟨rfl, hb⟩; have HXa := hid hb; clear hb))
      have HBX := hid (HBR.out.trans (HXa.out.mono HBR.out.size))
      cases v with
      | true =>
        have HZ := hid (HYS.out rfl)
        have HBZ := hid (HB0.out.trans (HBX.out.mono HB0.out.size))
        go_wp2_with fail
        go_ret
        exact ⟨by rw [HZ.out]; rfl, HBZ.out⟩
      | false =>
        have HZ := hid (HNX.out rfl)
        go_wp2_with fail
        go_roundg (n1 - (i + 1))
        case measure => have := HI.out; omega
        case rel => exact ⟨i + 1, rfl, by have := HI.out; omega, rfl, HZ.out, HBX.out⟩
    · have hi1 : ¬ (i : Int) < (n1 : Int) := by omega
      have HZ : Hid (R = false) := hid (by rw [HR.out]; rw [List.take_of_length_le (by have := HN.out; omega)] at han; exact han)
      clear han hB hi him
      go_wp2_with fail
      go_ret
      exact ⟨by rw [HZ.out]; rfl, HBW.out⟩
set_option maxHeartbeats 8000000 in
set_option maxRecDepth 100000 in
theorem dop_pre (t : Bs) (ht : Tm.deep t ≠ 0) (n : Int) (ao : Option Addr) (m cap : Nat) (pres : List Bs) (sa pa : Option Addr) (n1 sc pc : Nat) (msg : Bs) (af ag : Int) (w : World) (hs : Texts w (.slice pa pres.length pc) pres) (hl : pres.length ≤ 140737488355328) : Calls Tryz.prog 48 #[.agg #[.int .u8 2, St t, .int .i64 n, .slice ao m cap], .agg #[.slice sa n1 sc, .slice pa pres.length pc], St msg, .int .i64 af, .int .i64 ag] w fun e w' => e = .returned (.bool (pres.any (fun x => decide (72 :: x = t)))) ∧ Below w.heap.size w w' := by
  obtain ⟨w0, hw0⟩ : ∃ w0, w0 = (w.alloc (.cells #[.int .u8 2, St t, .int .i64 n, .slice ao m cap] 25)).alloc (.cells #[.slice sa n1 sc, .slice pa pres.length pc] 40) := ⟨_, rfl⟩
  obtain ⟨hB0, hC0⟩ := box_lw 2 t n ao m cap sa pa n1 sc pres.length pc w w0 hw0
  obtain ⟨n2, hn2⟩ : ∃ n2, n2 = pres.length := ⟨_, rfl⟩
  have HTX : Hid (∀ W, Below w0.heap.size w0 W → ∀ i (h : i < pres.length), ∃ g o, pa = some ⟨g, o, none⟩ ∧ g < W.heap.size ∧ W.cell? ⟨g, o + i, none⟩ = some (St pres[i])) := hid (fun W hW i h => ((hs.low hB0).low hW).cells i h)
  rw [← hn2] at hw0 hC0 hl ⊢
  have HC0 := hid hC0
  have HV : Hid (∀ x W, Calls Tryz.prog 75 #[.int .u8 72, St x] W fun e w' => e = .returned (.tuple #[St (oneRes 72 x).1, .int .i64 ((oneRes 72 x).2 : Int)]) ∧ Below W.heap.size W w') := hid (fun x W => rone_any 72 x W)
  have HIS : Hid (∀ x, ((((oneRes 72 x).2 : Int) == 0) && ((oneRes 72 x).1 == t)) = decide (72 :: x = t)) := hid (fun x => dhash_is ht x)
  obtain ⟨R, hR⟩ : ∃ R, R = pres.any (fun x => decide (72 :: x = t)) := ⟨_, rfl⟩
  have HR := hid hR
  rw [← hR]
  have HN := hid hn2
  have HB0 := hid hB0
  have HL := hid hl
  obtain ⟨⟨c0, c1, c2, c3⟩, d0, d1⟩ := hC0 w0 (Below.refl _ _)
  rw [hw0] at c0 c1 c2 c3 d0 d1
  clear hB0 hs hC0 hn2 hR hl ht
  go_enter Tryz.func48, Tryz.ntmps48
  go_wp2_with fail
  rw [← hw0]
  clear hw0 c0 c1 c2 c3 d0 d1
  go_loopg [12] n2 (fun gg v12 wr => ∃ i : Nat, gg = n2 - i ∧ i ≤ n2 ∧ v12 = .int .i64 (i : Int) ∧ (pres.take i).any (fun x => decide (72 :: x = t)) = false ∧ Below w0.heap.size w0 wr)
  case atStart => exact ⟨0, rfl, Nat.zero_le _, rfl, rfl, Below.refl _ _⟩
  case round =>
    obtain ⟨i, rfl, hi, rfl, han, hB⟩ := hrel
    obtain ⟨⟨c0, c1, c2, c3⟩, d0, d1⟩ := HC0.out wr hB
    have HBW : Hid (Below w.heap.size w wr) := hid (HB0.out.trans (hB.mono HB0.out.size))
    by_cases him : i < n2
    · have hik : i < pres.length := by have := HN.out; omega
      obtain ⟨g, o, rfl, hgl, hc⟩ := HTX.out wr hB i hik
      obtain ⟨x, hx⟩ : ∃ x, x = pres[i] := ⟨_, rfl⟩
      have HNX : Hid (decide (72 :: x = t) = false → (pres.take (i + 1)).any (fun x => decide (72 :: x = t)) = false) := hid (fun h => by rw [any_step hik _ han, ← hx]; exact h)
      have HYS : Hid (decide (72 :: x = t) = true → R = true) := hid (fun h => by rw [HR.out]; exact any_yes hik _ (by rw [← hx]; exact h))
      rw [← hx] at hc
      have HVX := hid (HV.out x wr)
      have HIX := hid (HIS.out x)
      have hiw : IntKind.i64.wrap ((i : Int) + 1) = ((i + 1 : Nat) : Int) := by rw [IntKind.wrap_i64]; have := HL.out; omega
      have hi0 : (0 : Int) ≤ (i : Int) := Int.natCast_nonneg _
      have hi1 : (i : Int) < (n2 : Int) := by omega
      have HI := hid him
      have HBR := hid hB
      generalize decide (72 :: x = t) = v at *
      generalize (oneRes 72 x).1 = h at *
      generalize (oneRes 72 x).2 = er at *
      clear hx han hik him hi hgl hB c2 c3 c0 c1 d0
      go_wp2_with fail
      refine HVX.out.mono ?_
      rintro e xa ⟨rfl, hb⟩
      have hBX := HBR.out.trans (hb.mono HBR.out.size)
      have HBX := hid hBX
      obtain ⟨⟨c0, c1, c2, c3⟩, d0, d1⟩ := HC0.out xa hBX
      clear hb HVX hc hBX c0 c2 c3 d0
      have HBZ := hid (HB0.out.trans (HBX.out.mono HB0.out.size))
      by_cases he : er = 0
      · subst he
        by_cases hh : h = t
        · subst hh
          have HZ := hid (HYS.out (by have h9 := HIX.out; simpa using h9.symm))
          clear HIX
          go_wp2_with fail
          go_ret
          exact ⟨by rw [HZ.out]; rfl, HBZ.out⟩
        · have hhb : (h == t) = false := by simpa using hh
          have HZ := hid (HNX.out (by have h9 := HIX.out; rw [hhb, Bool.and_false] at h9; exact h9.symm))
          clear HIX
          go_wp2_with fail
          go_roundg (n2 - (i + 1))
          case measure => have := HI.out; omega
          case rel => exact ⟨i + 1, rfl, by have := HI.out; omega, rfl, HZ.out, HBX.out⟩
      · have hei : ¬ (er : Int) = 0 := by omega
        have heb : ((er : Int) == 0) = false := by simpa using hei
        have HZ := hid (HNX.out (by have h9 := HIX.out; rw [heb, Bool.false_and] at h9; exact h9.symm))
        clear HIX
        go_wp2_with fail
        go_roundg (n2 - (i + 1))
        case measure => have := HI.out; omega
        case rel => exact ⟨i + 1, rfl, by have := HI.out; omega, rfl, HZ.out, HBX.out⟩
    · have hi1 : ¬ (i : Int) < (n2 : Int) := by omega
      have HZ : Hid (R = false) := hid (by rw [HR.out]; rw [List.take_of_length_le (by have := HN.out; omega)] at han; exact han)
      clear han hB hi him
      go_wp2_with fail
      go_ret
      exact ⟨by rw [HZ.out]; rfl, HBW.out⟩
theorem dop_after (t : Bs) (n : Int) (ao : Option Addr) (m cap : Nat) (sa pa : Option Addr) (n1 sc n2 pc : Nat) (msg : Bs) (af ag : Int) (w : World) : Calls Tryz.prog 48 #[.agg #[.int .u8 3, St t, .int .i64 n, .slice ao m cap], .agg #[.slice sa n1 sc, .slice pa n2 pc], St msg, .int .i64 af, .int .i64 ag] w fun e w' => e = .returned (.bool (decide (n ≤ af))) ∧ Below w.heap.size w w' := by
  by_cases h : n ≤ af
  · rw [decide_eq_true h]
    go_enter Tryz.func48, Tryz.ntmps48
    go_wp2_with fail
    go_ret
    exact ⟨rfl, (below_al _ _).trans ((below_al _ _).mono (below_al _ _).size)⟩
  · rw [decide_eq_false h]
    go_enter Tryz.func48, Tryz.ntmps48
    go_wp2_with fail
    go_ret
    exact ⟨rfl, (below_al _ _).trans ((below_al _ _).mono (below_al _ _).size)⟩
theorem dop_age (t : Bs) (n : Int) (ao : Option Addr) (m cap : Nat) (sa pa : Option Addr) (n1 sc n2 pc : Nat) (msg : Bs) (af ag : Int) (w : World) : Calls Tryz.prog 48 #[.agg #[.int .u8 4, St t, .int .i64 n, .slice ao m cap], .agg #[.slice sa n1 sc, .slice pa n2 pc], St msg, .int .i64 af, .int .i64 ag] w fun e w' => e = .returned (.bool (decide (n ≤ ag))) ∧ Below w.heap.size w w' := by
  by_cases h : n ≤ ag
  · rw [decide_eq_true h]
    go_enter Tryz.func48, Tryz.ntmps48
    go_wp2_with fail
    go_ret
    exact ⟨rfl, (below_al _ _).trans ((below_al _ _).mono (below_al _ _).size)⟩
  · rw [decide_eq_false h]
    go_enter Tryz.func48, Tryz.ntmps48
    go_wp2_with fail
    go_ret
    exact ⟨rfl, (below_al _ _).trans ((below_al _ _).mono (below_al _ _).size)⟩
end Go.Proofs.YtdllpklecdmghaaGreatDoor
/- What opens a lock, by the document: the parts; Opens. -/
namespace Go.Proofs.YtdllpklecdmghaaGreatDoor
open Go.RowKit
open Lk (Lt Sp)
set_option maxHeartbeats 8000000 in
set_option maxRecDepth 100000 in
theorem dop_parts5 {b : Nat → Prop} (s : Sp) (sa pa : Option Addr) (n1 sc n2 pc : Nat) (d : Nat) (ih : ∀ d' < d, ∀ (l : Lt) (kv : Value) (w : World), Kd b w d' kv l.kids → Lk.ok l = true → Sw w s (.slice sa n1 sc) (.slice pa n2 pc) → Calls Tryz.prog 48 #[.agg (lcs l kv), .agg #[.slice sa n1 sc, .slice pa n2 pc], St s.msg, .int .i64 s.after, .int .i64 s.age] w fun e w' => e = .returned (.bool (Lk.opn verifyRes s l)) ∧ Below w.heap.size w w')
    (t : Bs) (n : Int) (ao : Option Addr) (m cap : Nat) (ks : List Lt) (hm : m = ks.length) (hm8 : m ≤ 8) (hm0 : 0 < m) (w : World) (hks : Kr b w d ao ks) (hok : Lk.oks ks = true) (hsw : Sw w s (.slice sa n1 sc) (.slice pa n2 pc)) :
    Calls Tryz.prog 48 #[.agg #[.int .u8 5, St t, .int .i64 n, .slice ao m cap], .agg #[.slice sa n1 sc, .slice pa n2 pc], St s.msg, .int .i64 s.after, .int .i64 s.age] w fun e w' => e = .returned (.bool (decide (ks.countP (Lk.opn verifyRes s) = m))) ∧ Below w.heap.size w w' := by
  obtain ⟨w0, hw0⟩ : ∃ w0, w0 = (w.alloc (.cells #[.int .u8 5, St t, .int .i64 n, .slice ao m cap] 25)).alloc (.cells #[.slice sa n1 sc, .slice pa n2 pc] 40) := ⟨_, rfl⟩
  obtain ⟨hB0, hC0⟩ := box_lw 5 t n ao m cap sa pa n1 sc n2 pc w w0 hw0
  have HC0 : Hid (∀ W, Below w0.heap.size w0 W → (W.cell? ⟨w.heap.size, 0, none⟩ = some (.int .u8 5) ∧ W.cell? ⟨w.heap.size, 1, none⟩ = some (St t) ∧ W.cell? ⟨w.heap.size, 2, none⟩ = some (.int .i64 n) ∧ W.cell? ⟨w.heap.size, 3, none⟩ = some (.slice ao m cap)) ∧ W.cell? ⟨w.heap.size + 1, 0, none⟩ = some (.slice sa n1 sc) ∧ W.cell? ⟨w.heap.size + 1, 1, none⟩ = some (.slice pa n2 pc)) := hid hC0
  obtain ⟨R, hR⟩ : ∃ R, R = decide (ks.countP (Lk.opn verifyRes s) = m) := ⟨_, rfl⟩
  have HR0 := hid hR
  rw [← hR]
  have HM := hid hm
  have HM8 := hid hm8
  have HM0 := hid hm0
  have HKS := hid hks
  have HOK := hid hok
  have HSW := hid hsw
  have HIH := hid ih
  have HB0 := hid hB0
  clear hR hB0 hC0 hm hm8 hm0 hks hok hsw ih
  obtain ⟨⟨c0, c1, c2, c3⟩, d0, d1⟩ := HC0.out w0 (Below.refl _ _)
  rw [hw0] at c0 c1 c2 c3 d0 d1
  go_enter Tryz.func48, Tryz.ntmps48
  go_wp2_with fail
  rw [← hw0]
  clear hw0 c0 c1 c2 c3 d0 d1
  go_loopg [15, 16] m (fun gg v15 v16 wr => ∃ i q : Nat, gg = m - i ∧ i ≤ m ∧ v15 = .int .i64 (q : Int) ∧ v16 = .int .i64 (i : Int) ∧ q = (ks.take i).countP (Lk.opn verifyRes s) ∧ Below w0.heap.size w0 wr)
  case atStart => exact ⟨0, 0, rfl, Nat.zero_le _, rfl, rfl, rfl, Below.refl _ _⟩
  case round =>
    obtain ⟨i, q, rfl, hi, rfl, rfl, hq, hB⟩ := hrel
    obtain ⟨⟨c0, c1, c2, c3⟩, d0, d1⟩ := HC0.out wr hB
    have hBw : Below w.heap.size w wr := HB0.out.trans (hB.mono HB0.out.size)
    have HBW := hid hBw
    by_cases him : i < m
    · have hik : i < ks.length := by have := HM.out; omega
      obtain ⟨g, o, hg, _, hc⟩ := (HKS.out.low hBw) (show 0 < ks.length by omega)
      subst hg
      obtain ⟨kv, hcs, hlr, d', hd', hkd⟩ := hc i hik
      have hst := Lk.count_step verifyRes s ks i hik
      have hokx := Lk.oks_get HOK.out _ (List.getElem_mem hik)
      have hql : (ks.take i).countP (Lk.opn verifyRes s) ≤ i := Nat.le_trans List.countP_le_length (by simp; omega)
      obtain ⟨x, hx⟩ : ∃ x, x = ks[i] := ⟨_, rfl⟩
      rw [← hx] at hcs hlr hkd hst hokx
      obtain ⟨_, a2, c2', rfl⟩ := hkd.shape
      have e0 : wr.cell? ⟨g, o + i * 4, none⟩ = some (.int .u8 (x.kind : Int)) := hcs 0 _ rfl
      have e1 : wr.cell? ⟨g, o + i * 4 + 1, none⟩ = some (St x.term) := hcs 1 _ rfl
      have e2 : wr.cell? ⟨g, o + i * 4 + 2, none⟩ = some (.int .i64 x.n) := hcs 2 _ rfl
      have e3 : wr.cell? ⟨g, o + i * 4 + 3, none⟩ = some (.slice a2 x.kids.length c2') := hcs 3 _ rfl
      have HCA : Hid (∀ W, Below wr.heap.size wr W → Calls Tryz.prog 48 #[.agg #[.int .u8 (x.kind : Int), St x.term, .int .i64 x.n, .slice a2 x.kids.length c2'], .agg #[.slice sa n1 sc, .slice pa n2 pc], St s.msg, .int .i64 s.after, .int .i64 s.age] W fun e w' => e = .returned (.bool (Lk.opn verifyRes s x)) ∧ Below wr.heap.size wr w') := hid (fun W hW => (HIH.out d' hd' x _ W (hkd.low hW) hokx ((HSW.out.low hBw).low hW)).mono (fun e w' ⟨h1, h2⟩ => ⟨h1, hW.trans (h2.mono hW.size)⟩))
      have HST : Hid ((ks.take (i + 1)).countP (Lk.opn verifyRes s) = q + (if Lk.opn verifyRes s x = true then 1 else 0)) := hid (by rw [hst, hq])
      have hiw : IntKind.i64.wrap ((i : Int) + 1) = ((i + 1 : Nat) : Int) := by rw [IntKind.wrap_i64]; have := HM8.out; omega
      have hqw : IntKind.i64.wrap ((q : Int) + 1) = ((q + 1 : Nat) : Int) := by rw [IntKind.wrap_i64]; have := HM8.out; omega
      have hi0 : (0 : Int) ≤ (i : Int) := Int.natCast_nonneg _
      have hi1 : (i : Int) < (m : Int) := by omega
      have HI := hid him
      have HBR := hid hB
      generalize Lk.opn verifyRes s x = v at *
      have HCW : Hid (∀ W, Below wr.heap.size wr W → W.cell? ⟨w.heap.size, 3, none⟩ = some (.slice (some ⟨g, o, none⟩) m cap) ∧ W.cell? ⟨w.heap.size + 1, 0, none⟩ = some (.slice sa n1 sc) ∧ W.cell? ⟨w.heap.size + 1, 1, none⟩ = some (.slice pa n2 pc) ∧ W.cell? ⟨g, o + i * 4, none⟩ = some (.int .u8 (x.kind : Int)) ∧ W.cell? ⟨g, o + i * 4 + 1, none⟩ = some (St x.term) ∧ W.cell? ⟨g, o + i * 4 + 2, none⟩ = some (.int .i64 x.n) ∧ W.cell? ⟨g, o + i * 4 + 3, none⟩ = some (.slice a2 x.kids.length c2')) := hid (fun W hW => ⟨cell_later hW c3, cell_later hW d0, cell_later hW d1, cell_later hW e0, cell_later hW e1, cell_later hW e2, cell_later hW e3⟩)
      have hs0 := HCW.out wr (Below.refl _ _)
      clear hcs hlr hkd hc hik him hi hx hB hBw hst hokx hql hq c0 c1 c2
      go_wp2_with fail
      clear e0 e1 e2 e3 c3 d0 d1
      go_region_held3 (fun W : World => W.cell? ⟨w.heap.size, 3, none⟩ = some (.slice (some ⟨g, o, none⟩) m cap) ∧ W.cell? ⟨w.heap.size + 1, 0, none⟩ = some (.slice sa n1 sc) ∧ W.cell? ⟨w.heap.size + 1, 1, none⟩ = some (.slice pa n2 pc) ∧ W.cell? ⟨g, o + i * 4, none⟩ = some (.int .u8 (x.kind : Int)) ∧ W.cell? ⟨g, o + i * 4 + 1, none⟩ = some (St x.term) ∧ W.cell? ⟨g, o + i * 4 + 2, none⟩ = some (.int .i64 x.n) ∧ W.cell? ⟨g, o + i * 4 + 3, none⟩ = some (.slice a2 x.kids.length c2')) (first | exact hs0 | exact HCW.out _ (below_dr _) | exact HCW.out _ HXa.out) (first | (go_at_call 48; refine (HCA.out _ (below_dr _)).mono ?_; rintro e xa ⟨rfl, hb⟩; have HXa := hid hb; clear hb))
      have HBX := hid (HBR.out.trans (HXa.out.mono HBR.out.size))
      clear hs0
      cases v with
      | true =>
        have HZ : Hid (q + 1 = (ks.take (i + 1)).countP (Lk.opn verifyRes s)) := hid (by rw [HST.out]; rfl)
        go_wp2_with fail
        go_roundg (m - (i + 1))
        case measure => have := HI.out; omega
        case rel => exact ⟨i + 1, q + 1, rfl, by have := HI.out; omega, rfl, rfl, HZ.out, HBX.out⟩
      | false =>
        have HZ : Hid (q = (ks.take (i + 1)).countP (Lk.opn verifyRes s)) := hid (by rw [HST.out]; rfl)
        go_wp2_with fail
        go_roundg (m - (i + 1))
        case measure => have := HI.out; omega
        case rel => exact ⟨i + 1, q, rfl, by have := HI.out; omega, rfl, rfl, HZ.out, HBX.out⟩
    · have hi1 : ¬ (i : Int) < (m : Int) := by omega
      have hqk : q = ks.countP (Lk.opn verifyRes s) := by rw [hq, List.take_of_length_le (by have := HM.out; omega)]
      have HR : Hid (R = decide (q = m)) := hid (by rw [HR0.out, hqk])
      clear hq hB hBw hi him hqk
      by_cases hqm : q = m
      · subst hqm
        have HZ : Hid (R = true) := hid (by rw [HR.out]; simp)
        clear HR
        go_wp2_with fail
        go_ret
        exact ⟨by rw [HZ.out]; rfl, HBW.out⟩
      · have hqi : ¬ (q : Int) = (m : Int) := by omega
        have hqb : ((q : Int) == (m : Int)) = false := by simpa using hqi
        have HZ : Hid (R = false) := hid (by rw [HR.out]; simp [hqm])
        clear HR
        go_wp2_with fail
        go_ret
        exact ⟨by rw [HZ.out]; rfl, HBW.out⟩
set_option maxHeartbeats 8000000 in
set_option maxRecDepth 100000 in
theorem dop_parts6 {b : Nat → Prop} (s : Sp) (sa pa : Option Addr) (n1 sc n2 pc : Nat) (d : Nat) (ih : ∀ d' < d, ∀ (l : Lt) (kv : Value) (w : World), Kd b w d' kv l.kids → Lk.ok l = true → Sw w s (.slice sa n1 sc) (.slice pa n2 pc) → Calls Tryz.prog 48 #[.agg (lcs l kv), .agg #[.slice sa n1 sc, .slice pa n2 pc], St s.msg, .int .i64 s.after, .int .i64 s.age] w fun e w' => e = .returned (.bool (Lk.opn verifyRes s l)) ∧ Below w.heap.size w w')
    (t : Bs) (n : Int) (ao : Option Addr) (m cap : Nat) (ks : List Lt) (hm : m = ks.length) (hm8 : m ≤ 8) (hm0 : 0 < m) (w : World) (hks : Kr b w d ao ks) (hok : Lk.oks ks = true) (hsw : Sw w s (.slice sa n1 sc) (.slice pa n2 pc)) :
    Calls Tryz.prog 48 #[.agg #[.int .u8 6, St t, .int .i64 n, .slice ao m cap], .agg #[.slice sa n1 sc, .slice pa n2 pc], St s.msg, .int .i64 s.after, .int .i64 s.age] w fun e w' => e = .returned (.bool (decide (0 < ks.countP (Lk.opn verifyRes s)))) ∧ Below w.heap.size w w' := by
  obtain ⟨w0, hw0⟩ : ∃ w0, w0 = (w.alloc (.cells #[.int .u8 6, St t, .int .i64 n, .slice ao m cap] 25)).alloc (.cells #[.slice sa n1 sc, .slice pa n2 pc] 40) := ⟨_, rfl⟩
  obtain ⟨hB0, hC0⟩ := box_lw 6 t n ao m cap sa pa n1 sc n2 pc w w0 hw0
  have HC0 : Hid (∀ W, Below w0.heap.size w0 W → (W.cell? ⟨w.heap.size, 0, none⟩ = some (.int .u8 6) ∧ W.cell? ⟨w.heap.size, 1, none⟩ = some (St t) ∧ W.cell? ⟨w.heap.size, 2, none⟩ = some (.int .i64 n) ∧ W.cell? ⟨w.heap.size, 3, none⟩ = some (.slice ao m cap)) ∧ W.cell? ⟨w.heap.size + 1, 0, none⟩ = some (.slice sa n1 sc) ∧ W.cell? ⟨w.heap.size + 1, 1, none⟩ = some (.slice pa n2 pc)) := hid hC0
  obtain ⟨R, hR⟩ : ∃ R, R = decide (0 < ks.countP (Lk.opn verifyRes s)) := ⟨_, rfl⟩
  have HR0 := hid hR
  rw [← hR]
  have HM := hid hm
  have HM8 := hid hm8
  have HM0 := hid hm0
  have HKS := hid hks
  have HOK := hid hok
  have HSW := hid hsw
  have HIH := hid ih
  have HB0 := hid hB0
  clear hR hB0 hC0 hm hm8 hm0 hks hok hsw ih
  obtain ⟨⟨c0, c1, c2, c3⟩, d0, d1⟩ := HC0.out w0 (Below.refl _ _)
  rw [hw0] at c0 c1 c2 c3 d0 d1
  go_enter Tryz.func48, Tryz.ntmps48
  go_wp2_with fail
  rw [← hw0]
  clear hw0 c0 c1 c2 c3 d0 d1
  go_loopg [15, 16] m (fun gg v15 v16 wr => ∃ i q : Nat, gg = m - i ∧ i ≤ m ∧ v15 = .int .i64 (q : Int) ∧ v16 = .int .i64 (i : Int) ∧ q = (ks.take i).countP (Lk.opn verifyRes s) ∧ Below w0.heap.size w0 wr)
  case atStart => exact ⟨0, 0, rfl, Nat.zero_le _, rfl, rfl, rfl, Below.refl _ _⟩
  case round =>
    obtain ⟨i, q, rfl, hi, rfl, rfl, hq, hB⟩ := hrel
    obtain ⟨⟨c0, c1, c2, c3⟩, d0, d1⟩ := HC0.out wr hB
    have hBw : Below w.heap.size w wr := HB0.out.trans (hB.mono HB0.out.size)
    have HBW := hid hBw
    by_cases him : i < m
    · have hik : i < ks.length := by have := HM.out; omega
      obtain ⟨g, o, hg, _, hc⟩ := (HKS.out.low hBw) (show 0 < ks.length by omega)
      subst hg
      obtain ⟨kv, hcs, hlr, d', hd', hkd⟩ := hc i hik
      have hst := Lk.count_step verifyRes s ks i hik
      have hokx := Lk.oks_get HOK.out _ (List.getElem_mem hik)
      have hql : (ks.take i).countP (Lk.opn verifyRes s) ≤ i := Nat.le_trans List.countP_le_length (by simp; omega)
      obtain ⟨x, hx⟩ : ∃ x, x = ks[i] := ⟨_, rfl⟩
      rw [← hx] at hcs hlr hkd hst hokx
      obtain ⟨_, a2, c2', rfl⟩ := hkd.shape
      have e0 : wr.cell? ⟨g, o + i * 4, none⟩ = some (.int .u8 (x.kind : Int)) := hcs 0 _ rfl
      have e1 : wr.cell? ⟨g, o + i * 4 + 1, none⟩ = some (St x.term) := hcs 1 _ rfl
      have e2 : wr.cell? ⟨g, o + i * 4 + 2, none⟩ = some (.int .i64 x.n) := hcs 2 _ rfl
      have e3 : wr.cell? ⟨g, o + i * 4 + 3, none⟩ = some (.slice a2 x.kids.length c2') := hcs 3 _ rfl
      have HCA : Hid (∀ W, Below wr.heap.size wr W → Calls Tryz.prog 48 #[.agg #[.int .u8 (x.kind : Int), St x.term, .int .i64 x.n, .slice a2 x.kids.length c2'], .agg #[.slice sa n1 sc, .slice pa n2 pc], St s.msg, .int .i64 s.after, .int .i64 s.age] W fun e w' => e = .returned (.bool (Lk.opn verifyRes s x)) ∧ Below wr.heap.size wr w') := hid (fun W hW => (HIH.out d' hd' x _ W (hkd.low hW) hokx ((HSW.out.low hBw).low hW)).mono (fun e w' ⟨h1, h2⟩ => ⟨h1, hW.trans (h2.mono hW.size)⟩))
      have HST : Hid ((ks.take (i + 1)).countP (Lk.opn verifyRes s) = q + (if Lk.opn verifyRes s x = true then 1 else 0)) := hid (by rw [hst, hq])
      have hiw : IntKind.i64.wrap ((i : Int) + 1) = ((i + 1 : Nat) : Int) := by rw [IntKind.wrap_i64]; have := HM8.out; omega
      have hqw : IntKind.i64.wrap ((q : Int) + 1) = ((q + 1 : Nat) : Int) := by rw [IntKind.wrap_i64]; have := HM8.out; omega
      have hi0 : (0 : Int) ≤ (i : Int) := Int.natCast_nonneg _
      have hi1 : (i : Int) < (m : Int) := by omega
      have HI := hid him
      have HBR := hid hB
      generalize Lk.opn verifyRes s x = v at *
      have HCW : Hid (∀ W, Below wr.heap.size wr W → W.cell? ⟨w.heap.size, 3, none⟩ = some (.slice (some ⟨g, o, none⟩) m cap) ∧ W.cell? ⟨w.heap.size + 1, 0, none⟩ = some (.slice sa n1 sc) ∧ W.cell? ⟨w.heap.size + 1, 1, none⟩ = some (.slice pa n2 pc) ∧ W.cell? ⟨g, o + i * 4, none⟩ = some (.int .u8 (x.kind : Int)) ∧ W.cell? ⟨g, o + i * 4 + 1, none⟩ = some (St x.term) ∧ W.cell? ⟨g, o + i * 4 + 2, none⟩ = some (.int .i64 x.n) ∧ W.cell? ⟨g, o + i * 4 + 3, none⟩ = some (.slice a2 x.kids.length c2')) := hid (fun W hW => ⟨cell_later hW c3, cell_later hW d0, cell_later hW d1, cell_later hW e0, cell_later hW e1, cell_later hW e2, cell_later hW e3⟩)
      have hs0 := HCW.out wr (Below.refl _ _)
      clear hcs hlr hkd hc hik him hi hx hB hBw hst hokx hql hq c0 c1 c2
      go_wp2_with fail
      clear e0 e1 e2 e3 c3 d0 d1
      go_region_held3 (fun W : World => W.cell? ⟨w.heap.size, 3, none⟩ = some (.slice (some ⟨g, o, none⟩) m cap) ∧ W.cell? ⟨w.heap.size + 1, 0, none⟩ = some (.slice sa n1 sc) ∧ W.cell? ⟨w.heap.size + 1, 1, none⟩ = some (.slice pa n2 pc) ∧ W.cell? ⟨g, o + i * 4, none⟩ = some (.int .u8 (x.kind : Int)) ∧ W.cell? ⟨g, o + i * 4 + 1, none⟩ = some (St x.term) ∧ W.cell? ⟨g, o + i * 4 + 2, none⟩ = some (.int .i64 x.n) ∧ W.cell? ⟨g, o + i * 4 + 3, none⟩ = some (.slice a2 x.kids.length c2')) (first | exact hs0 | exact HCW.out _ (below_dr _) | exact HCW.out _ HXa.out) (first | (go_at_call 48; refine (HCA.out _ (below_dr _)).mono ?_; rintro e xa ⟨rfl, hb⟩; have HXa := hid hb; clear hb))
      have HBX := hid (HBR.out.trans (HXa.out.mono HBR.out.size))
      clear hs0
      cases v with
      | true =>
        have HZ : Hid (q + 1 = (ks.take (i + 1)).countP (Lk.opn verifyRes s)) := hid (by rw [HST.out]; rfl)
        go_wp2_with fail
        go_roundg (m - (i + 1))
        case measure => have := HI.out; omega
        case rel => exact ⟨i + 1, q + 1, rfl, by have := HI.out; omega, rfl, rfl, HZ.out, HBX.out⟩
      | false =>
        have HZ : Hid (q = (ks.take (i + 1)).countP (Lk.opn verifyRes s)) := hid (by rw [HST.out]; rfl)
        go_wp2_with fail
        go_roundg (m - (i + 1))
        case measure => have := HI.out; omega
        case rel => exact ⟨i + 1, q, rfl, by have := HI.out; omega, rfl, rfl, HZ.out, HBX.out⟩
    · have hi1 : ¬ (i : Int) < (m : Int) := by omega
      have hqk : q = ks.countP (Lk.opn verifyRes s) := by rw [hq, List.take_of_length_le (by have := HM.out; omega)]
      have HR : Hid (R = decide (0 < q)) := hid (by rw [HR0.out, hqk])
      clear hq hB hBw hi him hqk
      by_cases hqm : q = m
      · subst hqm
        have HZ : Hid (R = true) := hid (by rw [HR.out]; simp; have := HM0.out; omega)
        clear HR
        go_wp2_with fail
        go_ret
        exact ⟨by rw [HZ.out]; rfl, HBW.out⟩
      · have hqi : ¬ (q : Int) = (m : Int) := by omega
        have hqb : ((q : Int) == (m : Int)) = false := by simpa using hqi
        by_cases hq0 : 0 < q
        · have hq1 : (0 : Int) < (q : Int) := by omega
          have HZ : Hid (R = true) := hid (by rw [HR.out]; simp [hq0])
          clear HR
          go_wp2_with fail
          go_ret
          exact ⟨by rw [HZ.out]; rfl, HBW.out⟩
        · have hq1 : ¬ (0 : Int) < (q : Int) := by omega
          have HZ : Hid (R = false) := hid (by rw [HR.out]; simp [hq0])
          clear HR
          go_wp2_with fail
          go_ret
          exact ⟨by rw [HZ.out]; rfl, HBW.out⟩
theorem dopens_any {b : Nat → Prop} (s : Sp) (sa pa : Option Addr) (n1 sc n2 pc : Nat) (d : Nat) : ∀ (l : Lt) (kv : Value) (w : World), Kd b w d kv l.kids → Lk.ok l = true → Sw w s (.slice sa n1 sc) (.slice pa n2 pc) → Calls Tryz.prog 48 #[.agg (lcs l kv), .agg #[.slice sa n1 sc, .slice pa n2 pc], St s.msg, .int .i64 s.after, .int .i64 s.age] w fun e w' => e = .returned (.bool (Lk.opn verifyRes s l)) ∧ Below w.heap.size w w' := by
  induction d using Nat.strongRecOn with
  | ind d ih =>
    intro l kv w hk hok hsw
    obtain ⟨kd, t, n, ks⟩ := l
    obtain ⟨hl, ao, cap, rfl, hks⟩ := hk.parts
    have hks : Kr b w d ao ks := hks
    rw [Lk.ok, Bool.and_eq_true] at hok
    obtain ⟨hfit, hoks⟩ := hok
    obtain ⟨e1, a1, h1, _⟩ := hsw.sigs
    cases h1
    obtain ⟨e2, a2, h2, _⟩ := hsw.pres
    cases h2
    have hkk : 1 ≤ kd ∧ kd ≤ 6 := Lk.fit_is_kind hfit
    rcases (by omega : kd = 1 ∨ kd = 2 ∨ kd = 3 ∨ kd = 4 ∨ kd = 5 ∨ kd = 6) with rfl | rfl | rfl | rfl | rfl | rfl
    · exact dop_sig t n ao ks.length cap s.sigs sa pa sc _ pc s.msg s.after s.age w hsw.sigs hsw.sl
    · obtain ⟨rfl, rfl, hd⟩ := Lk.fitT (by decide) hfit
      exact dop_pre t hd 0 ao _ cap s.pres sa pa _ sc pc s.msg s.after s.age w hsw.pres hsw.pl
    · exact dop_after t n ao ks.length cap sa pa _ sc _ pc s.msg s.after s.age w
    · exact dop_age t n ao ks.length cap sa pa _ sc _ pc s.msg s.after s.age w
    · obtain ⟨rfl, rfl, h0, h8⟩ := Lk.fitK (by decide) hfit
      have h := dop_parts5 s sa pa _ sc _ pc d ih [] 0 ao ks.length cap ks rfl h8 (by omega) w hks hoks hsw
      rw [← Lk.opnAll_count] at h
      exact h
    · obtain ⟨rfl, rfl, h0, h8⟩ := Lk.fitK (by decide) hfit
      have h := dop_parts6 s sa pa _ sc _ pc d ih [] 0 ao ks.length cap ks rfl h8 (by omega) w hks hoks hsw
      rw [← Lk.opnAny_count] at h
      exact h
end Go.Proofs.YtdllpklecdmghaaGreatDoor
/- The document's Opens; the law LockOpens. -/
namespace Go.Proofs.YtdllpklecdmghaaGreatDoor
open Go.RowKit
open Lk (Lt Sp)
set_option maxHeartbeats 8000000 in
theorem dO_any {b : Nat → Prop} (d : Nat) (l : Lt) (s : Sp) (ao sa pa : Option Addr) (cap sc pc : Nat) (w : World) (hk : Kd b w d (.slice ao l.kids.length cap) l.kids) (hsw : Sw w s (.slice sa s.sigs.length sc) (.slice pa s.pres.length pc)) : Calls Tryz.prog 21 #[.agg #[.int .u8 (l.kind : Int), St l.term, .int .i64 l.n, .slice ao l.kids.length cap], .agg #[.slice sa s.sigs.length sc, .slice pa s.pres.length pc], St s.msg, .int .i64 s.after, .int .i64 s.age] w fun e w' => e = .returned (.bool (opRes l s)) ∧ Below w.heap.size w w' := by
  obtain ⟨w0, hw0⟩ : ∃ w0, w0 = (w.alloc (.cells #[.int .u8 (l.kind : Int), St l.term, .int .i64 l.n, .slice ao l.kids.length cap] 25)).alloc (.cells #[.slice sa s.sigs.length sc, .slice pa s.pres.length pc] 40) := ⟨_, rfl⟩
  obtain ⟨hB0, hC0⟩ := box_lw l.kind l.term l.n ao l.kids.length cap sa pa s.sigs.length sc s.pres.length pc w w0 hw0
  have HCL := hid hC0
  have HR1 : Hid (Calls Tryz.prog 11 #[.agg #[.int .u8 (l.kind : Int), St l.term, .int .i64 l.n, .slice ao l.kids.length cap]] w0 fun e w' => e = .returned (.bool (Lk.right l)) ∧ Below w0.heap.size w0 w') := hid (dR_any d l _ w0 (hk.low hB0))
  have HOP : Hid (Lk.right l = true → ∀ W, Below w0.heap.size w0 W → Calls Tryz.prog 48 #[.agg #[.int .u8 (l.kind : Int), St l.term, .int .i64 l.n, .slice ao l.kids.length cap], .agg #[.slice sa s.sigs.length sc, .slice pa s.pres.length pc], St s.msg, .int .i64 s.after, .int .i64 s.age] W fun e w' => e = .returned (.bool (Lk.opn verifyRes s l)) ∧ Below w0.heap.size w0 w') := hid (fun h W hW => (dopens_any s sa pa _ sc _ pc d l _ W ((hk.low hB0).low hW) ((Lk.right_is l).1 h).1 ((hsw.low hB0).low hW)).mono (fun e w' ⟨h1, h2⟩ => ⟨h1, hW.trans (h2.mono hW.size)⟩))
  have HRES : Hid (opRes l s = (Lk.right l && decide (s.sigs.length ≤ 16) && decide (s.pres.length ≤ 16) && Lk.opn verifyRes s l)) := hid rfl
  have HB0 := hid hB0
  clear hk hsw hB0 hC0
  generalize opRes l s = RES at *
  generalize Lk.opn verifyRes s l = OP at *
  generalize Lk.right l = R at *
  generalize s.sigs.length = n1 at *
  generalize s.pres.length = n2 at *
  generalize s.msg = msg at *
  generalize s.after = af at *
  generalize s.age = ag at *
  go_enter Tryz.func21, Tryz.ntmps21
  go_wp2_with fail
  rw [← hw0]
  refine HR1.out.mono ?_
  rintro e w1 ⟨rfl, hb⟩
  obtain ⟨⟨q0, q1, q2, q3⟩, q4, q5⟩ := HCL.out w1 hb
  have HB1 : Hid (Below w.heap.size w w1) := hid (HB0.out.trans (hb.mono HB0.out.size))
  cases R with
  | false =>
    have HF : Hid (RES = false) := hid HRES.out
    clear hb HR1 HOP hw0 HCL HRES
    go_wp2_with fail
    go_ret
    exact ⟨by rw [HF.out]; rfl, HB1.out⟩
  | true =>
    have HO1 := hid (HOP.out rfl w1 hb)
    clear hb HR1 HOP hw0 HCL
    by_cases h1 : n1 ≤ 16
    · by_cases h2 : n2 ≤ 16
      · have i1 : (n1 : Int) ≤ 16 := by omega
        have i2 : (n2 : Int) ≤ 16 := by omega
        have HF : Hid (RES = OP) := hid (by rw [HRES.out]; simp [h1, h2])
        clear HRES h1 h2
        go_wp2_with fail
        refine HO1.out.mono ?_
        rintro e w2 ⟨rfl, hb2⟩
        have HB2 : Hid (Below w.heap.size w w2) := hid (HB0.out.trans (hb2.mono HB0.out.size))
        clear hb2 HO1 q0 q1 q2 q3 q4 q5
        go_wp2_with fail
        go_ret
        exact ⟨by rw [HF.out]; rfl, HB2.out⟩
      · have i1 : (n1 : Int) ≤ 16 := by omega
        have i2 : ¬ (n2 : Int) ≤ 16 := by omega
        have HF : Hid (RES = false) := hid (by rw [HRES.out]; simp [h2])
        clear HRES h1 h2 HO1
        go_wp2_with fail
        go_ret
        exact ⟨by rw [HF.out]; rfl, HB1.out⟩
    · have i1 : ¬ (n1 : Int) ≤ 16 := by omega
      have HF : Hid (RES = false) := hid (by rw [HRES.out]; simp [h1])
      clear HRES h1 HO1
      go_wp2_with fail
      go_ret
      exact ⟨by rw [HF.out]; rfl, HB1.out⟩
set_option maxRecDepth 100000 in
set_option maxHeartbeats 16000000 in
theorem opensL_any {b : Nat → Prop} (l : Lt) (s : Sp) (ao sa pa : Option Addr) (cap sc pc d : Nat) (w : World) (hp : Pw w) (hk : Kd b w d (.slice ao l.kids.length cap) l.kids) (hr : Lr l) (hsw : Sw w s (.slice sa s.sigs.length sc) (.slice pa s.pres.length pc)) (hml : s.msg.length ≤ 140737488355328) (l4 : ∀ x ∈ s.sigs, x.length ≤ 140737488355328) (l5 : ∀ x ∈ s.pres, x.length ≤ 140737488355328) :
    Calls Tryz.prog 5 #[.agg #[.int .u8 (l.kind : Int), St l.term, .int .i64 l.n, .slice ao l.kids.length cap], .agg #[.slice sa s.sigs.length sc, .slice pa s.pres.length pc], St s.msg, .int .i64 s.after, .int .i64 s.age] w fun e w' => e = .returned (.bool true) ∧ Below w.heap.size w w' := by
  obtain ⟨w0, hw0⟩ : ∃ w0, w0 = (w.alloc (.cells #[.int .u8 (l.kind : Int), St l.term, .int .i64 l.n, .slice ao l.kids.length cap] 25)).alloc (.cells #[.slice sa s.sigs.length sc, .slice pa s.pres.length pc] 40) := ⟨_, rfl⟩
  obtain ⟨hB0, hC0⟩ := box_lw l.kind l.term l.n ao l.kids.length cap sa pa s.sigs.length sc s.pres.length pc w w0 hw0
  have hswW : ∀ W, Below w0.heap.size w0 W → Sw W s (.slice sa s.sigs.length sc) (.slice pa s.pres.length pc) := fun W hW => (hsw.low hB0).low hW
  have hkW : ∀ W, Below w0.heap.size w0 W → Kd b W d (.slice ao l.kids.length cap) l.kids := fun W hW => (hk.low hB0).low hW
  have H1 : Hid (Calls Tryz.prog 7 #[.agg #[.int .u8 (l.kind : Int), St l.term, .int .i64 l.n, .slice ao l.kids.length cap], .int .i64 300] w0 fun e w' => e = .returned (.int .i64 (Lk.great 300 l : Int)) ∧ Below w0.heap.size w0 w') := hid (lsize_any 300 (by decide) d l _ w0 hr (hk.low hB0))
  have H2 : Hid (∀ W, Below w0.heap.size w0 W → Calls Tryz.prog 19 #[.agg #[.slice sa s.sigs.length sc, .slice pa s.pres.length pc], St s.msg] W fun e w' => LgE s.sigs s.pres s.msg e ∧ Below w0.heap.size w0 w') := hid (fun W hW => (large_any s.sigs s.pres s.msg sa pa sc pc W (hswW W hW).sigs (hswW W hW).pres hsw.sl hsw.pl hml l4 l5).mono (fun e w' ⟨h1, h2⟩ => ⟨h1, hW.trans (h2.mono hW.size)⟩))
  obtain ⟨B, hB⟩ : ∃ B, B = opRes l s := ⟨_, rfl⟩
  have H3 : Hid (∀ W, Below w0.heap.size w0 W → Calls Tryz.prog 20 #[.agg #[.int .u8 (l.kind : Int), St l.term, .int .i64 l.n, .slice ao l.kids.length cap], .agg #[.slice sa s.sigs.length sc, .slice pa s.pres.length pc], St s.msg, .int .i64 s.after, .int .i64 s.age] W fun e w' => e = .returned (.bool B) ∧ Below w0.heap.size w0 w') := hid (fun W hW => (lopens_any d l _ s _ _ W (hkW W hW) (hswW W hW)).mono (fun e w' ⟨h1, h2⟩ => ⟨by rw [hB]; exact h1, hW.trans (h2.mono hW.size)⟩))
  have H4 : Hid (∀ W, Below w0.heap.size w0 W → Calls Tryz.prog 21 #[.agg #[.int .u8 (l.kind : Int), St l.term, .int .i64 l.n, .slice ao l.kids.length cap], .agg #[.slice sa s.sigs.length sc, .slice pa s.pres.length pc], St s.msg, .int .i64 s.after, .int .i64 s.age] W fun e w' => e = .returned (.bool B) ∧ Below w0.heap.size w0 w') := hid (fun W hW => (dO_any d l s ao sa pa cap sc pc W (hkW W hW) (hswW W hW)).mono (fun e w' ⟨h1, h2⟩ => ⟨by rw [hB]; exact h1, hW.trans (h2.mono hW.size)⟩))
  have H5 : Hid (∀ W, Below w0.heap.size w0 W → Calls Tryz.prog 15 #[] W fun e w' => e = .returned (.bool true) ∧ Below w0.heap.size w0 w') := hid (fun W hW => (works_any W ((hp.below hB0).below hW)).mono (fun e w' ⟨h1, h2⟩ => ⟨h1, hW.trans (h2.mono hW.size)⟩))
  have HC0 := hid hC0
  have HB0 := hid hB0
  clear hk hr hsw hswW hkW hp hB hB0 hC0 hml l4 l5
  generalize Lk.great 300 l = gr at *
  have HLG : Hid (∀ e, LgE s.sigs s.pres s.msg e → e = .returned (.bool false) ∨ e = .returned (.bool true)) := hid (fun e h => by
    rcases h with h | h
    · exact .inl h.1
    · exact .inr h)
  generalize LgE s.sigs s.pres s.msg = LG at *
  generalize s.sigs.length = n1 at *
  generalize s.pres.length = n2 at *
  generalize l.kids.length = m at *
  generalize s.msg = msg at *
  generalize s.after = af at *
  generalize s.age = ag at *
  go_enter Tryz.func5, Tryz.ntmps5
  go_wp2_with fail
  rw [← hw0]
  clear hw0
  refine H1.out.mono ?_
  rintro e w1 ⟨rfl, hb⟩
  obtain ⟨⟨q0, q1, q2, q3⟩, q4, q5⟩ := HC0.out w1 hb
  have HB1 := hid hb
  clear hb H1
  by_cases h3 : (300 : Int) < (gr : Int)
  · have HZ := hid (HB0.out.trans (HB1.out.mono HB0.out.size))
    go_wp2_with fail
    go_ret
    exact ⟨rfl, HZ.out⟩
  · go_wp2_with fail
    refine (H2.out w1 HB1.out).mono ?_
    rintro e w2 ⟨hlg, hb⟩
    have HB2 := hid hb
    clear q0 q1 q2 q3 q4 q5 hb H2
    rcases HLG.out e hlg with rfl | rfl
    · obtain ⟨⟨q0, q1, q2, q3⟩, q4, q5⟩ := HC0.out w2 HB2.out
      have hs0 : w2.cell? ⟨w.heap.size, 0, none⟩ = some (.int .u8 (l.kind : Int)) ∧ w2.cell? ⟨w.heap.size, 1, none⟩ = some (St l.term) ∧ w2.cell? ⟨w.heap.size, 2, none⟩ = some (.int .i64 l.n) ∧ w2.cell? ⟨w.heap.size, 3, none⟩ = some (.slice ao m cap) ∧ w2.cell? ⟨w.heap.size + 1, 0, none⟩ = some (.slice sa n1 sc) ∧ w2.cell? ⟨w.heap.size + 1, 1, none⟩ = some (.slice pa n2 pc) := ⟨q0, q1, q2, q3, q4, q5⟩
      have HCW : Hid (∀ wq, Below w0.heap.size w0 wq → wq.cell? ⟨w.heap.size, 0, none⟩ = some (.int .u8 (l.kind : Int)) ∧ wq.cell? ⟨w.heap.size, 1, none⟩ = some (St l.term) ∧ wq.cell? ⟨w.heap.size, 2, none⟩ = some (.int .i64 l.n) ∧ wq.cell? ⟨w.heap.size, 3, none⟩ = some (.slice ao m cap) ∧ wq.cell? ⟨w.heap.size + 1, 0, none⟩ = some (.slice sa n1 sc) ∧ wq.cell? ⟨w.heap.size + 1, 1, none⟩ = some (.slice pa n2 pc)) := hid (fun wq hW => by
        obtain ⟨⟨a0, a1, a2, a3⟩, a4, a5⟩ := HC0.out wq hW
        exact ⟨a0, a1, a2, a3, a4, a5⟩)
      clear hlg HLG
      go_wp2_with fail
      clear q0 q1 q2 q3 q4 q5
      go_region_held3 (fun wq : World => wq.cell? ⟨w.heap.size, 0, none⟩ = some (.int .u8 (l.kind : Int)) ∧ wq.cell? ⟨w.heap.size, 1, none⟩ = some (St l.term) ∧ wq.cell? ⟨w.heap.size, 2, none⟩ = some (.int .i64 l.n) ∧ wq.cell? ⟨w.heap.size, 3, none⟩ = some (.slice ao m cap) ∧ wq.cell? ⟨w.heap.size + 1, 0, none⟩ = some (.slice sa n1 sc) ∧ wq.cell? ⟨w.heap.size + 1, 1, none⟩ = some (.slice pa n2 pc)) (first | exact hs0 | exact HCW.out _ HXc.out | exact HCW.out _ HXb.out | exact HCW.out _ HXa.out | exact HCW.out _ (HB2.out.trans ((below_dr _).mono HB2.out.size))) (first | (go_at_call 20; refine (H3.out _ (HB2.out.trans ((below_dr _).mono HB2.out.size))).mono ?_; rintro e xa ⟨rfl, hb⟩; have HXa := hid hb; clear hb) | (go_at_call 21; refine (H4.out _ HXa.out).mono ?_; rintro e xb ⟨rfl, hb⟩; have HXb := hid hb; clear hb) | (go_at_call 15; refine (H5.out _ HXb.out).mono ?_; rintro e xc ⟨rfl, hb⟩; have HXc := hid hb; clear hb))
      have HZ := hid (HB0.out.trans (HXc.out.mono HB0.out.size))
      go_wp2_with fail
      go_ret
      exact ⟨rfl, HZ.out⟩
    · have HZ := hid (HB0.out.trans (HB2.out.mono HB0.out.size))
      clear hlg HLG
      go_wp2_with fail
      go_ret
      exact ⟨rfl, HZ.out⟩
end Go.Proofs.YtdllpklecdmghaaGreatDoor
