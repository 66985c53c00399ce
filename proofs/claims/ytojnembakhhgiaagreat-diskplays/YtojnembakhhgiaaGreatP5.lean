/- One call of a row, on a disk and on the document's: Read. -/
import Derived.Test.YtojnembakhhgiaaGreatPbAll
namespace Go.Proofs.YtojnembakhhgiaaGreat
open Go.RowKit

theorem text_bo {W : World} {v : Value} {b : Bs} (h : Bo W v b) : (convert 47 9 v).run Tryz.prog W = .ok (St b) W := by
  obtain ⟨ao, cap, rfl, h2⟩ := h
  rcases Nat.eq_zero_or_pos b.length with h0 | h0
  · obtain rfl := List.eq_nil_of_length_eq_zero h0
    cases ao with
    | none => first | kernel_rfl | go_simp
    | some ad => exact run_convert_bytes_back (P := Tryz.prog) W 47 9 5 ad cap [] Tryz.underlying47 Tryz.underlying5 Tryz.underlying9 (fun j hj => by simp at hj)
  · obtain ⟨g, o, rfl, hr⟩ := h2 h0
    exact run_convert_bytes_back (P := Tryz.prog) W 47 9 5 ⟨g, o, none⟩ cap b Tryz.underlying47 Tryz.underlying5 Tryz.underlying9 (fun j hj => by
      rw [Addr.add_mid]
      have := hr j (.int .u8 (b[j].toNat : Int)) (by simp [bcs, hj])
      simpa using this)
theorem readDk_len {s : Ds} (h : Dok s) (n : Bs) (p : Int) : (readDk s n p).1.length ≤ 256 := by
  unfold readDk
  split
  · exact Nat.zero_le _
  · split
    · exact Nat.zero_le _
    · rename_i f hf
      split
      · exact Nat.zero_le _
      · have hp := pages_ok h (find_mem hf).1
        show ((pagesOf s f).getD p.toNat []).length ≤ 256
        rw [List.getD_eq_getElem?_getD]
        cases e : (pagesOf s f)[p.toNat]? with
        | none => exact Nat.zero_le _
        | some x => exact Nat.le_of_eq (hp x (List.mem_of_getElem? e))
/-- what is left while the answer is written over -/
def Rd5 (J K0 : Nat → Prop) (w0 : World) (n1 : Nat) (d q : Nat) (s t : Ds) (ao : Option Addr) (n : Nat) (W : World) : Prop := Pr J (fun g => K0 g ∨ (w0.heap.size ≤ g ∧ g < n1)) W d q s t ∧ Kj J K0 w0 W ∧ (0 < n → ∃ g ty cs, ao = some ⟨g, 0, none⟩ ∧ W.heap[g]? = some (.cells cs ty (0, 0)) ∧ cs.size = n ∧ w0.heap.size ≤ g ∧ g < n1)
set_option maxRecDepth 100000 in
set_option maxHeartbeats 8000000 in
theorem plays5 {J K : Nat → Prop} {w : World} {d q : Nat} {s t : Ds} (h : Pr J K w d q s t) (hs : Sm 1 s) (ht : Sm 1 t) (x : Ox) (hx : Oxr x) (hk : x.kind % 11 = 5) : Calls Tryz.prog 10 #[.pointer (some ⟨d, 0, none⟩), .pointer (some ⟨q, 0, none⟩), .agg (xcs x)] w (PlE J K w d q s t s t) := by
  obtain ⟨kd, nm, to, pg, lg, fl, kp⟩ := x
  obtain ⟨hkd, hnm, hto, hpg, hlg, hkp⟩ := hx
  simp only at hk hkd hnm hto hpg hlg hkp ⊢
  unfold xcs
  obtain ⟨w0, hw0⟩ : ∃ w0, w0 = w.alloc (.cells #[.int .u8 (kd : Int), St nm, St to, .int .i64 pg, .int .u16 (lg : Int), .int .u8 (fl.toNat : Int), .int .u64 (kp : Int)] 31) := ⟨_, rfl⟩
  obtain ⟨bx, hbx⟩ : ∃ bx, bx = w.heap.size := ⟨_, rfl⟩
  have hB0 : Below w.heap.size w w0 := hw0 ▸ (Below.refl _ _).alloc (Nat.le_refl _) _
  have hb0 : w0.heap[bx]? = some (.cells #[.int .u8 (kd : Int), St nm, St to, .int .i64 pg, .int .u16 (lg : Int), .int .u8 (fl.toNat : Int), .int .u64 (kp : Int)] 31 (0, 0)) := by rw [hw0, hbx]; exact heap_alloc_new w _
  have h0 := h.grow hB0
  obtain ⟨K0, hK0⟩ : ∃ K0 : Nat → Prop, K0 = fun g => K g ∨ (w.heap.size ≤ g ∧ g < w0.heap.size) := ⟨_, rfl⟩
  rw [← hK0] at h0
  have hKx : K0 bx := by rw [hK0]; exact .inr ⟨by omega, lt_of_block hb0⟩
  have HFR : Hid (∀ W s' t', Pr J K0 W d q s' t' → Kj J K0 w0 W → Pr J K W d q s' t' ∧ Kj J K w W) := hid (fun W s' t' h1 h2 => ⟨h1.less (fun g hg => by rw [hK0]; exact .inl hg), (below_kj hB0 (fun g hg => h.lt hg) (fun g hg => h.jt hg)).trans (h2.less (fun g hg => by rw [hK0]; exact .inl hg))⟩)
  have HBX : Hid (∀ W, Kj J K0 w0 W → W.heap[bx]? = some (.cells #[.int .u8 (kd : Int), St nm, St to, .int .i64 pg, .int .u16 (lg : Int), .int .u8 (fl.toNat : Int), .int .u64 (kp : Int)] 31 (0, 0))) := hid (fun W h2 => (h2.blk bx hKx).trans hb0)
  have hrem : (kd : Int) % 11 = 5 := by omega
  have HS0 := hid hs
  have HT0 := hid ht
  obtain ⟨A, hA⟩ : ∃ A, A = (readDk s nm pg).1 := ⟨_, rfl⟩
  obtain ⟨B, hBq⟩ : ∃ B, B = (readDk t nm pg).1 := ⟨_, rfl⟩
  obtain ⟨e1, he1⟩ : ∃ e1 : Int, e1 = ((readDk s nm pg).2 : Int) := ⟨_, rfl⟩
  obtain ⟨e2, he2⟩ : ∃ e2 : Int, e2 = ((readDk t nm pg).2 : Int) := ⟨_, rfl⟩
  have hAl : A.length ≤ 256 := by
    rw [hA]
    exact readDk_len h.ok.1 nm pg
  have HE : Hid (s = t → A = B ∧ e1 = e2) := hid (fun e => by rw [hA, hBq, he1, he2, e]; exact ⟨rfl, rfl⟩)
  have hKl : ∀ g, K0 g → g < w0.heap.size := fun g hg => h0.lt hg
  have hJl : ∀ g, J g → g < w0.heap.size := fun g hg => h0.jt hg
  have HD : Hid (Calls Tryz.prog 21 #[.pointer (some ⟨d, 0, none⟩), St nm, .int .i64 pg] w0 fun e w' => ∃ ao, e = .returned (.tuple #[.slice ao A.length A.length, .int .i64 e1]) ∧ Br w' (.slice ao A.length A.length) A ∧ (0 < A.length → ∃ g ty cs, ao = some ⟨g, 0, none⟩ ∧ w'.heap[g]? = some (.cells cs ty (0, 0)) ∧ cs.size = A.length ∧ w0.heap.size ≤ g) ∧ Below w0.heap.size w0 w') := hid (by
    refine (pd_read h0 nm hnm pg hpg).mono ?_
    rintro e w' ⟨⟨v, rfl, hv⟩, hB⟩
    rw [← hA] at hv
    rw [← he1]
    have hbr := hv.br
    rcases hv with ⟨r1, r2⟩ | ⟨g, ty, r1, r2, r3⟩
    · rw [r2] at hbr ⊢
      rw [r1] at hbr ⊢
      exact ⟨none, rfl, hbr, fun h => (by simp at h), hB⟩
    · rw [r1] at hbr ⊢
      exact ⟨_, rfl, hbr, fun _ => ⟨g, ty, _, rfl, r2, by simp [bcs], r3⟩, hB⟩)
  have HM : Hid (∀ w1, Below w0.heap.size w0 w1 → Calls Tryz.prog 33 #[.pointer (some ⟨q, 0, none⟩), St nm, .int .i64 pg] w1 fun e w' => ∃ av bv cv, e = .returned (.tuple #[.slice av bv cv, .int .i64 e2]) ∧ (convert 47 9 (.slice av bv cv)).run Tryz.prog w' = .ok (St B) w' ∧ Below w1.heap.size w1 w') := hid (fun w1 hB1 => by
    refine (pm_read (h0.low hB1) nm pg hpg).mono ?_
    rintro e w' ⟨⟨v, rfl, hv, _⟩, hB⟩
    rw [← hBq] at hv
    rw [← he2]
    have htx := text_bo hv
    obtain ⟨ao, cap, rfl, _⟩ := hv
    exact ⟨ao, _, cap, rfl, htx, hB⟩)
  have HT : Hid (∀ w1 w2 ao, Below w0.heap.size w0 w1 → Below w1.heap.size w1 w2 → (0 < A.length → ∃ g ty cs, ao = some ⟨g, 0, none⟩ ∧ w1.heap[g]? = some (.cells cs ty (0, 0)) ∧ cs.size = A.length ∧ w0.heap.size ≤ g) → Rd5 J K0 w0 w1.heap.size d q s t ao A.length w2) := hid (fun w1 w2 ao hB1 hB2 hao => by
    have p1 := (h0.grow hB1).low hB2
    refine ⟨p1, (below_kj hB1 hKl hJl).trans (below_kj hB2 (fun g hg => Nat.lt_of_lt_of_le (hKl g hg) hB1.size) (fun g hg => Nat.lt_of_lt_of_le (hJl g hg) hB1.size)), fun h => ?_⟩
    obtain ⟨g, ty, cs, r1, r2, r3, r4⟩ := hao h
    exact ⟨g, ty, cs, r1, (hB2.block g (lt_of_block r2)).trans r2, r3, r4, lt_of_block r2⟩)
  have HBR : Hid (∀ w1 w2 ao, Br w1 (.slice ao A.length A.length) A → Below w1.heap.size w1 w2 → (convert 47 9 (.slice ao A.length A.length)).run Tryz.prog w2 = .ok (St A) w2) := hid (fun w1 w2 ao hb hB => text_bo (hb.bo.low hB))
  have HEND : Hid (∀ w1 W ao, Rd5 J K0 w0 w1 d q s t ao A.length W → Pr J K W d q s t ∧ Kj J K w W) := hid (fun w1 W ao hR => HFR.out W s t (hR.1.less (fun g hg => .inl hg)) hR.2.1)
  have HST : Hid (∀ w1 W ao (j : Nat) (v : Value), Rd5 J K0 w0 w1 d q s t ao A.length W → j < A.length → ∃ g, ao = some ⟨g, 0, none⟩ ∧ (∃ u, W.cell? ⟨g, j, none⟩ = some u) ∧ W.frozen? ⟨g, j, none⟩ = false ∧ Rd5 J K0 w0 w1 d q s t ao A.length (W.setCell ⟨g, j, none⟩ v)) := hid (fun w1 W ao j v hR hj => by
    obtain ⟨p1, p2, p3⟩ := hR
    obtain ⟨g, ty, cs, r1, r2, r3, r4, r5⟩ := p3 (by omega)
    refine ⟨g, r1, ⟨cs[j]'(by omega), by rw [cell_of_heap r2]; exact Array.getElem?_eq_getElem (by omega)⟩, frozen_of_heap r2 j, p1.own (g := g) (.inr ⟨r4, r5⟩) (Kf.set _ (by simp) _ _), p2.trans ⟨rfl, rfl, rfl, by simp [World.setCell], fun k hk => Below.heap_setCell _ _ _ _ (fun e => ?_), fun k hk => Below.heap_setCell _ _ _ _ (fun e => by have := hJl k hk; have e : k = g := e; omega)⟩, fun _ => ⟨g, ty, _, r1, heap_setCell_same r2 j v, by simpa using r3, r4, r5⟩⟩
    have := hKl k hk
    have e : k = g := e
    omega)
  generalize A.length = n at *
  obtain ⟨fl, hfl⟩ : ∃ f : Int, f = (fl.toNat : Int) := ⟨_, rfl⟩
  rw [← hfl] at hb0 hw0 HBX ⊢
  have HB0 := hid hb0
  have HN := hid hAl
  have HKL := hid hKl
  have HJL := hid hJl
  clear h h0 hs ht hB0 hb0 hK0 hfl hKx hnm hto hpg hlg hkp hk hA hBq he1 he2 hAl hKl hJl HFR
  go_enter Tryz.func10, Tryz.ntmps10
  go_wp2_with fail
  rw [← hw0]
  refine HD.out.mono ?_
  rintro e w1 ⟨ao, rfl, hbr, hao, hB1⟩
  have c1 : w1.cell? ⟨w.heap.size, 1, none⟩ = some (St nm) := by rw [← hbx]; exact (cell_of_heap (HBX.out w1 (below_kj hB1 HKL.out HJL.out)) 1).trans rfl
  have c3 : w1.cell? ⟨w.heap.size, 3, none⟩ = some (.int .i64 pg) := by rw [← hbx]; exact (cell_of_heap (HBX.out w1 (below_kj hB1 HKL.out HJL.out)) 3).trans rfl
  have HM1 := hid (HM.out w1 hB1)
  have HBR1 := hid (fun w2 => HBR.out w1 w2 ao hbr)
  have HT1 := hid (fun w2 hb => HT.out w1 w2 ao hB1 hb hao)
  clear hw0 hbr hao hB1
  go_wp2_with fail
  refine HM1.out.mono ?_
  rintro e w2 ⟨av, bv, cv, rfl, hc2, hB2⟩
  have hc1 := HBR1.out w2 hB2
  have HT2 := hid (HT1.out w2 hB2)
  clear hB2 c1 c3
  by_cases hAB : A = B
  · subst hAB
    obtain ⟨bb, hbb⟩ : ∃ bb, bb = (e1 == e2) := ⟨_, rfl⟩
    have HBB : Hid (s = t → bb = true) := hid (fun e => by rw [hbb, (HE.out e).2]; simp)
    go_wp2_with fail
    rw [← hbb]
    clear hbb hc1 hc2
    go_loopg [16] n (fun gg vj wr => ∃ j : Nat, gg = n - j ∧ j ≤ n ∧ vj = .int .i64 (j : Int) ∧ Rd5 J K0 w0 w1.heap.size d q s t ao n wr)
    case atStart => exact ⟨0, rfl, Nat.zero_le _, rfl, HT2.out⟩
    case round =>
      obtain ⟨j, rfl, hj, rfl, hT⟩ := hrel
      by_cases hjl : j < n
      · obtain ⟨g, hg, ⟨u, hu⟩, hf, hN⟩ := HST.out w1.heap.size wr ao j (.int .u8 238) hT hjl
        have HNX := hid hN
        have hjw : IntKind.i64.wrap ((j : Int) + 1) = ((j + 1 : Nat) : Int) := by rw [IntKind.wrap_i64]; have := HN.out; omega
        have hj0 : (0 : Int) ≤ (j : Int) := Int.natCast_nonneg _
        have hj1 : (j : Int) < (n : Int) := by omega
        have HJ := hid hjl
        clear hN hT hj hjl
        subst hg
        go_wp2_with fail
        go_roundg (n - (j + 1))
        case measure => have := HJ.out; omega
        case rel => exact ⟨j + 1, rfl, HJ.out, rfl, HNX.out⟩
      · have hje : j = n := by omega
        subst hje
        have HT4 := hid hT
        have hjn : ¬ (j : Int) < (j : Int) := by omega
        clear hT hj hjl
        go_wp2_with fail
        go_ret
        exact PlE.mk (b := bb) rfl HBB.out (HEND.out _ _ _ HT4.out)
  · have hAB' : (A == B) = false := by simpa using hAB
    have HBB : Hid (s = t → false = true) := hid (fun e => absurd (HE.out e).1 hAB)
    go_wp2_with fail
    clear hc1 hc2
    go_loopg [16] n (fun gg vj wr => ∃ j : Nat, gg = n - j ∧ j ≤ n ∧ vj = .int .i64 (j : Int) ∧ Rd5 J K0 w0 w1.heap.size d q s t ao n wr)
    case atStart => exact ⟨0, rfl, Nat.zero_le _, rfl, HT2.out⟩
    case round =>
      obtain ⟨j, rfl, hj, rfl, hT⟩ := hrel
      by_cases hjl : j < n
      · obtain ⟨g, hg, ⟨u, hu⟩, hf, hN⟩ := HST.out w1.heap.size wr ao j (.int .u8 238) hT hjl
        have HNX := hid hN
        have hjw : IntKind.i64.wrap ((j : Int) + 1) = ((j + 1 : Nat) : Int) := by rw [IntKind.wrap_i64]; have := HN.out; omega
        have hj0 : (0 : Int) ≤ (j : Int) := Int.natCast_nonneg _
        have hj1 : (j : Int) < (n : Int) := by omega
        have HJ := hid hjl
        clear hN hT hj hjl
        subst hg
        go_wp2_with fail
        go_roundg (n - (j + 1))
        case measure => have := HJ.out; omega
        case rel => exact ⟨j + 1, rfl, HJ.out, rfl, HNX.out⟩
      · have hje : j = n := by omega
        subst hje
        have HT4 := hid hT
        have hjn : ¬ (j : Int) < (j : Int) := by omega
        clear hT hj hjl
        go_wp2_with fail
        go_ret
        exact PlE.mk (b := false) rfl HBB.out (HEND.out _ _ _ HT4.out)
end Go.Proofs.YtojnembakhhgiaaGreat
