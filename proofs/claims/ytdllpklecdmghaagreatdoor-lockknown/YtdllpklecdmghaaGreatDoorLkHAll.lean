import Derived.Test.YtdllpklecdmghaaGreatDoorKaAll
import Derived.Test.YtdllpklecdmghaaGreatDoorLkD
/- Locks held against each other, and how great they are. -/
namespace Go.Proofs.YtdllpklecdmghaaGreatDoor
open Go.RowKit
open Lk (Lt)
namespace Lk
mutual
def great (top : Nat) : Lt → Nat
  | .mk _ t _ ks => min (greats top (1 + t.length / 64) ks) (top + 1)
def greats (top : Nat) (n : Nat) : List Lt → Nat
  | [] => n
  | x :: ks => if n ≤ top then greats top (n + great top x) ks else n
end
theorem great_le (top : Nat) (l : Lt) : great top l ≤ top + 1 := by
  cases l
  rw [great]
  omega
theorem greats_over (top : Nat) : ∀ (ks : List Lt) (n : Nat), top < n → greats top n ks = n
  | [], n, _ => rfl
  | x :: ks, n, h => by rw [greats, if_neg (by omega)]
end Lk
set_option maxHeartbeats 4000000 in
theorem lsize_any {b : Nat → Prop} (top : Nat) (ht : top ≤ 1000) (d : Nat) : ∀ (l : Lt) (kv : Value) (w : World), Lr l → Kd b w d kv l.kids → Calls Tryz.prog 7 #[.agg (lcs l kv), .int .i64 (top : Int)] w fun e w' => e = .returned (.int .i64 (Lk.great top l : Int)) ∧ Below w.heap.size w w' := by
  induction d using Nat.strongRecOn with
  | ind d ih =>
    intro l kv w hr hk
    obtain ⟨kd, t, n, ks⟩ := l
    obtain ⟨hl, ao, cap, rfl, hks⟩ := hk.parts
    clear hk
    have hl : ks.length ≤ 140737488355328 := hl
    have hks : Kr b w d ao ks := hks
    have htl : t.length ≤ 140737488355328 := hr.term
    show Calls Tryz.prog 7 #[.agg #[.int .u8 (kd : Int), St t, .int .i64 n, .slice ao ks.length cap], .int .i64 (top : Int)] w fun e w' => e = .returned (.int .i64 (Lk.great top (.mk kd t n ks) : Int)) ∧ Below w.heap.size w w'
    have HGR : Hid (Lk.great top (.mk kd t n ks) = min (Lk.greats top (1 + t.length / 64) ks) (top + 1)) := hid rfl
    obtain ⟨R, hR⟩ : ∃ R, R = Lk.great top (.mk kd t n ks) := ⟨_, rfl⟩
    rw [← hR] at HGR ⊢
    obtain ⟨m, hm⟩ : ∃ m, m = ks.length := ⟨_, rfl⟩
    rw [← hm] at hl ⊢
    obtain ⟨s0, hs0⟩ : ∃ s0, s0 = 1 + t.length / 64 := ⟨_, rfl⟩
    rw [← hs0] at HGR
    have HS5 : Hid (wrap64 (1 + wrap64 ((t.length : Int) / 64)) = (s0 : Int)) := hid (by
      have h1 : wrap64 ((t.length : Int) / 64) = ((t.length / 64 : Nat) : Int) := by unfold wrap64; omega
      rw [h1]
      unfold wrap64
      omega)
    have HS0 : Hid (s0 ≤ 10000000000000) := hid (by omega)
    have HM := hid hm
    have HKS := hid hks
    have HL := hid hl
    have HT := hid ht
    have HIH := hid ih
    have htw : IntKind.i64.wrap ((top : Int) + 1) = ((top + 1 : Nat) : Int) := by rw [IntKind.wrap_i64]; omega
    clear hks hm ih hR hr htl hs0 hl
    obtain ⟨w0, hw0⟩ : ∃ w0, w0 = w.alloc (.cells #[.int .u8 (kd : Int), St t, .int .i64 n, .slice ao m cap] 25) := ⟨_, rfl⟩
    have HB0 : Hid (Below w.heap.size w w0) := hid (by rw [hw0]; exact below_al _ _)
    have HC0 : Hid (∀ W, Below w0.heap.size w0 W → W.cell? ⟨w.heap.size, 3, none⟩ = some (.slice ao m cap)) := hid (fun W hW => cell_later hW (by rw [hw0]; exact (cell_of_heap (heap_alloc_new w _) 3).trans rfl))
    go_enter Tryz.func7, Tryz.ntmps7
    go_wp2_with fail
    rw [← hw0]
    clear hw0
    simp only [HS5.out]
    go_loopg [5, 6] m (fun gg v5 v6 wr => ∃ i q : Nat, gg = m - i ∧ i ≤ m ∧ v5 = .int .i64 (q : Int) ∧ v6 = .int .i64 (i : Int) ∧ q ≤ 10000000000000 ∧ Lk.greats top s0 ks = Lk.greats top q (ks.drop i) ∧ Below w0.heap.size w0 wr)
    case atStart => exact ⟨0, s0, rfl, Nat.zero_le _, rfl, rfl, HS0.out, rfl, Below.refl _ _⟩
    case round =>
      obtain ⟨i, q, rfl, hi, rfl, rfl, hq, hgr, hB⟩ := hrel
      have c3 := HC0.out wr hB
      have hBw : Below w.heap.size w wr := HB0.out.trans (hB.mono HB0.out.size)
      by_cases him : i < m ∧ q ≤ top
      · have hik : i < ks.length := by have := HM.out; omega
        have hks' : Kr b wr d ao ks := HKS.out.low hBw
        obtain ⟨g, o, hg, _, hc⟩ := hks' (show 0 < ks.length by omega)
        subst hg
        obtain ⟨kv, hcs, hlr, d', hd', hkd⟩ := hc i hik
        obtain ⟨x, hx⟩ : ∃ x, x = ks[i] := ⟨_, rfl⟩
        rw [← hx] at hcs hlr hkd
        obtain ⟨_, a2, c2, rfl⟩ := hkd.shape
        have e0 : wr.cell? ⟨g, o + i * 4, none⟩ = some (.int .u8 (x.kind : Int)) := hcs 0 _ rfl
        have e1 : wr.cell? ⟨g, o + i * 4 + 1, none⟩ = some (St x.term) := hcs 1 _ rfl
        have e2 : wr.cell? ⟨g, o + i * 4 + 2, none⟩ = some (.int .i64 x.n) := hcs 2 _ rfl
        have e3 : wr.cell? ⟨g, o + i * 4 + 3, none⟩ = some (.slice a2 x.kids.length c2) := hcs 3 _ rfl
        have HCA : Hid (Calls Tryz.prog 7 #[.agg #[.int .u8 (x.kind : Int), St x.term, .int .i64 x.n, .slice a2 x.kids.length c2], .int .i64 (top : Int)] wr fun e w' => e = .returned (.int .i64 (Lk.great top x : Int)) ∧ Below w0.heap.size w0 w') := hid ((HIH.out d' hd' x _ wr hlr hkd).mono (fun e w' ⟨h1, h2⟩ => ⟨h1, hB.trans (h2.mono hB.size)⟩))
        have HGX := hid (Lk.great_le top x)
        have HNX : Hid (Lk.greats top s0 ks = Lk.greats top (q + Lk.great top x) (ks.drop (i + 1))) := hid (by
          rw [hgr, List.drop_eq_getElem_cons hik, Lk.greats, if_pos him.2, ← hx])
        generalize Lk.great top x = gx at *
        have hiw : IntKind.i64.wrap ((i : Int) + 1) = ((i + 1 : Nat) : Int) := by rw [IntKind.wrap_i64]; have := HL.out; omega
        have hqw : IntKind.i64.wrap ((q : Int) + (gx : Int)) = ((q + gx : Nat) : Int) := by rw [IntKind.wrap_i64]; have := HGX.out; have := HT.out; omega
        have hi0 : (0 : Int) ≤ (i : Int) := Int.natCast_nonneg _
        have hi1 : (i : Int) < (m : Int) := by omega
        have hqt : (q : Int) ≤ (top : Int) := by omega
        have HI := hid him
        have HQB : Hid (q + gx ≤ 10000000000000) := hid (by have := HGX.out; have := HT.out; omega)
        clear hcs hlr hkd hc hik him hi hx hgr hB hBw hks' hq
        go_wp2_with fail
        refine HCA.out.mono ?_
        rintro e w2 ⟨rfl, hb2⟩
        have HB2 := hid hb2
        clear hb2 HCA
        go_wp2_with fail
        go_roundg (m - (i + 1))
        case measure => have := HI.out; omega
        case rel => exact ⟨i + 1, q + gx, rfl, by have := HI.out; omega, rfl, rfl, HQB.out, HNX.out, HB2.out⟩
      · have HE : Hid (R = min q (top + 1)) := hid (by
          rw [HGR.out, hgr]
          by_cases h1 : i < m
          · rw [Lk.greats_over top _ q (by omega)]
          · rw [List.drop_of_length_le (by have := HM.out; omega), Lk.greats])
        have HBE := hid hBw
        by_cases h1 : i < m
        · have hi1 : (i : Int) < (m : Int) := by omega
          have hqt : ¬ (q : Int) ≤ (top : Int) := by omega
          clear hgr hB hBw hi him hq
          go_wp2_with fail
          all_goals
            go_ret
            refine ⟨?_, HBE.out⟩
            rw [HE.out]
            refine congrArg (fun z => Ending.returned (Value.int .i64 z)) ?_
            omega
        · have hi1 : ¬ (i : Int) < (m : Int) := by omega
          clear hgr hB hBw hi him hq
          go_wp2_with fail
          all_goals
            go_ret
            refine ⟨?_, HBE.out⟩
            rw [HE.out]
            refine congrArg (fun z => Ending.returned (Value.int .i64 z)) ?_
            omega
end Go.Proofs.YtdllpklecdmghaaGreatDoor
/- Two locks held against each other. -/
namespace Go.Proofs.YtdllpklecdmghaaGreatDoor
open Go.RowKit
open Lk (Lt)
theorem same_ne {a b : Lt} (h : a ≠ b) : Lk.same a b = false := by
  cases hs : Lk.same a b with
  | false => rfl
  | true => exact absurd ((Lk.same_iff a b).1 hs) h
set_option maxHeartbeats 8000000 in
theorem slock_any {b1 b2 : Nat → Prop} (d : Nat) : ∀ (l m : Lt) (kv mv : Value) (d2 : Nat) (w : World), Kd b1 w d kv l.kids → Kd b2 w d2 mv m.kids → Calls Tryz.prog 18 #[.agg (lcs l kv), .agg (lcs m mv)] w fun e w' => e = .returned (.bool (Lk.same l m)) ∧ Below w.heap.size w w' := by
  induction d using Nat.strongRecOn with
  | ind d ih =>
    intro l m kv mv d2 w hk hk2
    obtain ⟨kd, t, n, ks⟩ := l
    obtain ⟨kd2, t2, n2, ks2⟩ := m
    obtain ⟨hl, ao, cap, rfl, hks⟩ := hk.parts
    obtain ⟨_, ao2, cap2, rfl, hks2⟩ := hk2.parts
    clear hk hk2
    have hl : ks.length ≤ 140737488355328 := hl
    have hks : Kr b1 w d ao ks := hks
    have hks2 : Kr b2 w d2 ao2 ks2 := hks2
    show Calls Tryz.prog 18 #[.agg #[.int .u8 (kd : Int), St t, .int .i64 n, .slice ao ks.length cap], .agg #[.int .u8 (kd2 : Int), St t2, .int .i64 n2, .slice ao2 ks2.length cap2]] w fun e w' => e = .returned (.bool (Lk.same (.mk kd t n ks) (.mk kd2 t2 n2 ks2))) ∧ Below w.heap.size w w'
    have HNE : Hid (∀ P : Prop, (Lt.mk kd t n ks = Lt.mk kd2 t2 n2 ks2 → P) → ¬ P → Lk.same (.mk kd t n ks) (.mk kd2 t2 n2 ks2) = false) := hid (fun P h1 h2 => same_ne (fun e => h2 (h1 e)))
    have HEQ : Hid (Lt.mk kd t n ks = Lt.mk kd2 t2 n2 ks2 → Lk.same (.mk kd t n ks) (.mk kd2 t2 n2 ks2) = true) := hid (fun e => (Lk.same_iff _ _).2 e)
    obtain ⟨R, hR⟩ : ∃ R, R = Lk.same (.mk kd t n ks) (.mk kd2 t2 n2 ks2) := ⟨_, rfl⟩
    rw [← hR] at HNE HEQ ⊢
    clear hR
    obtain ⟨p, hp⟩ : ∃ p, p = ks.length := ⟨_, rfl⟩
    obtain ⟨q, hq⟩ : ∃ q, q = ks2.length := ⟨_, rfl⟩
    rw [← hp] at hl ⊢
    rw [← hq]
    have HP := hid hp
    have HQ := hid hq
    have HKS := hid hks
    have HKS2 := hid hks2
    have HL := hid hl
    have HIH := hid ih
    clear hks hks2 hp hq ih hl
    have hbb : ∀ o1 o2 : Obj, Below w.heap.size w ((w.alloc o1).alloc o2) := fun o1 o2 => (below_al w o1).trans ((below_al _ o2).mono (below_al w o1).size)
    have HBB := hid hbb
    clear hbb
    by_cases h1 : (kd : Int) = (kd2 : Int)
    · by_cases h2 : t = t2
      · by_cases h3 : n = n2
        · by_cases h4 : (p : Int) = (q : Int)
          · have h1' : kd = kd2 := by omega
            have h4' : p = q := by omega
            subst h1' h2 h3 h4'
            clear h1 h4
            have HEN : Hid ((∀ i (h : i < ks.length) (h' : i < ks2.length), ks[i] = ks2[i]) → R = true) := hid (fun h => HEQ.out (by
              rw [show ks = ks2 from List.ext_getElem (by rw [← HP.out, ← HQ.out]) h]))
            obtain ⟨w0, hw0⟩ : ∃ w0, w0 = (w.alloc (.cells #[.int .u8 (kd : Int), St t, .int .i64 n, .slice ao p cap] 25)).alloc (.cells #[.int .u8 (kd : Int), St t, .int .i64 n, .slice ao2 p cap2] 25) := ⟨_, rfl⟩
            have HB0 : Hid (Below w.heap.size w w0) := hid (by rw [hw0]; exact HBB.out _ _)
            have HC0 : Hid (∀ W, Below w0.heap.size w0 W → W.cell? ⟨w.heap.size, 3, none⟩ = some (.slice ao p cap) ∧ W.cell? ⟨w.heap.size + 1, 3, none⟩ = some (.slice ao2 p cap2)) := hid (fun W hW => ⟨cell_later hW (by rw [hw0]; exact cell_later (below_al _ _) ((cell_of_heap (heap_alloc_new w _) 3).trans rfl)), cell_later hW (by
              rw [hw0]
              have h := heap_alloc_new (w.alloc (.cells #[.int .u8 (kd : Int), St t, .int .i64 n, .slice ao p cap] 25)) (.cells #[.int .u8 (kd : Int), St t, .int .i64 n, .slice ao2 p cap2] 25)
              rw [show (w.alloc (.cells #[.int .u8 (kd : Int), St t, .int .i64 n, .slice ao p cap] 25)).heap.size = w.heap.size + 1 by simp] at h
              exact (cell_of_heap h 3).trans rfl)⟩)
            go_enter Tryz.func18, Tryz.ntmps18
            go_wp2_with fail
            rw [← hw0]
            clear hw0
            go_loopg [5] p (fun gg v5 wr => ∃ i : Nat, gg = p - i ∧ i ≤ p ∧ v5 = .int .i64 (i : Int) ∧ (∀ k (h : k < ks.length) (h' : k < ks2.length), k < i → ks[k] = ks2[k]) ∧ Below w0.heap.size w0 wr)
            case atStart => exact ⟨0, rfl, Nat.zero_le _, rfl, fun k _ _ h => absurd h (by omega), Below.refl _ _⟩
            case round =>
              obtain ⟨i, rfl, hi, rfl, hsm, hB⟩ := hrel
              obtain ⟨c3, c4⟩ := HC0.out wr hB
              have hBw : Below w.heap.size w wr := HB0.out.trans (hB.mono HB0.out.size)
              by_cases him : i < p
              · have hik : i < ks.length := by have := HP.out; omega
                have hik2 : i < ks2.length := by have := HQ.out; omega
                have hks' : Kr b1 wr d ao ks := HKS.out.low hBw
                have hks2' : Kr b2 wr d2 ao2 ks2 := HKS2.out.low hBw
                obtain ⟨g, o, hg, _, hc⟩ := hks' (show 0 < ks.length by omega)
                obtain ⟨g2, o2, hg2, _, hc2⟩ := hks2' (show 0 < ks2.length by omega)
                subst hg hg2
                obtain ⟨kv, hcs, hz1, d', hd', hkd⟩ := hc i hik
                obtain ⟨mv, hcs2, hz2, d3, hz3, hkd2⟩ := hc2 i hik2
                clear hz1 hz2 hz3
                obtain ⟨x, hx⟩ : ∃ x, x = ks[i] := ⟨_, rfl⟩
                obtain ⟨y, hy⟩ : ∃ y, y = ks2[i] := ⟨_, rfl⟩
                rw [← hx] at hcs hkd
                rw [← hy] at hcs2 hkd2
                obtain ⟨hz1, a3, c3', rfl⟩ := hkd.shape
                obtain ⟨hz2, a4, c4', rfl⟩ := hkd2.shape
                clear hz1 hz2
                have HS : Hid (∀ wx, Below wr.heap.size wr wx → wx.cell? ⟨w.heap.size, 3, none⟩ = some (.slice (some ⟨g, o, none⟩) p cap) ∧ wx.cell? ⟨w.heap.size + 1, 3, none⟩ = some (.slice (some ⟨g2, o2, none⟩) p cap2) ∧ wx.cell? ⟨g, o + i * 4, none⟩ = some (.int .u8 (x.kind : Int)) ∧ wx.cell? ⟨g, o + i * 4 + 1, none⟩ = some (St x.term) ∧ wx.cell? ⟨g, o + i * 4 + 2, none⟩ = some (.int .i64 x.n) ∧ wx.cell? ⟨g, o + i * 4 + 3, none⟩ = some (.slice a3 x.kids.length c3') ∧ wx.cell? ⟨g2, o2 + i * 4, none⟩ = some (.int .u8 (y.kind : Int)) ∧ wx.cell? ⟨g2, o2 + i * 4 + 1, none⟩ = some (St y.term) ∧ wx.cell? ⟨g2, o2 + i * 4 + 2, none⟩ = some (.int .i64 y.n) ∧ wx.cell? ⟨g2, o2 + i * 4 + 3, none⟩ = some (.slice a4 y.kids.length c4')) := hid (fun wx hW => ⟨cell_later hW c3, cell_later hW c4, cell_later hW (hcs 0 _ rfl), cell_later hW (hcs 1 _ rfl), cell_later hW (hcs 2 _ rfl), cell_later hW (hcs 3 _ rfl), cell_later hW (hcs2 0 _ rfl), cell_later hW (hcs2 1 _ rfl), cell_later hW (hcs2 2 _ rfl), cell_later hW (hcs2 3 _ rfl)⟩)
                have HCA : Hid (∀ W, Below wr.heap.size wr W → Calls Tryz.prog 18 #[.agg #[.int .u8 (x.kind : Int), St x.term, .int .i64 x.n, .slice a3 x.kids.length c3'], .agg #[.int .u8 (y.kind : Int), St y.term, .int .i64 y.n, .slice a4 y.kids.length c4']] W fun e w' => e = .returned (.bool (Lk.same x y)) ∧ Below wr.heap.size wr w') := hid (fun W hW => (HIH.out d' hd' x y _ _ d3 W (hkd.low hW) (hkd2.low hW)).mono (fun e w' ⟨h1, h2⟩ => ⟨h1, hW.trans (h2.mono hW.size)⟩))
                have HNO : Hid (Lk.same x y = false → R = false) := hid (fun h => HNE.out (x = y) (fun e => by
                  have e2 : ks = ks2 := by cases e; rfl
                  rw [hx, hy]
                  subst e2
                  rfl) (fun e => by rw [(Lk.same_iff x y).2 e] at h; cases h))
                have HYE : Hid (Lk.same x y = true → ∀ k (h : k < ks.length) (h' : k < ks2.length), k < i + 1 → ks[k] = ks2[k]) := hid (fun h k hk hk' hki => by
                  by_cases e : k = i
                  · subst e
                    rw [← hx, ← hy]
                    exact (Lk.same_iff x y).1 h
                  · exact hsm k hk hk' (by omega))
                have hiw : IntKind.i64.wrap ((i : Int) + 1) = ((i + 1 : Nat) : Int) := by rw [IntKind.wrap_i64]; have := HL.out; omega
                have hi0 : (0 : Int) ≤ (i : Int) := Int.natCast_nonneg _
                have hi1 : (i : Int) < (p : Int) := by omega
                have HI := hid him
                have HBR := hid hB
                clear hcs hcs2 hkd hkd2 hc hc2 hik hik2 him hi hx hy hsm hB hks' hks2'
                generalize Lk.same x y = r at *
                go_wp2_with fail
                clear c3 c4
                have hs0 := HS.out wr (Below.refl _ _)
                go_region_held3 (fun wx => wx.cell? ⟨w.heap.size, 3, none⟩ = some (.slice (some ⟨g, o, none⟩) p cap) ∧ wx.cell? ⟨w.heap.size + 1, 3, none⟩ = some (.slice (some ⟨g2, o2, none⟩) p cap2) ∧ wx.cell? ⟨g, o + i * 4, none⟩ = some (.int .u8 (x.kind : Int)) ∧ wx.cell? ⟨g, o + i * 4 + 1, none⟩ = some (St x.term) ∧ wx.cell? ⟨g, o + i * 4 + 2, none⟩ = some (.int .i64 x.n) ∧ wx.cell? ⟨g, o + i * 4 + 3, none⟩ = some (.slice a3 x.kids.length c3') ∧ wx.cell? ⟨g2, o2 + i * 4, none⟩ = some (.int .u8 (y.kind : Int)) ∧ wx.cell? ⟨g2, o2 + i * 4 + 1, none⟩ = some (St y.term) ∧ wx.cell? ⟨g2, o2 + i * 4 + 2, none⟩ = some (.int .i64 y.n) ∧ wx.cell? ⟨g2, o2 + i * 4 + 3, none⟩ = some (.slice a4 y.kids.length c4')) (first | exact hs0 | exact HS.out _ HBa.out | exact HS.out _ (below_dr _)) (first | (go_at_call 18; refine (HCA.out _ (below_dr _)).mono ?_; rintro e wa ⟨rfl, hba⟩; have HBa := hid hba; clear hba))
                have HBE : Hid (Below w0.heap.size w0 wa) := hid (HBR.out.trans (HBa.out.mono HBR.out.size))
                have HBF : Hid (Below w.heap.size w wa) := hid (HB0.out.trans (HBE.out.mono HB0.out.size))
                clear hs0 HS HCA
                cases r with
                | false =>
                  have HN2 := hid (HNO.out rfl)
                  clear HNO HYE
                  go_wp2_with fail
                  go_ret
                  exact ⟨by rw [HN2.out]; rfl, HBF.out⟩
                | true =>
                  have HY2 := hid (HYE.out rfl)
                  clear HNO HYE
                  go_wp2_with fail
                  go_roundg (p - (i + 1))
                  case measure => have := HI.out; omega
                  case rel => exact ⟨i + 1, rfl, HI.out, rfl, HY2.out, HBE.out⟩
              · have hie : i = p := by omega
                subst hie
                have hin : ¬ (i : Int) < (i : Int) := by omega
                have HE : Hid (R = true) := hid (HEN.out (fun k h h' => hsm k h h' (by have := HP.out; omega)))
                have HB3 := hid hBw
                clear hsm hB hi him hBw
                go_wp2_with fail
                go_ret
                exact ⟨by rw [HE.out]; rfl, HB3.out⟩
          · go_enter Tryz.func18, Tryz.ntmps18
            go_wp2_with fail
            go_ret
            exact ⟨by rw [HNE.out (p = q) (fun e => by cases e; rw [HP.out, HQ.out]) (by omega)]; rfl, HBB.out _ _⟩
        · go_enter Tryz.func18, Tryz.ntmps18
          go_wp2_with fail
          go_ret
          exact ⟨by rw [HNE.out (n = n2) (fun e => by cases e; rfl) h3]; rfl, HBB.out _ _⟩
      · have h2' : (t == t2) = false := by simpa using h2
        go_enter Tryz.func18, Tryz.ntmps18
        go_wp2_with fail
        go_ret
        exact ⟨by rw [HNE.out (t = t2) (fun e => by cases e; rfl) h2]; rfl, HBB.out _ _⟩
    · go_enter Tryz.func18, Tryz.ntmps18
      go_wp2_with fail
      go_ret
      exact ⟨by rw [HNE.out (kd = kd2) (fun e => by cases e; rfl) (by omega)]; rfl, HBB.out _ _⟩
end Go.Proofs.YtdllpklecdmghaaGreatDoor
