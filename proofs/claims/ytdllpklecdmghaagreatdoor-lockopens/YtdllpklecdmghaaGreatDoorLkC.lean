/- Whether a lock is right: what room does, whatever lock it is handed. -/
import Derived.Test.YtdllpklecdmghaaGreatDoorLkB
namespace Go.Proofs.YtdllpklecdmghaaGreatDoor
open Go.RowKit
open Lk (Lt)

namespace Lk
theorem rooms_app : ∀ (a b : List Lt) (p : Nat), rooms (a ++ b) p = (rooms a p).bind (rooms b)
  | [], b, p => by simp [rooms]
  | x :: a, b, p => by
    rw [List.cons_append, rooms, rooms]
    cases room x p with
    | none => rfl
    | some q => exact rooms_app a b q
theorem rooms_one (x : Lt) (p : Nat) : rooms [x] p = room x p := by
  rw [rooms]
  cases room x p with
  | none => rfl
  | some q => simp [rooms]
theorem rooms_next {ks : List Lt} {i : Nat} (hi : i < ks.length) {p q : Nat} (h : rooms (ks.take i) p = some q) : rooms (ks.take (i + 1)) p = room ks[i] q := by
  rw [List.take_add_one, List.getElem?_eq_getElem hi, rooms_app, h]
  exact rooms_one _ _
theorem rooms_none {ks : List Lt} {i : Nat} {p : Nat} (h : rooms (ks.take i) p = none) : rooms ks p = none := by
  rw [← List.take_append_drop i ks, rooms_app, h]
  rfl
theorem room_lt {l : Lt} {p q : Nat} (h : room l p = some q) : q < p := by
  rw [room_is] at h
  split at h
  · rename_i hh
    cases h
    have := size_pos l
    omega
  · cases h
theorem rooms_le : ∀ {ks : List Lt} {p q : Nat}, rooms ks p = some q → q ≤ p
  | [], p, q, h => by simp [rooms] at h; omega
  | x :: ks, p, q, h => by
    rw [rooms] at h
    match hr : room x p with
    | none => rw [hr] at h; cases h
    | some r =>
      rw [hr] at h
      have := room_lt hr
      have := rooms_le h
      omega
end Lk
def roomI (l : Lt) (p : Nat) : Int := match Lk.room l p with
  | none => -1
  | some q => (q : Int)
theorem roomI_none {l : Lt} {p : Nat} (h : Lk.room l p = none) : roomI l p = -1 := by unfold roomI; rw [h]
theorem roomI_some {l : Lt} {p q : Nat} (h : Lk.room l p = some q) : roomI l p = (q : Int) := by unfold roomI; rw [h]
set_option maxHeartbeats 4000000 in
theorem room_any {b : Nat → Prop} (d : Nat) : ∀ (l : Lt) (kv : Value) (w : World) (p : Nat), Kd b w d kv l.kids → p ≤ 64 → Calls Tryz.prog 35 #[.agg (lcs l kv), .int .i64 (p : Int)] w fun e w' => e = .returned (.int .i64 (roomI l p)) ∧ Below w.heap.size w w' := by
  induction d using Nat.strongRecOn with
  | ind d ih =>
    intro l kv w p hk hp
    obtain ⟨kd, t, n, ks⟩ := l
    obtain ⟨hl, ao, cap, rfl, hks⟩ := hk.parts
    clear hk
    have hl : ks.length ≤ 140737488355328 := hl
    have hks : Kr b w d ao ks := hks
    show Calls Tryz.prog 35 #[.agg #[.int .u8 (kd : Int), St t, .int .i64 n, .slice ao ks.length cap], .int .i64 (p : Int)] w fun e w' => e = .returned (.int .i64 (roomI (.mk kd t n ks) p)) ∧ Below w.heap.size w w'
    obtain ⟨R, hR⟩ : ∃ R, R = roomI (.mk kd t n ks) p := ⟨_, rfl⟩
    rw [← hR]
    have HF : Hid (∀ W, Below w.heap.size w W → Calls Tryz.prog 59 #[.agg #[.int .u8 (kd : Int), St t, .int .i64 n, .slice ao ks.length cap]] W fun e w' => e = .returned (.bool (fitV kd t n ks.length)) ∧ Below w.heap.size w w') := hid (fun W hW => (fits_any kd t n ao ks.length cap W).mono (fun e w' ⟨h1, h2⟩ => ⟨h1, hW.trans (h2.mono hW.size)⟩))
    have HF2 : Hid (Lk.fit (.mk kd t n ks) = fitV kd t n ks.length) := hid rfl
    obtain ⟨m, hm⟩ : ∃ m, m = ks.length := ⟨_, rfl⟩
    rw [← hm] at hl HF HF2 ⊢
    obtain ⟨ft, hft⟩ : ∃ ft, ft = fitV kd t n m := ⟨_, rfl⟩
    rw [← hft] at HF HF2
    have HFT := hid hft.symm
    clear hft
    have HM := hid hm
    have HKS := hid hks
    have HL := hid hl
    have HP := hid hp
    have HIH := hid ih
    have HRV := hid hR
    clear hks hm hp ih hR
    by_cases hp0 : p = 0
    · subst hp0
      go_enter Tryz.func35, Tryz.ntmps35
      go_wp2_with fail
      go_ret
      exact ⟨by rw [HRV.out, roomI_none (by rw [Lk.room, if_pos rfl])]; rfl, below_al _ _⟩
    · have hpi : ¬ (p : Int) = 0 := by omega
      cases ft with
      | false =>
        go_enter Tryz.func35, Tryz.ntmps35
        go_wp2_with fail
        refine (HF.out _ (below_al _ _)).mono ?_
        rintro e w1 ⟨rfl, hb⟩
        have HB := hid hb
        clear hb
        go_wp2_with fail
        go_ret
        exact ⟨by rw [HRV.out, roomI_none (by rw [Lk.room, if_neg hp0, HF2.out]; rfl)]; rfl, HB.out⟩
      | true =>
        have hpw : IntKind.i64.wrap ((p : Int) - 1) = ((p - 1 : Nat) : Int) := by rw [IntKind.wrap_i64]; have := HP.out; omega
        have HRM : Hid (Lk.room (.mk kd t n ks) p = Lk.rooms ks (p - 1)) := hid (by rw [Lk.room, if_neg hp0, if_pos HF2.out])
        obtain ⟨bx, hbx⟩ : ∃ bx, bx = w.heap.size := ⟨_, rfl⟩
        obtain ⟨w0, hw0⟩ : ∃ w0, w0 = w.alloc (.cells #[.int .u8 (kd : Int), St t, .int .i64 n, .slice ao m cap] 25) := ⟨_, rfl⟩
        have HB0 : Hid (Below w.heap.size w w0) := hid (by rw [hw0]; exact below_al _ _)
        have HC0 : Hid (∀ W, Below w0.heap.size w0 W → W.cell? ⟨bx, 3, none⟩ = some (.slice ao m cap)) := hid (fun W hW => cell_later hW (by rw [hw0, hbx]; exact (cell_of_heap (heap_alloc_new w _) 3).trans rfl))
        have HF3 := hid (fits_any kd t n ao m cap w0)
        go_enter Tryz.func35, Tryz.ntmps35
        go_wp2_with fail
        rw [← hw0, ← hbx]
        refine HF3.out.mono ?_
        rintro e w1 ⟨rfl, hb⟩
        have hft : fitV kd t n m = true := HFT.out
        rw [hft]
        have c3 := HC0.out w1 hb
        have HB1 : Hid (Below w.heap.size w w1) := hid (HB0.out.trans (hb.mono HB0.out.size))
        clear hb HF3 HC0 hft hw0 hbx
        go_wp2_with fail
        have hpb : ((p : Int) == 0) = false := by simpa using hpi
        simp only [hpb]
        go_loopg [1, 19] m (fun gg v1 v19 wr => ∃ i q : Nat, gg = m - i ∧ i ≤ m ∧ v1 = .int .i64 (q : Int) ∧ v19 = .int .i64 (i : Int) ∧ Lk.rooms (ks.take i) (p - 1) = some q ∧ Below w.heap.size w wr)
        case atStart => exact ⟨0, p - 1, rfl, Nat.zero_le _, rfl, rfl, rfl, HB1.out⟩
        case round =>
          obtain ⟨i, q, rfl, hi, rfl, rfl, hrs, hB⟩ := hrel
          by_cases him : i < m
          · have hik : i < ks.length := by have := HM.out; omega
            obtain ⟨g, o, hg, _, hc⟩ := (HKS.out.low hB) (by omega)
            subst hg
            obtain ⟨kv, hcs, hlr, d', hd', hkd⟩ := hc i hik
            obtain ⟨x, hx⟩ : ∃ x, x = ks[i] := ⟨_, rfl⟩
            rw [← hx] at hcs hlr hkd
            obtain ⟨_, a2, c2, rfl⟩ := hkd.shape
            have e0 : wr.cell? ⟨g, o + i * 4, none⟩ = some (.int .u8 (x.kind : Int)) := hcs 0 _ rfl
            have e1 : wr.cell? ⟨g, o + i * 4 + 1, none⟩ = some (St x.term) := hcs 1 _ rfl
            have e2 : wr.cell? ⟨g, o + i * 4 + 2, none⟩ = some (.int .i64 x.n) := hcs 2 _ rfl
            have e3 : wr.cell? ⟨g, o + i * 4 + 3, none⟩ = some (.slice a2 x.kids.length c2) := hcs 3 _ rfl
            have hq64 : q ≤ 64 := by have := Lk.rooms_le hrs; have := HP.out; omega
            have HCA : Hid (∀ W, Below wr.heap.size wr W → Calls Tryz.prog 35 #[.agg #[.int .u8 (x.kind : Int), St x.term, .int .i64 x.n, .slice a2 x.kids.length c2], .int .i64 (q : Int)] W fun e w' => e = .returned (.int .i64 (roomI x q)) ∧ Below w.heap.size w w') := hid (fun W hW => (HIH.out d' hd' x _ W q (hkd.low hW) hq64).mono (fun e w' ⟨h1, h2⟩ => ⟨h1, (hB.trans (hW.mono hB.size)).trans (h2.mono (Nat.le_trans hB.size hW.size))⟩))
            have hiw : IntKind.i64.wrap ((i : Int) + 1) = ((i + 1 : Nat) : Int) := by rw [IntKind.wrap_i64]; have := HL.out; omega
            have hi0 : (0 : Int) ≤ (i : Int) := Int.natCast_nonneg _
            have hi1 : (i : Int) < (m : Int) := by omega
            have HNX : Hid (Lk.rooms (ks.take (i + 1)) (p - 1) = Lk.room x q) := hid (by rw [hx]; exact Lk.rooms_next hik hrs)
            have HI := hid him
            clear hcs hlr hkd hc hrs hik him hi hx hq64
            go_wp2_with fail
            refine (HCA.out _ (below_al _ _)).mono ?_
            rintro e w2 ⟨rfl, hb2⟩
            have HB2 := hid hb2
            clear hb2 HCA
            cases hrm : Lk.room x q with
            | none =>
              rw [roomI_none hrm]
              go_wp2_with fail
              go_ret
              exact ⟨by rw [HRV.out, roomI_none (by rw [HRM.out, Lk.rooms_none (HNX.out.trans hrm)])]; rfl, HB2.out⟩
            | some r =>
              rw [roomI_some hrm]
              have hr0 : ¬ (r : Int) < 0 := by omega
              go_wp2_with fail
              go_roundg (m - (i + 1))
              case measure => have := HI.out; omega
              case rel => exact ⟨i + 1, r, rfl, HI.out, rfl, rfl, HNX.out.trans hrm, HB2.out⟩
          · have hie : i = m := by omega
            subst hie
            have hin : ¬ (i : Int) < (i : Int) := by omega
            have HE : Hid (roomI (.mk kd t n ks) p = (q : Int)) := hid (roomI_some (by rw [HRM.out]; rw [HM.out, List.take_length] at hrs; exact hrs))
            have HB3 := hid hB
            clear hrs hB hi him
            go_wp2_with fail
            go_ret
            exact ⟨by rw [HRV.out, HE.out]; rfl, HB3.out⟩
theorem lright_any {b : Nat → Prop} (d : Nat) (l : Lt) (kv : Value) (w : World) (hk : Kd b w d kv l.kids) : Calls Tryz.prog 10 #[.agg (lcs l kv)] w fun e w' => e = .returned (.bool (Lk.right l)) ∧ Below w.heap.size w w' := by
  have HR : Hid (Lk.right l = decide (0 ≤ roomI l 64)) := hid (by
    unfold Lk.right roomI
    cases Lk.room l 64 with
    | none => rfl
    | some q => simp)
  have HC : Hid (∀ W, Below w.heap.size w W → Calls Tryz.prog 35 #[.agg (lcs l kv), .int .i64 64] W fun e w' => e = .returned (.int .i64 (roomI l 64)) ∧ Below w.heap.size w w') := hid (fun W hW => (room_any d l kv W 64 (hk.low hW) (by omega)).mono (fun e w' ⟨h1, h2⟩ => ⟨h1, hW.trans (h2.mono hW.size)⟩))
  obtain ⟨_, ao, cap, rfl⟩ := hk.shape
  clear hk
  generalize roomI l 64 = r at *
  generalize Lk.right l = R at *
  unfold lcs at *
  go_enter Tryz.func10, Tryz.ntmps10
  go_wp2_with fail
  refine (HC.out _ (below_al _ _)).mono ?_
  rintro e w1 ⟨rfl, hb⟩
  have HB := hid hb
  clear hb HC
  go_wp2_with fail
  go_ret
  exact ⟨by rw [HR.out]; rfl, HB.out⟩
end Go.Proofs.YtdllpklecdmghaaGreatDoor
