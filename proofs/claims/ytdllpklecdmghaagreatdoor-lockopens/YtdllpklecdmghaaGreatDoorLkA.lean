/- Locks in memory, and whether a lock fits its kind. -/
import Derived.Test.YtdllpklecdmghaaGreatDoorLkM
import Derived.Test.YtdllpklecdmghaaGreatDoorAskAll
import Derived.BigQuiet
import Derived.Deep.RegionHeld3
namespace Go.Proofs.YtdllpklecdmghaaGreatDoor
open Go.RowKit
open Lk (Lt)

/-- a lock's cells -/
def lcs (l : Lt) (kv : Value) : Array Value := #[.int .u8 (l.kind : Int), St l.term, .int .i64 l.n, kv]
/-- numbers and texts are such as Go has -/
structure Lr (l : Lt) : Prop where
  kind : l.kind < 256
  term : l.term.length ≤ 140737488355328
  n : -9223372036854775808 ≤ l.n ∧ l.n < 9223372036854775808
/-- so many levels of a row of locks lie there, in blocks that b allows -/
def Kd (b : Nat → Prop) (w : World) : Nat → Value → List Lt → Prop
  | 0, v, ks => ks = [] ∧ ∃ ao cap, v = .slice ao 0 cap
  | d + 1, v, ks => ks.length ≤ 140737488355328 ∧ ∃ ao cap, v = .slice ao ks.length cap ∧ (0 < ks.length → ∃ g o, ao = some ⟨g, o, none⟩ ∧ b g ∧ ∀ i (hi : i < ks.length), ∃ kv, (∀ j u, (lcs ks[i] kv)[j]? = some u → w.cell? ⟨g, o + i * 4 + j, none⟩ = some u) ∧ Lr ks[i] ∧ Kd b w d kv ks[i].kids)
theorem Kd.same {b : Nat → Prop} {w w' : World} (hB : ∀ g, b g → g < w.heap.size → w'.heap[g]? = w.heap[g]?) : ∀ {d : Nat} {v : Value} {ks : List Lt}, Kd b w d v ks → Kd b w' d v ks
  | 0, _, _, h => h
  | d + 1, v, ks, h => by
    obtain ⟨hl, ao, cap, hv, h⟩ := h
    refine ⟨hl, ao, cap, hv, fun h0 => ?_⟩
    obtain ⟨g, o, hg, hbg, hc⟩ := h h0
    refine ⟨g, o, hg, hbg, fun i hi => ?_⟩
    obtain ⟨kv, h1, h2, h3⟩ := hc i hi
    refine ⟨kv, fun j u hu => ?_, h2, Kd.same hB h3⟩
    have h4 := h1 j u hu
    rw [← h4]
    exact World.cell?_of_block (hB g hbg (World.block_lt_of_cell? w ⟨g, o + i * 4 + j, none⟩ h4))
theorem Kd.low {b : Nat → Prop} {w w' : World} {d : Nat} {v : Value} {ks : List Lt} (h : Kd b w d v ks) (hB : Below w.heap.size w w') : Kd b w' d v ks := h.same (fun g _ hg => hB.block g hg)
theorem Kd.base {b c : Nat → Prop} {w : World} (hc : ∀ g, b g → c g) : ∀ {d : Nat} {v : Value} {ks : List Lt}, Kd b w d v ks → Kd c w d v ks
  | 0, _, _, h => h
  | d + 1, v, ks, h => by
    obtain ⟨hl, ao, cap, hv, h⟩ := h
    refine ⟨hl, ao, cap, hv, fun h0 => ?_⟩
    obtain ⟨g, o, hg, hbg, hc'⟩ := h h0
    refine ⟨g, o, hg, hc _ hbg, fun i hi => ?_⟩
    obtain ⟨kv, h1, h2, h3⟩ := hc' i hi
    exact ⟨kv, h1, h2, Kd.base hc h3⟩
theorem Kd.up {b : Nat → Prop} {w : World} : ∀ {d : Nat} {v : Value} {ks : List Lt}, Kd b w d v ks → Kd b w (d + 1) v ks
  | 0, v, ks, h => by
    obtain ⟨rfl, ao, cap, hv⟩ := h
    exact ⟨by simp, ao, cap, hv, fun h0 => absurd h0 (by simp)⟩
  | d + 1, v, ks, h => by
    obtain ⟨hl, ao, cap, hv, h⟩ := h
    refine ⟨hl, ao, cap, hv, fun h0 => ?_⟩
    obtain ⟨g, o, hg, hbg, hc⟩ := h h0
    refine ⟨g, o, hg, hbg, fun i hi => ?_⟩
    obtain ⟨kv, h1, h2, h3⟩ := hc i hi
    exact ⟨kv, h1, h2, Kd.up h3⟩
theorem Kd.more {b : Nat → Prop} {w : World} {d e : Nat} (hd : d ≤ e) {v : Value} {ks : List Lt} (h : Kd b w d v ks) : Kd b w e v ks := by
  induction hd with
  | refl => exact h
  | step _ ih => exact ih.up
theorem Kd.nil (b : Nat → Prop) (w : World) (d : Nat) : Kd b w d (.slice none 0 0) [] := Kd.more (Nat.zero_le d) ⟨rfl, none, 0, rfl⟩
theorem Kd.shape {b : Nat → Prop} {w : World} {d : Nat} {v : Value} {ks : List Lt} (h : Kd b w d v ks) : ks.length ≤ 140737488355328 ∧ ∃ ao cap, v = .slice ao ks.length cap := by
  cases d with
  | zero =>
    obtain ⟨rfl, ao, cap, hv⟩ := h
    exact ⟨by simp, ao, cap, hv⟩
  | succ d =>
    obtain ⟨hl, ao, cap, hv, _⟩ := h
    exact ⟨hl, ao, cap, hv⟩
/-- the locks of a row, each with less levels -/
def Kr (b : Nat → Prop) (w : World) (d : Nat) (ao : Option Addr) (ks : List Lt) : Prop := 0 < ks.length → ∃ g o, ao = some ⟨g, o, none⟩ ∧ b g ∧ ∀ i (hi : i < ks.length), ∃ kv, (∀ j u, (lcs ks[i] kv)[j]? = some u → w.cell? ⟨g, o + i * 4 + j, none⟩ = some u) ∧ Lr ks[i] ∧ ∃ d', d' < d ∧ Kd b w d' kv ks[i].kids
theorem Kd.parts {b : Nat → Prop} {w : World} {d : Nat} {v : Value} {ks : List Lt} (h : Kd b w d v ks) : ks.length ≤ 140737488355328 ∧ ∃ ao cap, v = .slice ao ks.length cap ∧ Kr b w d ao ks := by
  cases d with
  | zero =>
    obtain ⟨rfl, ao, cap, hv⟩ := h
    exact ⟨by simp, ao, cap, hv, fun h0 => absurd h0 (by simp)⟩
  | succ d =>
    obtain ⟨hl, ao, cap, hv, h⟩ := h
    refine ⟨hl, ao, cap, hv, fun h0 => ?_⟩
    obtain ⟨g, o, hg, hbg, hc⟩ := h h0
    refine ⟨g, o, hg, hbg, fun i hi => ?_⟩
    obtain ⟨kv, h1, h2, h3⟩ := hc i hi
    exact ⟨kv, h1, h2, d, Nat.lt_succ_self d, h3⟩
theorem Kr.low {b : Nat → Prop} {w w' : World} {d : Nat} {ao : Option Addr} {ks : List Lt} (h : Kr b w d ao ks) (hB : Below w.heap.size w w') : Kr b w' d ao ks := fun h0 => by
  obtain ⟨g, o, hg, hbg, hc⟩ := h h0
  refine ⟨g, o, hg, hbg, fun i hi => ?_⟩
  obtain ⟨kv, h1, h2, d', hd, h3⟩ := hc i hi
  exact ⟨kv, fun j u hu => cell_later hB (h1 j u hu), h2, d', hd, h3.low hB⟩
/-- the op of a right term; 0 of what is none -/
def opF (t : Bs) : Nat := if Tm.deep t = 0 then 0 else (t.headD 0).toNat
theorem op_any (t : Bs) (w : World) : Calls Tryz.prog 80 #[St t] w fun e w' => e = .returned (.int .u8 (opF t : Int)) ∧ Below w.heap.size w w' := by
  by_cases hd : Tm.deep t = 0
  · have HD := hid hd
    have HR : Hid (opF t = 0) := hid (by unfold opF; rw [if_pos hd])
    clear hd
    go_enter Tryz.func80, Tryz.ntmps80
    go_wp2_with fail
    refine (right_list t w).mono ?_
    rintro e w1 ⟨rfl, hb⟩
    have HB := hid hb
    clear hb
    have hz : (Tm.deep t != 0) = false := by rw [HD.out]; rfl
    rw [hz]
    go_wp2_with fail
    go_ret
    exact ⟨by rw [HR.out]; rfl, HB.out⟩
  · obtain ⟨c, r, rfl⟩ : ∃ c r, t = c :: r := by
      cases t with
      | nil => exact absurd rfl (Tm.deep_is hd).1.2.1
      | cons c r => exact ⟨c, r, rfl⟩
    have HD := hid hd
    have HR : Hid (opF (c :: r) = c.toNat) := hid (by unfold opF; rw [if_neg hd]; rfl)
    obtain ⟨l, hl⟩ : ∃ l, l = c :: r := ⟨_, rfl⟩
    rw [← hl] at HD HR ⊢
    have HL := hid hl
    have hsz : 0 < (⟨l.toArray⟩ : ByteArray).size := by rw [st_size, hl]; simp
    have hix := st_idx hl hsz
    clear hd hl
    go_enter Tryz.func80, Tryz.ntmps80
    go_wp2_with fail
    refine (right_list l w).mono ?_
    rintro e w1 ⟨rfl, hb⟩
    have HB := hid hb
    clear hb
    have hz : (Tm.deep l != 0) = true := by simpa using HD.out
    rw [hz]
    go_wp2_with fail
    go_ret
    exact ⟨by rw [HR.out]; rfl, HB.out⟩
theorem opF_zero {t : Bs} (h : Tm.deep t = 0) : opF t = 0 := by unfold opF; rw [if_pos h]
theorem opF_val {c : UInt8} {r : Bs} (h : Tm.deep (c :: r) ≠ 0) : opF (c :: r) = c.toNat := by unfold opF; rw [if_neg h]; rfl
theorem u8_is (c : UInt8) (k : Nat) (hk : k < 256) : ((c.toNat : Nat) : Int) = (k : Int) ↔ c = UInt8.ofNat k := by
  constructor
  · intro e
    have : c.toNat = k := by omega
    rw [← this]
    simp
  · rintro rfl
    simp
    omega
theorem opF_key (t : Bs) : (decide ((opF t : Int) = 80) || decide ((opF t : Int) = 87) || decide ((opF t : Int) = 76)) = Lk.isKey t := by
  by_cases hd : Tm.deep t = 0
  · rw [opF_zero hd]
    unfold Lk.isKey
    rw [hd]
    rfl
  · cases t with
    | nil => exact absurd rfl (Tm.deep_is hd).1.2.1
    | cons c r =>
      rw [opF_val hd, Bool.eq_iff_iff, Bool.or_eq_true, Bool.or_eq_true, decide_eq_true_iff, decide_eq_true_iff, decide_eq_true_iff, show (80 : Int) = ((80 : Nat) : Int) from rfl, show (87 : Int) = ((87 : Nat) : Int) from rfl, show (76 : Int) = ((76 : Nat) : Int) from rfl, u8_is c 80 (by omega), u8_is c 87 (by omega), u8_is c 76 (by omega)]
      unfold Lk.isKey Tm.isPk
      simp [hd]
theorem opF_hash (t : Bs) : decide ((opF t : Int) = 72) = Lk.isOp t 72 := by
  by_cases hd : Tm.deep t = 0
  · rw [opF_zero hd]
    unfold Lk.isOp
    rw [hd]
    rfl
  · cases t with
    | nil => exact absurd rfl (Tm.deep_is hd).1.2.1
    | cons c r =>
      rw [opF_val hd, Bool.eq_iff_iff, decide_eq_true_iff, show (72 : Int) = ((72 : Nat) : Int) from rfl, u8_is c 72 (by omega)]
      unfold Lk.isOp
      simp [hd]
set_option maxHeartbeats 4000000 in
theorem key_is (t : Bs) (w : World) : Calls Tryz.prog 79 #[St t] w fun e w' => e = .returned (.bool (Lk.isKey t)) ∧ Below w.heap.size w w' := by
  have HK := hid (opF_key t)
  have HOP := hid (op_any t w)
  generalize opF t = k at *
  go_enter Tryz.func79, Tryz.ntmps79
  go_wp2_with fail
  refine HOP.out.mono ?_
  rintro e w1 ⟨rfl, hb⟩
  have HB := hid hb
  clear hb
  by_cases h1 : (k : Int) = 80
  · go_wp2_with fail
    go_ret
    exact ⟨by rw [← HK.out]; simp [h1], HB.out⟩
  · by_cases h2 : (k : Int) = 87
    · go_wp2_with fail
      go_ret
      exact ⟨by rw [← HK.out]; simp [h2], HB.out⟩
    · by_cases h3 : (k : Int) = 76
      · go_wp2_with fail
        go_ret
        exact ⟨by rw [← HK.out]; simp [h3], HB.out⟩
      · go_wp2_with fail
        go_ret
        exact ⟨by rw [← HK.out]; simp [h1, h2, h3], HB.out⟩
end Go.Proofs.YtdllpklecdmghaaGreatDoor
