import Derived.Test.YtdllpklecdmghaaGreatDoorLkMAll
import Derived.Test.YtdllpklecdmghaaGreatDoorKeysAll
import Derived.BigQuiet
import Derived.Deep.RegionHeld3
import Derived.Shelf.LaysM
import Derived.Shelf.Small.Strs
import Derived.Shelf.Strconv.AppendIntPublic10
import Derived.Lib.LaidTab
import Derived.Lib.ItoaNum
/- Locks in memory, and whether a lock fits its kind. -/
namespace Go.Proofs.YtdllpklecdmghaaGreatDoor
open Go.RowKit
open Lk (Lt)
def lcs (l : Lt) (kv : Value) : Array Value := #[.int .u8 (l.kind : Int), St l.term, .int .i64 l.n, kv]
structure Lr (l : Lt) : Prop where
 kind : l.kind < 256
 term : l.term.length ≤ 140737488355328
 n : -9223372036854775808 ≤ l.n ∧ l.n < 9223372036854775808
def Kd (b : Nat → Prop) (w : World) : Nat → Value → List Lt → Prop
 | 0, v, ks => ks = [] ∧ ∃ ao cap, v = .slice ao 0 cap
 | d + 1, v, ks => ks.length ≤ 140737488355328 ∧ ∃ ao cap, v = .slice ao ks.length cap ∧ (0 < ks.length → ∃ g o, ao = some ⟨g, o, none⟩ ∧ b g ∧ ∀ i (hi : i < ks.length), ∃ kv, (∀ j u, (lcs ks[i] kv)[j]? = some u → w.cell? ⟨g, o + i * 4 + j, none⟩ = some u) ∧ Lr ks[i] ∧ Kd b w d kv ks[i].kids)
theorem Kd.same {b : Nat → Prop} {w w' : World} (hB : ∀ g, b g → g < w.heap.size → w'.heap[g]? = w.heap[g]?) : ∀ {d : Nat} {v : Value} {ks : List Lt}, Kd b w d v ks → Kd b w' d v ks
 | 0, _, _, h => h
 | d + 1, v, ks, h => by
   obtain ⟨hl, ao, cap, hv, h⟩ := h
   refine ⟨hl, ao, cap, hv, fun h0 => ?_⟩
   obtain ⟨g, o, hg, hbg, hc⟩ := h h0
   refine ⟨g, o, hg, hbg, fun i hi => ?_⟩
   obtain ⟨kv, h1, h2, h3⟩ := hc i hi
   refine ⟨kv, fun j u hu => ?_, h2, Kd.same hB h3⟩
   have h4 := h1 j u hu
   rw [← h4]
   exact World.cell?_of_block (hB g hbg (World.block_lt_of_cell? w ⟨g, o + i * 4 + j, none⟩ h4))
theorem Kd.low {b : Nat → Prop} {w w' : World} {d : Nat} {v : Value} {ks : List Lt} (h : Kd b w d v ks) (hB : Below w.heap.size w w') : Kd b w' d v ks := h.same (fun g _ hg => hB.block g hg)
theorem Kd.base {b c : Nat → Prop} {w : World} (hc : ∀ g, b g → c g) : ∀ {d : Nat} {v : Value} {ks : List Lt}, Kd b w d v ks → Kd c w d v ks
 | 0, _, _, h => h
 | d + 1, v, ks, h => by
   obtain ⟨hl, ao, cap, hv, h⟩ := h
   refine ⟨hl, ao, cap, hv, fun h0 => ?_⟩
   obtain ⟨g, o, hg, hbg, hc'⟩ := h h0
   refine ⟨g, o, hg, hc _ hbg, fun i hi => ?_⟩
   obtain ⟨kv, h1, h2, h3⟩ := hc' i hi
   exact ⟨kv, h1, h2, Kd.base hc h3⟩
theorem Kd.up {b : Nat → Prop} {w : World} : ∀ {d : Nat} {v : Value} {ks : List Lt}, Kd b w d v ks → Kd b w (d + 1) v ks
 | 0, v, ks, h => by
   obtain ⟨rfl, ao, cap, hv⟩ := h
   exact ⟨by simp, ao, cap, hv, fun h0 => absurd h0 (by simp)⟩
 | d + 1, v, ks, h => by
   obtain ⟨hl, ao, cap, hv, h⟩ := h
   refine ⟨hl, ao, cap, hv, fun h0 => ?_⟩
   obtain ⟨g, o, hg, hbg, hc⟩ := h h0
   refine ⟨g, o, hg, hbg, fun i hi => ?_⟩
   obtain ⟨kv, h1, h2, h3⟩ := hc i hi
   exact ⟨kv, h1, h2, Kd.up h3⟩
theorem Kd.more {b : Nat → Prop} {w : World} {d e : Nat} (hd : d ≤ e) {v : Value} {ks : List Lt} (h : Kd b w d v ks) : Kd b w e v ks := by
 induction hd with
 | refl => exact h
 | step _ ih => exact ih.up
theorem Kd.nil (b : Nat → Prop) (w : World) (d : Nat) : Kd b w d (.slice none 0 0) [] := Kd.more (Nat.zero_le d) ⟨rfl, none, 0, rfl⟩
theorem Kd.shape {b : Nat → Prop} {w : World} {d : Nat} {v : Value} {ks : List Lt} (h : Kd b w d v ks) : ks.length ≤ 140737488355328 ∧ ∃ ao cap, v = .slice ao ks.length cap := by
 cases d with
 | zero =>
   obtain ⟨rfl, ao, cap, hv⟩ := h
   exact ⟨by simp, ao, cap, hv⟩
 | succ d =>
   obtain ⟨hl, ao, cap, hv, _⟩ := h
   exact ⟨hl, ao, cap, hv⟩
def Kr (b : Nat → Prop) (w : World) (d : Nat) (ao : Option Addr) (ks : List Lt) : Prop := 0 < ks.length → ∃ g o, ao = some ⟨g, o, none⟩ ∧ b g ∧ ∀ i (hi : i < ks.length), ∃ kv, (∀ j u, (lcs ks[i] kv)[j]? = some u → w.cell? ⟨g, o + i * 4 + j, none⟩ = some u) ∧ Lr ks[i] ∧ ∃ d', d' < d ∧ Kd b w d' kv ks[i].kids
theorem Kd.parts {b : Nat → Prop} {w : World} {d : Nat} {v : Value} {ks : List Lt} (h : Kd b w d v ks) : ks.length ≤ 140737488355328 ∧ ∃ ao cap, v = .slice ao ks.length cap ∧ Kr b w d ao ks := by
 cases d with
 | zero =>
   obtain ⟨rfl, ao, cap, hv⟩ := h
   exact ⟨by simp, ao, cap, hv, fun h0 => absurd h0 (by simp)⟩
 | succ d =>
   obtain ⟨hl, ao, cap, hv, h⟩ := h
   refine ⟨hl, ao, cap, hv, fun h0 => ?_⟩
   obtain ⟨g, o, hg, hbg, hc⟩ := h h0
   refine ⟨g, o, hg, hbg, fun i hi => ?_⟩
   obtain ⟨kv, h1, h2, h3⟩ := hc i hi
   exact ⟨kv, h1, h2, d, Nat.lt_succ_self d, h3⟩
theorem Kr.low {b : Nat → Prop} {w w' : World} {d : Nat} {ao : Option Addr} {ks : List Lt} (h : Kr b w d ao ks) (hB : Below w.heap.size w w') : Kr b w' d ao ks := fun h0 => by
 obtain ⟨g, o, hg, hbg, hc⟩ := h h0
 refine ⟨g, o, hg, hbg, fun i hi => ?_⟩
 obtain ⟨kv, h1, h2, d', hd, h3⟩ := hc i hi
 exact ⟨kv, fun j u hu => cell_later hB (h1 j u hu), h2, d', hd, h3.low hB⟩
def opF (t : Bs) : Nat := if Tm.deep t = 0 then 0 else (t.headD 0).toNat
theorem op_any (t : Bs) (w : World) : Calls Tryz.prog 80 #[St t] w fun e w' => e = .returned (.int .u8 (opF t : Int)) ∧ Below w.heap.size w w' := by
 by_cases hd : Tm.deep t = 0
 · have HD := hid hd
   have HR : Hid (opF t = 0) := hid (by unfold opF; rw [if_pos hd])
   clear hd
   go_enter Tryz.func80, Tryz.ntmps80
   go_wp2_with fail
   refine (right_list t w).mono ?_
   rintro e w1 ⟨rfl, hb⟩
   have HB := hid hb
   clear hb
   have hz : (Tm.deep t != 0) = false := by rw [HD.out]; rfl
   rw [hz]
   go_wp2_with fail
   go_ret
   exact ⟨by rw [HR.out]; rfl, HB.out⟩
 · obtain ⟨c, r, rfl⟩ : ∃ c r, t = c :: r := by
     cases t with
     | nil => exact absurd rfl (Tm.deep_is hd).1.2.1
     | cons c r => exact ⟨c, r, rfl⟩
   have HD := hid hd
   have HR : Hid (opF (c :: r) = c.toNat) := hid (by unfold opF; rw [if_neg hd]; rfl)
   obtain ⟨l, hl⟩ : ∃ l, l = c :: r := ⟨_, rfl⟩
   rw [← hl] at HD HR ⊢
   have HL := hid hl
   have hsz : 0 < (⟨l.toArray⟩ : ByteArray).size := by rw [st_size, hl]; simp
   have hix := st_idx hl hsz
   clear hd hl
   go_enter Tryz.func80, Tryz.ntmps80
   go_wp2_with fail
   refine (right_list l w).mono ?_
   rintro e w1 ⟨rfl, hb⟩
   have HB := hid hb
   clear hb
   have hz : (Tm.deep l != 0) = true := by simpa using HD.out
   rw [hz]
   go_wp2_with fail
   go_ret
   exact ⟨by rw [HR.out]; rfl, HB.out⟩
theorem opF_zero {t : Bs} (h : Tm.deep t = 0) : opF t = 0 := by unfold opF; rw [if_pos h]
theorem opF_val {c : UInt8} {r : Bs} (h : Tm.deep (c :: r) ≠ 0) : opF (c :: r) = c.toNat := by unfold opF; rw [if_neg h]; rfl
theorem u8_is (c : UInt8) (k : Nat) (hk : k < 256) : ((c.toNat : Nat) : Int) = (k : Int) ↔ c = UInt8.ofNat k := by
 constructor
 · intro e
   have : c.toNat = k := by omega
   rw [← this]
   simp
 · rintro rfl
   simp
   omega
theorem opF_key (t : Bs) : (decide ((opF t : Int) = 80) || decide ((opF t : Int) = 87) || decide ((opF t : Int) = 76)) = Lk.isKey t := by
 by_cases hd : Tm.deep t = 0
 · rw [opF_zero hd]
   unfold Lk.isKey
   rw [hd]
   rfl
 · cases t with
   | nil => exact absurd rfl (Tm.deep_is hd).1.2.1
   | cons c r =>
     rw [opF_val hd, Bool.eq_iff_iff, Bool.or_eq_true, Bool.or_eq_true, decide_eq_true_iff, decide_eq_true_iff, decide_eq_true_iff, show (80 : Int) = ((80 : Nat) : Int) from rfl, show (87 : Int) = ((87 : Nat) : Int) from rfl, show (76 : Int) = ((76 : Nat) : Int) from rfl, u8_is c 80 (by omega), u8_is c 87 (by omega), u8_is c 76 (by omega)]
     unfold Lk.isKey Tm.isPk
     simp [hd]
theorem opF_hash (t : Bs) : decide ((opF t : Int) = 72) = Lk.isOp t 72 := by
 by_cases hd : Tm.deep t = 0
 · rw [opF_zero hd]
   unfold Lk.isOp
   rw [hd]
   rfl
 · cases t with
   | nil => exact absurd rfl (Tm.deep_is hd).1.2.1
   | cons c r =>
     rw [opF_val hd, Bool.eq_iff_iff, decide_eq_true_iff, show (72 : Int) = ((72 : Nat) : Int) from rfl, u8_is c 72 (by omega)]
     unfold Lk.isOp
     simp [hd]
set_option maxHeartbeats 4000000 in
theorem key_is (t : Bs) (w : World) : Calls Tryz.prog 79 #[St t] w fun e w' => e = .returned (.bool (Lk.isKey t)) ∧ Below w.heap.size w w' := by
 have HK := hid (opF_key t)
 have HOP := hid (op_any t w)
 generalize opF t = k at *
 go_enter Tryz.func79, Tryz.ntmps79
 go_wp2_with fail
 refine HOP.out.mono ?_
 rintro e w1 ⟨rfl, hb⟩
 have HB := hid hb
 clear hb
 by_cases h1 : (k : Int) = 80
 · go_wp2_with fail
   go_ret
   exact ⟨by rw [← HK.out]; simp [h1], HB.out⟩
 · by_cases h2 : (k : Int) = 87
   · go_wp2_with fail
     go_ret
     exact ⟨by rw [← HK.out]; simp [h2], HB.out⟩
   · by_cases h3 : (k : Int) = 76
     · go_wp2_with fail
       go_ret
       exact ⟨by rw [← HK.out]; simp [h3], HB.out⟩
     · go_wp2_with fail
       go_ret
       exact ⟨by rw [← HK.out]; simp [h1, h2, h3], HB.out⟩
end Go.Proofs.YtdllpklecdmghaaGreatDoor
/- Whether a lock fits its kind. -/
namespace Go.Proofs.YtdllpklecdmghaaGreatDoor
open Go.RowKit
open Lk (Lt)
def fitV (kd : Nat) (t : Bs) (n : Int) (m : Nat) : Bool :=
 if kd = 1 then decide (n = 0) && decide (m = 0) && Lk.isKey t
 else if kd = 2 then decide (n = 0) && decide (m = 0) && Lk.isOp t 72
 else if kd = 3 ∨ kd = 4 then decide (t.length = 0) && decide (m = 0) && decide (0 ≤ n) && decide (n ≤ 1073741823)
 else if kd = 5 ∨ kd = 6 then decide (t.length = 0) && decide (n = 0) && decide (m ≠ 0) && decide (m ≤ 8)
 else false
theorem below_al (w : World) (o : Obj) : Below w.heap.size w (w.alloc o) := (Below.refl w.heap.size w).alloc (Nat.le_refl _) o
theorem below_ad (w : World) (o : Obj) (n : Nat) : Below w.heap.size w ((w.alloc o).drewN n) :=
 ⟨rfl, rfl, rfl, (below_al w o).size, fun j hj => (below_al w o).block j hj⟩
set_option maxHeartbeats 4000000 in
theorem fits_any (kd : Nat) (t : Bs) (n : Int) (ao : Option Addr) (m cap : Nat) (w : World) : Calls Tryz.prog 59 #[.agg #[.int .u8 (kd : Int), St t, .int .i64 n, .slice ao m cap]] w fun e w' => e = .returned (.bool (fitV kd t n m)) ∧ Below w.heap.size w w' := by
 obtain ⟨R, hR⟩ : ∃ R, R = fitV kd t n m := ⟨_, rfl⟩
 rw [← hR]
 unfold fitV at hR
 have HK : Hid (∀ W, Below w.heap.size w W → Calls Tryz.prog 79 #[St t] W fun e w' => e = .returned (.bool (Lk.isKey t)) ∧ Below w.heap.size w w') := hid (fun W hW => (key_is t W).mono (fun e w' ⟨h1, h2⟩ => ⟨h1, hW.trans (h2.mono hW.size)⟩))
 have HO : Hid (∀ W, Below w.heap.size w W → Calls Tryz.prog 80 #[St t] W fun e w' => e = .returned (.int .u8 (opF t : Int)) ∧ Below w.heap.size w w') := hid (fun W hW => (op_any t W).mono (fun e w' ⟨h1, h2⟩ => ⟨h1, hW.trans (h2.mono hW.size)⟩))
 have HOH := hid (opF_hash t)
 generalize opF t = ot at *
 generalize Lk.isOp t 72 = oh at *
 by_cases k1 : kd = 1
 · subst k1
   rw [if_pos rfl] at hR
   have HR := hid hR
   clear hR
   go_enter Tryz.func59, Tryz.ntmps59
   go_wp2_with fail
   go_quiet (fail)
   go_wp2_with fail
   all_goals first
     | (refine (HK.out _ (below_ad _ _ _)).mono ?_
        rintro e w1 ⟨rfl, hb⟩
        have HB := hid hb
        clear hb
        go_wp2_with fail
        go_ret
        exact ⟨by rw [HR.out]; simp [*], HB.out⟩)
     | (go_ret
        exact ⟨by rw [HR.out]; simp [*], below_ad _ _ _⟩)
 · by_cases k2 : kd = 2
   · subst k2
     rw [if_neg (by omega), if_pos rfl] at hR
     have HR := hid hR
     clear hR
     go_enter Tryz.func59, Tryz.ntmps59
     go_wp2_with fail
     go_quiet (fail)
     go_wp2_with fail
     all_goals first
       | (refine (HO.out _ (below_ad _ _ _)).mono ?_
          rintro e w1 ⟨rfl, hb⟩
          have HB := hid hb
          clear hb
          go_wp2_with fail
          go_ret
          refine ⟨?_, HB.out⟩
          rw [HR.out, ← HOH.out]
          simp [*]
          rfl)
       | (go_ret
          exact ⟨by rw [HR.out]; simp [*], below_ad _ _ _⟩)
   · by_cases k3 : kd = 3 ∨ kd = 4
     · rw [if_neg k1, if_neg k2, if_pos k3] at hR
       have HR := hid hR
       clear hR
       rcases k3 with rfl | rfl
       all_goals
         go_enter Tryz.func59, Tryz.ntmps59
         go_wp2_with fail
         go_quiet (fail)
         go_wp2_with fail
         all_goals
           go_ret
           exact ⟨by rw [HR.out]; first | (simp [*]; done) | (simp [*]; omega), below_ad _ _ _⟩
     · by_cases k5 : kd = 5 ∨ kd = 6
       · rw [if_neg k1, if_neg k2, if_neg k3, if_pos k5] at hR
         have HR := hid hR
         clear hR
         rcases k5 with rfl | rfl
         all_goals
           go_enter Tryz.func59, Tryz.ntmps59
           go_wp2_with fail
           go_quiet (fail)
           go_wp2_with fail
           all_goals
             go_ret
             exact ⟨by rw [HR.out]; first | (simp [*]; done) | (simp [*]; rw [Bool.eq_iff_iff]; simp; omega), below_ad _ _ _⟩
       · rw [if_neg k1, if_neg k2, if_neg k3, if_neg k5] at hR
         have HR := hid hR
         clear hR
         have i1 : ¬ (kd : Int) = 1 := by omega
         have i2 : ¬ (kd : Int) = 2 := by omega
         have i3 : ¬ (kd : Int) = 3 := by omega
         have i4 : ¬ (kd : Int) = 4 := by omega
         have i5 : ¬ (kd : Int) = 5 := by omega
         have i6 : ¬ (kd : Int) = 6 := by omega
         clear k1 k2 k3 k5
         go_enter Tryz.func59, Tryz.ntmps59
         go_wp2_with fail
         go_quiet (fail)
         go_wp2_with fail
         go_ret
         exact ⟨by rw [HR.out]; rfl, below_ad _ _ _⟩
end Go.Proofs.YtdllpklecdmghaaGreatDoor
/- The library's number writing and byte search, by their contracts. -/
namespace Go.Proofs.YtdllpklecdmghaaGreatDoor
open Go.RowKit
section
open Go.Shelf
def Tryz.lays137_ren : Go.Shelf.Ren := ⟨fun | 137 => 61 | 217 => 82 | 266 => 103 | n => n, fun | 9 => 9 | 5 => 5 | 3 => 3 | n => n, fun | n => n⟩
theorem Tryz.lays147 : Go.Proofs.Lays.n137 Tryz.prog Tryz.lays137_ren := {
 mixed := by kernel_rfl
 f137 := Tryz.func61.trans (congrArg some (by kernel_rfl))
 f217 := Tryz.func82.trans (congrArg some (by kernel_rfl))
 f266 := Tryz.func103.trans (congrArg some (by kernel_rfl))
 t3 := Tryz.underlying3
 a3 := Tryz.isAgg3
 z3 := Tryz.sizeOf3
 v3 := Tryz.zeroValue3
 t5 := Tryz.underlying5
 a5 := Tryz.isAgg5
 z5 := Tryz.sizeOf5
 v5 := Tryz.zeroValue5
 t9 := Tryz.underlying9
 a9 := Tryz.isAgg9
 z9 := Tryz.sizeOf9
 v9 := Tryz.zeroValue9 }
open Go.RowKit in
theorem Tryz.strings_IndexByte (s : ByteArray) (c : Int) (w : World) :
   Calls Tryz.prog 61 #[.string s, .int .u8 c] w fun e w' => e = .returned (.int .i64 (Lib.indexByte s.data.toList c.toNat.toUInt8)) ∧ w' = w := Any.strings_IndexByte Tryz.lays147 s c w
def Tryz.laysM176_ren : Go.Shelf.Ren := ⟨fun | 176 => 57 | 249 => 78 | 288 => 97 | 283 => 107 | 284 => 108 | 285 => 109 | 286 => 110 | 129 => 115 | 317 => 114 | 318 => 116 | 319 => 117 | 320 => 118 | 337 => 129 | 338 => 130 | n => n, fun | 37 => 51 | 2 => 2 | 3 => 3 | 53 => 90 | 4 => 4 | 9 => 9 | 171 => 121 | 0 => 0 | 173 => 124 | 212 => 128 | 51 => 129 | 5 => 5 | 20 => 20 | 213 => 130 | 46 => 132 | 232 => 138 | 233 => 139 | n => n, fun | 17 => 1 | 18 => 2 | 19 => 3 | n => n⟩
theorem Tryz.laysM176 : Go.Proofs.LaysM.n176 Tryz.prog Tryz.laysM176_ren := {
 mixed := by kernel_rfl
 f129 := Tryz.func115.trans (congrArg some (by kernel_rfl))
 f176 := Tryz.func57.trans (congrArg some (by kernel_rfl))
 f249 := Tryz.func78.trans (congrArg some (by kernel_rfl))
 f283 := Tryz.func107.trans (congrArg some (by kernel_rfl))
 f284 := Tryz.func108.trans (congrArg some (by kernel_rfl))
 f285 := Tryz.func109.trans (congrArg some (by kernel_rfl))
 f286 := Tryz.func110.trans (congrArg some (by kernel_rfl))
 f288 := Tryz.func97.trans (congrArg some (by kernel_rfl))
 f317 := Tryz.func114.trans (congrArg some (by kernel_rfl))
 f318 := Tryz.func116.trans (congrArg some (by kernel_rfl))
 f319 := Tryz.func117.trans (congrArg some (by kernel_rfl))
 f320 := Tryz.func118.trans (congrArg some (by kernel_rfl))
 f337 := Tryz.func129.trans (congrArg some (by kernel_rfl))
 f338 := Tryz.func130.trans (congrArg some (by kernel_rfl))
 t0 := Tryz.underlying0
 a0 := Tryz.isAgg0
 z0 := Tryz.sizeOf0
 v0 := Tryz.zeroValue0
 t2 := Tryz.underlying2
 a2 := Tryz.isAgg2
 z2 := Tryz.sizeOf2
 v2 := Tryz.zeroValue2
 t3 := Tryz.underlying3
 a3 := Tryz.isAgg3
 z3 := Tryz.sizeOf3
 v3 := Tryz.zeroValue3
 t4 := Tryz.underlying4
 a4 := Tryz.isAgg4
 z4 := Tryz.sizeOf4
 v4 := Tryz.zeroValue4
 t5 := Tryz.underlying5
 a5 := Tryz.isAgg5
 z5 := Tryz.sizeOf5
 v5 := Tryz.zeroValue5
 t9 := Tryz.underlying9
 a9 := Tryz.isAgg9
 z9 := Tryz.sizeOf9
 v9 := Tryz.zeroValue9
 t20 := Tryz.underlying20
 a20 := Tryz.isAgg20
 z20 := Tryz.sizeOf20
 v20 := Tryz.zeroValue20
 t37 := Tryz.underlying51
 a37 := Tryz.isAgg51
 z37 := Tryz.sizeOf51
 v37 := Tryz.zeroValue51
 t46 := Tryz.underlying132
 a46 := Tryz.isAgg132
 z46 := Tryz.sizeOf132
 v46 := Tryz.zeroValue132
 t51 := Tryz.underlying129
 a51 := Tryz.isAgg129
 z51 := Tryz.sizeOf129
 v51 := Tryz.zeroValue129
 t53 := Tryz.underlying90
 a53 := Tryz.isAgg90
 z53 := Tryz.sizeOf90
 v53 := Tryz.zeroValue90
 t171 := Tryz.underlying121
 a171 := Tryz.isAgg121
 z171 := Tryz.sizeOf121
 v171 := Tryz.zeroValue121
 t173 := Tryz.underlying124
 a173 := Tryz.isAgg124
 z173 := Tryz.sizeOf124
 v173 := Tryz.zeroValue124
 t212 := Tryz.underlying128
 a212 := Tryz.isAgg128
 z212 := Tryz.sizeOf128
 v212 := Tryz.zeroValue128
 t213 := Tryz.underlying130
 a213 := Tryz.isAgg130
 z213 := Tryz.sizeOf130
 t232 := Tryz.underlying138
 a232 := Tryz.isAgg138
 z232 := Tryz.sizeOf138
 v232 := Tryz.zeroValue138
 t233 := Tryz.underlying139
 a233 := Tryz.isAgg139
 z233 := Tryz.sizeOf139
 v233 := Tryz.zeroValue139
 g17 := by kernel_rfl
 g18 := by kernel_rfl
 g19 := by kernel_rfl
 i0 := by kernel_rfl
 i2 := by kernel_rfl
 i3 := by kernel_rfl
 i4 := by kernel_rfl
 i5 := by kernel_rfl
 i9 := by kernel_rfl
 i20 := by kernel_rfl
 i37 := by kernel_rfl
 i46 := by kernel_rfl
 i51 := by kernel_rfl
 i53 := by kernel_rfl
 i171 := by kernel_rfl
 i173 := by kernel_rfl
 i212 := by kernel_rfl
 i232 := by kernel_rfl
 i233 := by kernel_rfl
 m17 := by kernel_rfl
 m18 := by kernel_rfl
 m19 := by kernel_rfl }
open Go.RowKit Go.Sort Go.Lib in
theorem Tryz.strconv_AppendInt_10 (B n : Nat) (i : Int) (h0 : -9223372036854775808 ≤ i) (h1 : i ≤ 9223372036854775807) (sv : Value) (xs : List Value) (w : World) (hown : w.ownsRow B 5 1 sv n xs) (hBw : B ≤ w.heap.size) (hlim : n + 21 ≤ 140737488355328) (htab : Lib.TabBelow Tryz.prog B w "internal/strconv.uint64pow10" .u64 Lib.pow10Tab) :
   Calls Tryz.prog 57 #[sv, .int .i64 i, .int .i64 10] w fun e w' => ∃ v', e = .returned v' ∧ w'.ownsRow B 5 1 v' (n + (Lib.itoa i).length) (xs ++ Lib.byteCells (Lib.itoa i)) ∧ Below B w w' ∧ Lib.OthersKept 5 none w w' := Any.strconv_AppendInt_10 Tryz.laysM176 B n i h0 h1 sv xs w hown hBw hlim htab
end
def Pw (w : World) : Prop := Lib.TabIs Tryz.prog w "internal/strconv.uint64pow10" .u64 Lib.pow10Tab
theorem Tryz.gP : ∃ g, Tryz.prog.globalNamed "internal/strconv.uint64pow10" = some g := Option.isSome_iff_exists.1 (by kernel_rfl)
theorem Pw.below {w w' : World} (h : Pw w) (hb : Below w.heap.size w w') : Pw w' := by
 obtain ⟨g, hg⟩ := Tryz.gP
 unfold Pw Lib.TabIs World.var? at *
 rw [hg] at h ⊢
 simp only [Option.bind_some] at h ⊢
 have hlt : g < w.heap.size := by
   apply Classical.byContradiction
   intro hn
   rw [Array.getElem?_eq_none (by omega)] at h
   cases h
 rw [hb.block g hlt]
 exact h
abbrev dec (n : Nat) : Bs := Lib.decDigits n
theorem appint_any (w0 w : World) (hp : Pw w0) (hB : Below w0.heap.size w0 w) (n : Nat) (hn : n ≤ 9223372036854775807) (v : Value) (k : Nat) (l : Bs) (hk : k = l.length) (hown : w.ownsRow w0.heap.size 5 1 v k (Lib.byteCells l)) (hl : l.length + 21 ≤ 140737488355328) :
   Calls Tryz.prog 57 #[v, .int .i64 (n : Int), .int .i64 10] w fun e w' => ∃ v', e = .returned v' ∧ w'.ownsRow w0.heap.size 5 1 v' (l ++ dec n).length (Lib.byteCells (l ++ dec n)) ∧ Below w0.heap.size w0 w' ∧ Lib.OthersKept 5 none w w' := by
 subst hk
 refine (Tryz.strconv_AppendInt_10 w0.heap.size l.length (n : Int) (by omega) (by omega) v (Lib.byteCells l) w hown hB.size hl ((Lib.tabBelow_of_tabIs hp).on hB)).mono ?_
 rintro e w' ⟨v', he, h1, h2, h3⟩
 refine ⟨v', he, ?_, hB.trans h2, h3⟩
 rw [Lib.itoa_nonneg] at h1
 have e1 : Lib.byteCells l ++ Lib.byteCells (Lib.decDigits n) = Lib.byteCells (l ++ dec n) := by simp [Lib.byteCells]
 rw [e1] at h1
 rw [List.length_append]
 exact h1
end Go.Proofs.YtdllpklecdmghaaGreatDoor
/- Whether a lock is right: what room does, whatever lock it is handed. -/
namespace Go.Proofs.YtdllpklecdmghaaGreatDoor
open Go.RowKit
open Lk (Lt)
namespace Lk
theorem rooms_app : ∀ (a b : List Lt) (p : Nat), rooms (a ++ b) p = (rooms a p).bind (rooms b)
 | [], b, p => by simp [rooms]
 | x :: a, b, p => by
   rw [List.cons_append, rooms, rooms]
   cases room x p with
   | none => rfl
   | some q => exact rooms_app a b q
theorem rooms_one (x : Lt) (p : Nat) : rooms [x] p = room x p := by
 rw [rooms]
 cases room x p with
 | none => rfl
 | some q => simp [rooms]
theorem rooms_next {ks : List Lt} {i : Nat} (hi : i < ks.length) {p q : Nat} (h : rooms (ks.take i) p = some q) : rooms (ks.take (i + 1)) p = room ks[i] q := by
 rw [List.take_add_one, List.getElem?_eq_getElem hi, rooms_app, h]
 exact rooms_one _ _
theorem rooms_none {ks : List Lt} {i : Nat} {p : Nat} (h : rooms (ks.take i) p = none) : rooms ks p = none := by
 rw [← List.take_append_drop i ks, rooms_app, h]
 rfl
theorem room_lt {l : Lt} {p q : Nat} (h : room l p = some q) : q < p := by
 rw [room_is] at h
 split at h
 · rename_i hh
   cases h
   have := size_pos l
   omega
 · cases h
theorem rooms_le : ∀ {ks : List Lt} {p q : Nat}, rooms ks p = some q → q ≤ p
 | [], p, q, h => by simp [rooms] at h; omega
 | x :: ks, p, q, h => by
   rw [rooms] at h
   match hr : room x p with
   | none => rw [hr] at h; cases h
   | some r =>
     rw [hr] at h
     have := room_lt hr
     have := rooms_le h
     omega
end Lk
def roomI (l : Lt) (p : Nat) : Int := match Lk.room l p with
 | none => -1
 | some q => (q : Int)
theorem roomI_none {l : Lt} {p : Nat} (h : Lk.room l p = none) : roomI l p = -1 := by unfold roomI; rw [h]
theorem roomI_some {l : Lt} {p q : Nat} (h : Lk.room l p = some q) : roomI l p = (q : Int) := by unfold roomI; rw [h]
set_option maxHeartbeats 4000000 in
theorem room_any {b : Nat → Prop} (d : Nat) : ∀ (l : Lt) (kv : Value) (w : World) (p : Nat), Kd b w d kv l.kids → p ≤ 64 → Calls Tryz.prog 35 #[.agg (lcs l kv), .int .i64 (p : Int)] w fun e w' => e = .returned (.int .i64 (roomI l p)) ∧ Below w.heap.size w w' := by
 induction d using Nat.strongRecOn with
 | ind d ih =>
   intro l kv w p hk hp
   obtain ⟨kd, t, n, ks⟩ := l
   obtain ⟨hl, ao, cap, rfl, hks⟩ := hk.parts
   clear hk
   have hl : ks.length ≤ 140737488355328 := hl
   have hks : Kr b w d ao ks := hks
   show Calls Tryz.prog 35 #[.agg #[.int .u8 (kd : Int), St t, .int .i64 n, .slice ao ks.length cap], .int .i64 (p : Int)] w fun e w' => e = .returned (.int .i64 (roomI (.mk kd t n ks) p)) ∧ Below w.heap.size w w'
   obtain ⟨R, hR⟩ : ∃ R, R = roomI (.mk kd t n ks) p := ⟨_, rfl⟩
   rw [← hR]
   have HF : Hid (∀ W, Below w.heap.size w W → Calls Tryz.prog 59 #[.agg #[.int .u8 (kd : Int), St t, .int .i64 n, .slice ao ks.length cap]] W fun e w' => e = .returned (.bool (fitV kd t n ks.length)) ∧ Below w.heap.size w w') := hid (fun W hW => (fits_any kd t n ao ks.length cap W).mono (fun e w' ⟨h1, h2⟩ => ⟨h1, hW.trans (h2.mono hW.size)⟩))
   have HF2 : Hid (Lk.fit (.mk kd t n ks) = fitV kd t n ks.length) := hid rfl
   obtain ⟨m, hm⟩ : ∃ m, m = ks.length := ⟨_, rfl⟩
   rw [← hm] at hl HF HF2 ⊢
   obtain ⟨ft, hft⟩ : ∃ ft, ft = fitV kd t n m := ⟨_, rfl⟩
   rw [← hft] at HF HF2
   have HFT := hid hft.symm
   clear hft
   have HM := hid hm
   have HKS := hid hks
   have HL := hid hl
   have HP := hid hp
   have HIH := hid ih
   have HRV := hid hR
   clear hks hm hp ih hR
   by_cases hp0 : p = 0
   · subst hp0
     go_enter Tryz.func35, Tryz.ntmps35
     go_wp2_with fail
     go_ret
     exact ⟨by rw [HRV.out, roomI_none (by rw [Lk.room, if_pos rfl])]; rfl, below_al _ _⟩
   · have hpi : ¬ (p : Int) = 0 := by omega
     cases ft with
     | false =>
       go_enter Tryz.func35, Tryz.ntmps35
       go_wp2_with fail
       refine (HF.out _ (below_al _ _)).mono ?_
       rintro e w1 ⟨rfl, hb⟩
       have HB := hid hb
       clear hb
       go_wp2_with fail
       go_ret
       exact ⟨by rw [HRV.out, roomI_none (by rw [Lk.room, if_neg hp0, HF2.out]; rfl)]; rfl, HB.out⟩
     | true =>
       have hpw : IntKind.i64.wrap ((p : Int) - 1) = ((p - 1 : Nat) : Int) := by rw [IntKind.wrap_i64]; have := HP.out; omega
       have HRM : Hid (Lk.room (.mk kd t n ks) p = Lk.rooms ks (p - 1)) := hid (by rw [Lk.room, if_neg hp0, if_pos HF2.out])
       obtain ⟨bx, hbx⟩ : ∃ bx, bx = w.heap.size := ⟨_, rfl⟩
       obtain ⟨w0, hw0⟩ : ∃ w0, w0 = w.alloc (.cells #[.int .u8 (kd : Int), St t, .int .i64 n, .slice ao m cap] 25) := ⟨_, rfl⟩
       have HB0 : Hid (Below w.heap.size w w0) := hid (by rw [hw0]; exact below_al _ _)
       have HC0 : Hid (∀ W, Below w0.heap.size w0 W → W.cell? ⟨bx, 3, none⟩ = some (.slice ao m cap)) := hid (fun W hW => cell_later hW (by rw [hw0, hbx]; exact (cell_of_heap (heap_alloc_new w _) 3).trans rfl))
       have HF3 := hid (fits_any kd t n ao m cap w0)
       go_enter Tryz.func35, Tryz.ntmps35
       go_wp2_with fail
       rw [← hw0, ← hbx]
       refine HF3.out.mono ?_
       rintro e w1 ⟨rfl, hb⟩
       have hft : fitV kd t n m = true := HFT.out
       rw [hft]
       have c3 := HC0.out w1 hb
       have HB1 : Hid (Below w.heap.size w w1) := hid (HB0.out.trans (hb.mono HB0.out.size))
       clear hb HF3 HC0 hft hw0 hbx
       go_wp2_with fail
       have hpb : ((p : Int) == 0) = false := by simpa using hpi
       simp only [hpb]
       go_loopg [1, 19] m (fun gg v1 v19 wr => ∃ i q : Nat, gg = m - i ∧ i ≤ m ∧ v1 = .int .i64 (q : Int) ∧ v19 = .int .i64 (i : Int) ∧ Lk.rooms (ks.take i) (p - 1) = some q ∧ Below w.heap.size w wr)
       case atStart => exact ⟨0, p - 1, rfl, Nat.zero_le _, rfl, rfl, rfl, HB1.out⟩
       case round =>
         obtain ⟨i, q, rfl, hi, rfl, rfl, hrs, hB⟩ := hrel
         by_cases him : i < m
         · have hik : i < ks.length := by have := HM.out; omega
           obtain ⟨g, o, hg, _, hc⟩ := (HKS.out.low hB) (by omega)
           subst hg
           obtain ⟨kv, hcs, hlr, d', hd', hkd⟩ := hc i hik
           obtain ⟨x, hx⟩ : ∃ x, x = ks[i] := ⟨_, rfl⟩
           rw [← hx] at hcs hlr hkd
           obtain ⟨_, a2, c2, rfl⟩ := hkd.shape
           have e0 : wr.cell? ⟨g, o + i * 4, none⟩ = some (.int .u8 (x.kind : Int)) := hcs 0 _ rfl
           have e1 : wr.cell? ⟨g, o + i * 4 + 1, none⟩ = some (St x.term) := hcs 1 _ rfl
           have e2 : wr.cell? ⟨g, o + i * 4 + 2, none⟩ = some (.int .i64 x.n) := hcs 2 _ rfl
           have e3 : wr.cell? ⟨g, o + i * 4 + 3, none⟩ = some (.slice a2 x.kids.length c2) := hcs 3 _ rfl
           have hq64 : q ≤ 64 := by have := Lk.rooms_le hrs; have := HP.out; omega
           have HCA : Hid (∀ W, Below wr.heap.size wr W → Calls Tryz.prog 35 #[.agg #[.int .u8 (x.kind : Int), St x.term, .int .i64 x.n, .slice a2 x.kids.length c2], .int .i64 (q : Int)] W fun e w' => e = .returned (.int .i64 (roomI x q)) ∧ Below w.heap.size w w') := hid (fun W hW => (HIH.out d' hd' x _ W q (hkd.low hW) hq64).mono (fun e w' ⟨h1, h2⟩ => ⟨h1, (hB.trans (hW.mono hB.size)).trans (h2.mono (Nat.le_trans hB.size hW.size))⟩))
           have hiw : IntKind.i64.wrap ((i : Int) + 1) = ((i + 1 : Nat) : Int) := by rw [IntKind.wrap_i64]; have := HL.out; omega
           have hi0 : (0 : Int) ≤ (i : Int) := Int.natCast_nonneg _
           have hi1 : (i : Int) < (m : Int) := by omega
           have HNX : Hid (Lk.rooms (ks.take (i + 1)) (p - 1) = Lk.room x q) := hid (by rw [hx]; exact Lk.rooms_next hik hrs)
           have HI := hid him
           clear hcs hlr hkd hc hrs hik him hi hx hq64
           go_wp2_with fail
           refine (HCA.out _ (below_al _ _)).mono ?_
           rintro e w2 ⟨rfl, hb2⟩
           have HB2 := hid hb2
           clear hb2 HCA
           cases hrm : Lk.room x q with
           | none =>
             rw [roomI_none hrm]
             go_wp2_with fail
             go_ret
             exact ⟨by rw [HRV.out, roomI_none (by rw [HRM.out, Lk.rooms_none (HNX.out.trans hrm)])]; rfl, HB2.out⟩
           | some r =>
             rw [roomI_some hrm]
             have hr0 : ¬ (r : Int) < 0 := by omega
             go_wp2_with fail
             go_roundg (m - (i + 1))
             case measure => have := HI.out; omega
             case rel => exact ⟨i + 1, r, rfl, HI.out, rfl, rfl, HNX.out.trans hrm, HB2.out⟩
         · have hie : i = m := by omega
           subst hie
           have hin : ¬ (i : Int) < (i : Int) := by omega
           have HE : Hid (roomI (.mk kd t n ks) p = (q : Int)) := hid (roomI_some (by rw [HRM.out]; rw [HM.out, List.take_length] at hrs; exact hrs))
           have HB3 := hid hB
           clear hrs hB hi him
           go_wp2_with fail
           go_ret
           exact ⟨by rw [HRV.out, HE.out]; rfl, HB3.out⟩
theorem lright_any {b : Nat → Prop} (d : Nat) (l : Lt) (kv : Value) (w : World) (hk : Kd b w d kv l.kids) : Calls Tryz.prog 10 #[.agg (lcs l kv)] w fun e w' => e = .returned (.bool (Lk.right l)) ∧ Below w.heap.size w w' := by
 have HR : Hid (Lk.right l = decide (0 ≤ roomI l 64)) := hid (by
   unfold Lk.right roomI
   cases Lk.room l 64 with
   | none => rfl
   | some q => simp)
 have HC : Hid (∀ W, Below w.heap.size w W → Calls Tryz.prog 35 #[.agg (lcs l kv), .int .i64 64] W fun e w' => e = .returned (.int .i64 (roomI l 64)) ∧ Below w.heap.size w w') := hid (fun W hW => (room_any d l kv W 64 (hk.low hW) (by omega)).mono (fun e w' ⟨h1, h2⟩ => ⟨h1, hW.trans (h2.mono hW.size)⟩))
 obtain ⟨_, ao, cap, rfl⟩ := hk.shape
 clear hk
 generalize roomI l 64 = r at *
 generalize Lk.right l = R at *
 unfold lcs at *
 go_enter Tryz.func10, Tryz.ntmps10
 go_wp2_with fail
 refine (HC.out _ (below_al _ _)).mono ?_
 rintro e w1 ⟨rfl, hb⟩
 have HB := hid hb
 clear hb HC
 go_wp2_with fail
 go_ret
 exact ⟨by rw [HR.out]; rfl, HB.out⟩
end Go.Proofs.YtdllpklecdmghaaGreatDoor
