/- All that was heard, as the document keeps it. -/
import Derived.Test.YtmdiggbbgcjcnaaDoorSdQ
import Derived.Test.YtmdiggbbgcjcnaaDoorSdAll
namespace Go.Proofs.YtmdiggbbgcjcnaaDoor
open Go.RowKit

/-- all that was heard lies there -/
structure Rst (w : World) (B h : Nat) (v : Value) (H : List Bs) : Prop where
  blk : w.heap[h]? = some (.cells #[v] 34 (0, 0))
  own : w.ownsRow B 22 1 v H.length (H.map St)
theorem Rst.lt {w : World} {B h : Nat} {v : Value} {H : List Bs} (r : Rst w B h v H) : h < w.heap.size := lt_of_block r.blk
theorem Rst.below {w w' : World} {B h : Nat} {v : Value} {H : List Bs} (r : Rst w B h v H) (hb : Below w.heap.size w w') : Rst w' B h v H :=
  ⟨(hb.block h r.lt).trans r.blk, ownsRow_of_heap r.own hb.block⟩
theorem Rst.shape {w : World} {B h : Nat} {v : Value} {H : List Bs} (r : Rst w B h v H) : ∃ a c, v = .slice a H.length c := row_shape r.own
theorem Rst.cell {w : World} {B h : Nat} {v : Value} {H : List Bs} (r : Rst w B h v H) : w.cell? ⟨h, 0, none⟩ = some v := (cell_of_heap r.blk 0).trans rfl
/-- what a call on it leaves as it was -/
structure FrR (h : Nat) (v v' : Value) (w w' : World) : Prop where
  os : w'.os = w.os
  tape : w'.tape = w.tape
  output : w'.output = w.output
  size : w.heap.size ≤ w'.heap.size
  block : ∀ k, k < w.heap.size → k ≠ h → v.ownBlock ≠ some k → w'.heap[k]? = w.heap[k]?
  own : v'.ownBlock = v.ownBlock ∨ ∃ k, w.heap.size ≤ k ∧ v'.ownBlock = some k
theorem frR_below {h : Nat} {v : Value} {w w' : World} (hb : Below w.heap.size w w') : FrR h v v w w' := ⟨hb.os, hb.tape, hb.output, hb.size, fun k hk _ _ => hb.block k hk, Or.inl rfl⟩
theorem frR_of {w w' : World} {h B n : Nat} {v v' : Value} {xs : List Value} (f : FrR h v v' w w') (hB : B ≤ w.heap.size) (hh : B ≤ h) (ho : w.ownsRow B 22 1 v n xs) : Below B w w' :=
  ⟨f.os, f.tape, f.output, f.size, fun k hk => f.block k (by omega) (by omega) (fun e => by have := (ho.lt k e).1; omega)⟩

set_option maxHeartbeats 1000000 in
set_option maxRecDepth 100000 in
theorem rget_any {w : World} {B h : Nat} {v : Value} {H : List Bs} (i : Int) (hs : Rst w B h v H) (hl : H.length ≤ 1048576) : Calls Tryd.prog 16 #[.pointer (some ⟨h, 0, none⟩), .int .i64 i] w fun e w' => e = made (getH H i) ∧ Below w.heap.size w w' := by
  have h0 := hs.cell
  obtain ⟨a, c, rfl⟩ := hs.shape
  have HO := hid hs.own
  have hw1 : IntKind.i64.wrap (1048575 - (H.length : Int)) = 1048575 - (H.length : Int) := by rw [IntKind.wrap_i64]; omega
  obtain ⟨G, hG⟩ : ∃ G, G = getH H i := ⟨_, rfl⟩
  have HG := hid hG
  rw [← hG]
  clear hG hs
  by_cases h1 : 1048575 < i
  · have HR : Hid (G = ([], 5)) := hid (by rw [HG.out, getH, if_pos (Or.inr h1)])
    clear hl
    go_enter Tryd.func16, Tryd.ntmps16
    go_wp2_with fail
    go_ret2
    exact ⟨by rw [HR.out]; rfl, Below.refl _ _⟩
  · by_cases h2 : i ≤ 1048575 - (H.length : Int)
    · have HR : Hid (G = ([], 5)) := hid (by rw [HG.out, getH, if_pos (Or.inl (by omega))])
      clear hl
      go_enter Tryd.func16, Tryd.ntmps16
      go_wp2_with fail
      go_ret2
      exact ⟨by rw [HR.out]; rfl, Below.refl _ _⟩
    · obtain ⟨n, hn⟩ : ∃ n : Nat, (n : Int) = 1048575 - i := ⟨(1048575 - i).toNat, by omega⟩
      have HR : Hid (G = (H.getD n [], 0)) := hid (by rw [HG.out, getH, if_neg (by omega)]; congr 2; omega)
      obtain ⟨k, kc, e1, hk, hcell⟩ := own_text HO.out (by omega)
      obtain ⟨rfl, rfl⟩ : a = some ⟨k, 0, none⟩ ∧ c = kc := by injection e1 with q1 _ q2; exact ⟨q1, q2⟩
      have hc1 := hcell n (by omega)
      have hw2 : IntKind.i64.wrap (1048575 - i) = (n : Int) := by rw [IntKind.wrap_i64]; omega
      have hn0 : (0 : Int) ≤ (n : Int) := Int.natCast_nonneg _
      have hn1 : (n : Int) < (H.length : Int) := by omega
      generalize H.getD n [] = y at HR hc1
      clear hl hcell hk e1 hn
      go_enter Tryd.func16, Tryd.ntmps16
      go_wp2_with fail
      go_ret2
      exact ⟨by rw [HR.out]; rfl, Below.refl _ _⟩

set_option maxHeartbeats 2000000 in
set_option maxRecDepth 100000 in
theorem rkept_any {w : World} {B h : Nat} {v : Value} {H : List Bs} (hs : Rst w B h v H) (hl : H.length < 90) : Calls Tryd.prog 20 #[.pointer (some ⟨h, 0, none⟩)] w fun e w' => e = .returned (.int .i64 (Sd.popF H.length 21 0 : Int)) ∧ Below w.heap.size w w' := by
  obtain ⟨a, c, rfl⟩ := hs.shape
  have HS : Hid (∀ W, Below w.heap.size w W → W.cell? ⟨h, 0, none⟩ = some (.slice a H.length c)) := hid (fun W hW => (hs.below hW).cell)
  have HL := hid hl
  have HK : Hid (0 + Sd.cntF H.length H.length 0 = Sd.popF H.length 21 0) := hid (by rw [Sd.cnt_is hl]; omega)
  clear hs hl
  generalize Sd.popF H.length 21 0 = K at HK ⊢
  generalize H.length = n at *
  go_enter Tryd.func20, Tryd.ntmps20
  go_wp2_with fail
  go_loopg [3, 4] n (fun gg v3 v4 wr => ∃ i r : Nat, gg = n - i ∧ i ≤ n ∧ r ≤ i ∧ v4 = .int .i64 (i : Int) ∧ v3 = .int .i64 (r : Int) ∧ Hid (r + Sd.cntF n (n - i) i = K) ∧ Below w.heap.size w wr)
  case atStart => exact ⟨0, 0, rfl, Nat.zero_le _, Nat.le_refl _, rfl, rfl, HK, Below.refl _ _⟩
  case round =>
    obtain ⟨i, r, rfl, hi, hr, rfl, rfl, hrel, hb⟩ := hrel
    have h0 := HS.out wr hb
    have HBR := hid hb
    by_cases hin : i < n
    · have HE : Hid (r + ((if Sd.kp (2 ^ 20 - 1 - i) n then 1 else 0) + Sd.cntF n (n - (i + 1)) (i + 1)) = K) := hid (by have := hrel.out; rw [show n - i = (n - (i + 1)) + 1 from by omega, Sd.cntF] at this; exact this)
      have hlt : (i : Int) < (n : Int) := by omega
      have hat : IntKind.i64.wrap (1048575 - (i : Int)) = ((2 ^ 20 - 1 - i : Nat) : Int) := by rw [IntKind.wrap_i64]; have := HL.out; omega
      have hiw : IntKind.i64.wrap ((i : Int) + 1) = ((i + 1 : Nat) : Int) := by rw [IntKind.wrap_i64]; have := HL.out; omega
      have hrw : IntKind.i64.wrap ((r : Int) + 1) = ((r + 1 : Nat) : Int) := by rw [IntKind.wrap_i64]; have := HL.out; omega
      have HC := hid (rkp_any (2 ^ 20 - 1 - i) n (by have := HL.out; omega) (by omega) (by have := HL.out; omega) wr)
      have HI := hid hin
      have HRI := hid hr
      generalize Sd.kp (2 ^ 20 - 1 - i) n = b at HE HC
      generalize (2 ^ 20 - 1 - i : Nat) = p at hat HC
      clear hb hrel hin hi hr
      go_wp2_with fail
      refine HC.out.mono ?_
      rintro e w1 ⟨rfl, hb⟩
      have HB1 := hid (HBR.out.trans (hb.mono HBR.out.size))
      clear hb
      cases b with
      | true =>
        have HE2 : Hid (r + 1 + Sd.cntF n (n - (i + 1)) (i + 1) = K) := hid (by have := HE.out; simp only [if_true] at this; omega)
        clear HE
        go_wp2_with fail
        go_roundg (n - (i + 1))
        case measure => have := HI.out; omega
        case rel => exact ⟨i + 1, r + 1, rfl, HI.out, by have := HRI.out; omega, by go_num, by go_num, HE2, HB1.out⟩
      | false =>
        have HE2 : Hid (r + Sd.cntF n (n - (i + 1)) (i + 1) = K) := hid (by have := HE.out; simpa using this)
        clear HE
        go_wp2_with fail
        go_roundg (n - (i + 1))
        case measure => have := HI.out; omega
        case rel => exact ⟨i + 1, r, rfl, HI.out, by have := HRI.out; omega, by go_num, rfl, HE2, HB1.out⟩
    · have hie : i = n := by omega
      subst hie
      have hlt : ¬ (i : Int) < (i : Int) := by omega
      have HE : Hid (r = K) := hid (by have := hrel.out; rw [Nat.sub_self, Sd.cntF] at this; exact this)
      clear hb hrel hin hi hr
      go_wp2_with fail
      go_ret
      exact ⟨by rw [HE.out]; rfl, HBR.out⟩
end Go.Proofs.YtmdiggbbgcjcnaaDoor
