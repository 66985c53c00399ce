/- A text of n equal bytes. -/
import Derived.Test.YtcmpiffkmnbepaaDoorMLawB
import Derived.Deep.OwnRows
namespace Go.Proofs.YtcmpiffkmnbepaaDoor
open Go.RowKit

theorem setCell_same {w : World} {b : Nat} {cs : Array Value} {t : TypeId} (h : w.heap[b]? = some (.cells cs t (0, 0))) (o : Nat) (v : Value) :
    (w.setCell ⟨b, o, none⟩ v).heap[b]? = some (.cells (cs.setIfInBounds o v) t (0, 0)) := by
  simp [World.setCell, Array.getElem?_modify, h]
theorem not_frozen {w : World} {b : Nat} {cs : Array Value} {t : TypeId} (h : w.heap[b]? = some (.cells cs t (0, 0))) (o : Nat) : w.frozen? ⟨b, o, none⟩ = false := by
  simp [World.frozen?, h]
theorem below_set {w0 w : World} {g o : Nat} {v : Value} (h : Below w0.heap.size w0 w) (hg : w0.heap.size ≤ g) : Below w0.heap.size w0 (w.setCell ⟨g, o, none⟩ v) :=
  ⟨h.os, h.tape, h.output, by simpa [World.setCell] using h.size, fun k hk => by rw [Below.heap_setCell _ _ _ _ (by show k ≠ g; omega)]; exact h.block k hk⟩

/-- a block of bytes -/
def Bk (w : World) (g : Nat) (L : Bs) : Prop := w.heap[g]? = some (.cells (bcs L).toArray 5 (0, 0))
theorem Bk.cell {w : World} {g : Nat} {L : Bs} (h : Bk w g L) (i : Nat) (hi : i < L.length) : w.cell? ⟨g, i, none⟩ = some (.int .u8 (L[i].toNat : Int)) := by
  rw [cell_of_heap h, List.getElem?_toArray]; simp [Lib.byteCells, hi]
theorem Bk.set {w : World} {g : Nat} {L : Bs} (h : Bk w g L) (i : Nat) (b : UInt8) : Bk (w.setCell ⟨g, i, none⟩ (.int .u8 (b.toNat : Int))) g (L.set i b) := by
  rw [Bk, setCell_same h]
  congr 2
  apply Array.ext'
  simp [Lib.byteCells, List.map_set]
theorem made_bytes (n : Nat) : madeCells #[.int .u8 0] n = (bcs (List.replicate n 0)).toArray := by
  apply Array.ext'
  simp [madeCells, Lib.byteCells, Nat.mod_one]
  exact (List.map_const' (l := List.range n) (b := Value.int .u8 0)).trans (by simp)
theorem make_any (n : Nat) (h : n ≤ 10000) (W : World) : (Instr.makeSlice 43 (.int .i64 (n : Int)) (.int .i64 (n : Int))).run Tryd.prog W = .ok (.slice (some ⟨W.heap.size, 0, none⟩) n n) (W.alloc (.cells (bcs (List.replicate n 0)).toArray 5)) := by
  rw [← made_bytes]
  exact Go.run_make_row' 43 5 (.int .u8 0) 1 Tryd.underlying43 Tryd.info5 rfl .i64 .i64 n (by omega) (by omega) W

/-- some of it is c already -/
def part (n i : Nat) (c : UInt8) : Bs := List.replicate i c ++ List.replicate (n - i) 0
theorem part_len {n i : Nat} (c : UInt8) (h : i ≤ n) : (part n i c).length = n := by simp [part]; omega
theorem part_set {n i : Nat} (c : UInt8) (h : i < n) : (part n i c).set i c = part n (i + 1) c := by
  unfold part
  have e := List.set_append_right (s := List.replicate i c) (t := List.replicate (n - i) (0 : UInt8)) i c (by simp)
  refine Eq.trans e ?_
  obtain ⟨m, hm⟩ : ∃ m, n - i = m + 1 := ⟨n - i - 1, by omega⟩
  rw [hm, List.replicate_succ, show n - (i + 1) = m by omega, List.replicate_succ']
  simp

set_option maxHeartbeats 2000000 in
set_option maxRecDepth 100000 in
theorem row_any (c : UInt8) (n : Nat) (hn : n ≤ 10000) (w : World) : Calls Tryd.prog 48 #[.int .u8 (c.toNat : Int), .int .i64 (n : Int)] w fun en w' => en = .returned (St (List.replicate n c)) ∧ Below w.heap.size w w' := by
  have hmk := make_any n hn
  have HN := hid hn
  generalize hcn : (c.toNat : Int) = cn
  have HCN := hid hcn
  clear hcn
  go_enter Tryd.func48, Tryd.ntmps48
  go_wp2_with fail
  obtain ⟨g, hg⟩ : ∃ g, g = w.heap.size := ⟨_, rfl⟩
  have HB0 : Hid (Below w.heap.size w (w.alloc (.cells (bcs (List.replicate n 0)).toArray 5))) := hid (below_alloc_self' w _)
  have HK0 : Hid (Bk (w.alloc (.cells (bcs (List.replicate n 0)).toArray 5)) g (part n 0 c)) := by
    apply hid; rw [hg]; show _ = _; rw [heap_alloc_new]; simp [part]
  have HGW : Hid (w.heap.size ≤ g) := by apply hid; omega
  rw [← hg]
  generalize w.alloc (.cells (bcs (List.replicate n 0)).toArray 5) = w1 at HB0 HK0 ⊢
  clear hg hmk
  go_loopg [6] n (fun gg vi wr => ∃ i : Nat, i ≤ n ∧ gg = n - i ∧ vi = .int .i64 (i : Int) ∧ Below w.heap.size w wr ∧ Bk wr g (part n i c))
  case atStart => exact ⟨0, by omega, rfl, rfl, HB0.out, HK0.out⟩
  case round =>
    clear HB0 HK0
    obtain ⟨i, hi, rfl, rfl, hB, hK⟩ := hrel
    have HB := hid hB
    have HK := hid hK
    clear hB hK
    by_cases hil : i < n
    · have hi1 : (i : Int) < (n : Int) := by omega
      have HIL := hid hil
      have hce := HK.out.cell i (by rw [part_len c hi]; exact hil)
      have hfz : ∀ o, wr.frozen? ⟨g, o, none⟩ = false := fun o => not_frozen HK.out o
      generalize (((part n i c)[i]'(by rw [part_len c hi]; exact hil)).toNat : Int) = old at hce
      clear hi hil
      go_wp2_with fail
      go_roundg (n - (i + 1))
      case measure => have := HIL.out; omega
      case rel =>
        refine ⟨i + 1, HIL.out, rfl, rfl, below_set HB.out HGW.out, ?_⟩
        have h := HK.out.set i c
        rw [part_set c HIL.out, HCN.out] at h
        exact h
    · have hi1 : ¬ (i : Int) < (n : Int) := by omega
      obtain rfl : n = i := by omega
      have hcv : (convert 43 22 (.slice (some ⟨g, 0, none⟩) n n)).run Tryd.prog wr = .ok (St (List.replicate n c)) wr := by
        have e : part n n c = List.replicate n c := by simp [part]
        have h := run_convert_bytes_back (P := Tryd.prog) wr 43 22 5 ⟨g, 0, none⟩ n (List.replicate n c) Tryd.underlying43 Tryd.underlying5 Tryd.underlying22 (fun j hj => by
          have hk := HK.out
          rw [e] at hk
          rw [add_plain, Nat.zero_add]
          exact hk.cell j hj)
        rw [List.length_replicate] at h
        exact h
      obtain ⟨R, hR⟩ : ∃ R, R = List.replicate n c := ⟨_, rfl⟩
      rw [← hR] at hcv
      have HR := hid hR
      clear hR
      clear hi hil
      go_wp2_with fail
      go_ret
      exact ⟨by rw [← HR.out]; rfl, HB.out⟩
end Go.Proofs.YtcmpiffkmnbepaaDoor
