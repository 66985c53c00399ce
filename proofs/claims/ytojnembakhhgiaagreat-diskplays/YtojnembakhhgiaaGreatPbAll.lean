import Derived.Test.YtojnembakhhgiaaGreatKmAll
import Derived.Test.YtojnembakhhgiaaGreatRxAll
import Derived.Test.YtojnembakhhgiaaGreatPA
/- So many bytes of one kind; a row of bytes written over. -/
namespace Go.Proofs.YtojnembakhhgiaaGreat
open Go.RowKit

theorem fill_set (n j : Nat) (c : UInt8) (hj : j < n) : (bcs (List.replicate j c ++ List.replicate (n - j) 0)).set j (.int .u8 (c.toNat : Int)) = bcs (List.replicate (j + 1) c ++ List.replicate (n - (j + 1)) 0) := by
  have e : n - j = (n - (j + 1)) + 1 := by omega
  rw [e, List.replicate_succ]
  unfold bcs
  rw [List.map_append, List.set_append_right _ _ (by simp), List.length_map, List.length_replicate, Nat.sub_self, List.map_cons, List.set_cons_zero, List.replicate_succ', List.append_assoc, List.map_append, List.map_append]
  rfl
set_option maxRecDepth 100000 in
set_option maxHeartbeats 4000000 in
theorem bytes_any (w : World) (n : Nat) (hn : n ≤ 1000000) (c : UInt8) :
    Calls Tryz.prog 27 #[.int .i64 (n : Int), .int .u8 (c.toNat : Int)] w fun e w' => e = .returned (.slice (some ⟨w.heap.size, 0, none⟩) n n) ∧ w'.heap[w.heap.size]? = some (.cells (bcs (List.replicate n c)).toArray 5 (0, 0)) ∧ Below w.heap.size w w' := by
  have hmk := make_n n hn w
  obtain ⟨w1, hw1⟩ : ∃ w1, w1 = w.alloc (.cells (bcs (List.replicate n 0)).toArray 5) := ⟨_, rfl⟩
  have hb1 : w1.heap[w.heap.size]? = some (.cells (bcs (List.replicate n 0)).toArray 5 (0, 0)) := by rw [hw1]; exact heap_alloc_new w _
  have hB1 : Below w.heap.size w w1 := hw1 ▸ (Below.refl _ _).alloc (Nat.le_refl _) _
  rw [← hw1] at hmk
  have HN := hid hn
  have hnb : (n : Int) ≤ 1000000 := by omega
  have HB1 := hid hb1
  have HBB := hid hB1
  obtain ⟨C, hC⟩ : ∃ C : Int, C = (c.toNat : Int) := ⟨_, rfl⟩
  rw [← hC]
  have HC := hid hC
  clear hw1 hb1 hB1 hn hC
  go_enter Tryz.func27, Tryz.ntmps27
  go_wp2_with fail
  go_loopg [6] n (fun gg vj wr => ∃ j : Nat, gg = n - j ∧ j ≤ n ∧ vj = .int .i64 (j : Int) ∧ wr.heap[w.heap.size]? = some (.cells (bcs (List.replicate j c ++ List.replicate (n - j) 0)).toArray 5 (0, 0)) ∧ Below w.heap.size w wr)
  case atStart => exact ⟨0, rfl, Nat.zero_le _, rfl, HB1.out, HBB.out⟩
  case round =>
    obtain ⟨j, rfl, hj, rfl, hb, hB⟩ := hrel
    by_cases hjl : j < n
    · have hjw : IntKind.i64.wrap ((j : Int) + 1) = ((j + 1 : Nat) : Int) := by rw [IntKind.wrap_i64]; have := HN.out; omega
      have hj0 : (0 : Int) ≤ (j : Int) := Int.natCast_nonneg _
      have hj1 : (j : Int) < (n : Int) := by omega
      have hlen : (bcs (List.replicate j c ++ List.replicate (n - j) 0)).length = n := by
        unfold bcs
        rw [List.length_map, List.length_append, List.length_replicate, List.length_replicate]
        omega
      obtain ⟨u, hu⟩ : ∃ u, wr.cell? ⟨w.heap.size, j, none⟩ = some u := by
        rw [cell_of_heap hb, List.getElem?_toArray]
        exact ⟨_, List.getElem?_eq_getElem (by omega)⟩
      have hf := frozen_of_heap hb j
      have HR : Hid ((wr.setCell ⟨w.heap.size, j, none⟩ (.int .u8 C)).heap[w.heap.size]? = some (.cells (bcs (List.replicate (j + 1) c ++ List.replicate (n - (j + 1)) 0)).toArray 5 (0, 0)) ∧ Below w.heap.size w (wr.setCell ⟨w.heap.size, j, none⟩ (.int .u8 C))) := hid (by
        refine ⟨?_, ?_⟩
        · rw [heap_setCell_same hb, HC.out, List.setIfInBounds_toArray, fill_set n j c hjl]
        · exact ⟨hB.os, hB.tape, hB.output, by simpa [World.setCell] using hB.size, fun k hk => (Below.heap_setCell _ _ _ _ (fun e => by have e : k = w.heap.size := e; omega)).trans (hB.block k hk)⟩)
      have HJ := hid hjl
      clear hb hB hlen hj hjl
      go_wp2_with fail
      go_roundg (n - (j + 1))
      case measure => have := HJ.out; omega
      case rel => exact ⟨j + 1, rfl, HJ.out, rfl, HR.out.1, HR.out.2⟩
    · have hje : j = n := by omega
      subst hje
      rw [Nat.sub_self, List.replicate_zero, List.append_nil] at hb
      have HR := hid (And.intro hb hB)
      have hjn : ¬ (j : Int) < (j : Int) := by omega
      clear hb hB hj hjl
      go_wp2_with fail
      go_ret
      exact ⟨rfl, by have h := HR.out.1; simpa [bcs] using h, HR.out.2⟩
end Go.Proofs.YtojnembakhhgiaaGreat

/- A call of a row. -/
namespace Go.Proofs.YtojnembakhhgiaaGreat
open Go.RowKit

structure Ox where
  kind : Nat
  name : Bs
  to : Bs
  page : Int
  long : Nat
  fill : UInt8
  keep : Nat
def xcs (x : Ox) : Array Value := #[.int .u8 (x.kind : Int), St x.name, St x.to, .int .i64 x.page, .int .u16 (x.long : Int), .int .u8 (x.fill.toNat : Int), .int .u64 (x.keep : Int)]
structure Oxr (x : Ox) : Prop where
  kind : x.kind < 256
  name : x.name.length ≤ 140737488355328
  to : x.to.length ≤ 140737488355328
  page : -9223372036854775808 ≤ x.page ∧ x.page < 9223372036854775808
  long : x.long < 65536
  keep : x.keep < 18446744073709551616
/-- what a call of a row leaves: both disks changed, the rest kept; the answers are alike where the disks were -/
def PlE (J K : Nat → Prop) (w : World) (d q : Nat) (s t s' t' : Ds) (e : Ending) (w' : World) : Prop := ∃ b, e = .returned (.bool b) ∧ (s = t → b = true) ∧ Pr J K w' d q s' t' ∧ Kj J K w w'
theorem PlE.mk {J K : Nat → Prop} {w : World} {d q : Nat} {s t s' t' : Ds} {e : Ending} {w' : World} {b : Bool} (he : e = .returned (.bool b)) (hb : s = t → b = true) (h : Pr J K w' d q s' t' ∧ Kj J K w w') : PlE J K w d q s t s' t' e w' := ⟨b, he, hb, h⟩
theorem load9 {w : World} {b o : Nat} {v : Value} (h : w.cell? ⟨b, o, none⟩ = some v) : (Instr.loadAt 9 (.pointer (some ⟨b, o, none⟩))).run Tryz.prog w = .ok v w := by go_simp
theorem load5 {w : World} {b o : Nat} {v : Value} (h : w.cell? ⟨b, o, none⟩ = some v) : (Instr.loadAt 5 (.pointer (some ⟨b, o, none⟩))).run Tryz.prog w = .ok v w := by go_simp
end Go.Proofs.YtojnembakhhgiaaGreat
