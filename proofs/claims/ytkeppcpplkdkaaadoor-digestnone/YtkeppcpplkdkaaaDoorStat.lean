/- A state: what it holds. -/
import Derived.Test.YtkeppcpplkdkaaaDoorPutL
namespace Go.Proofs.YtkeppcpplkdkaaaDoor
open Go.RowKit

/-- a state's cells -/
def stc (s : S8) (t : Bs) (n : Nat) : List Value := (v8 s).toList ++ (bys t ++ [.int .u64 (n : Int)])
theorem stc_len (s : S8) (t : Bs) (n : Nat) : (stc s t n).length = t.length + 9 := by simp [stc]

/-- a state that has taken in b -/
structure Stt (w : World) (p : Nat) (b : Bs) (s : S8) (t : Bs) : Prop where
  blk : w.heap[p]? = some (.cells (stc s t b.length).toArray 39 (0, 0))
  len : t.length = 64
  mid : 64 ≤ b.length → s = mid b
  tl : t.take (b.length % 64) = b.drop (64 * (b.length / 64))
theorem Stt.lt {w : World} {p : Nat} {b : Bs} {s : S8} {t : Bs} (h : Stt w p b s t) : p < w.heap.size := lt_of_block h.blk
theorem Stt.count {w : World} {p : Nat} {b : Bs} {s : S8} {t : Bs} (h : Stt w p b s t) : w.cell? ⟨p, 72, none⟩ = some (.int .u64 (b.length : Int)) := by
  rw [cell_of_heap h.blk, stc]; have := h.len; simp [this]
theorem Stt.eight {w : World} {p : Nat} {b : Bs} {s : S8} {t : Bs} (h : Stt w p b s t) : Eight w p s := by
  refine ⟨h.lt, ?_, ?_, ?_, ?_, ?_, ?_, ?_, ?_⟩ <;> (rw [cell_of_heap h.blk, stc]; simp)
theorem Stt.byte {w : World} {p : Nat} {b : Bs} {s : S8} {t : Bs} (h : Stt w p b s t) (i : Nat) (hi : i < 64) : w.cell? ⟨p, 8 + i, none⟩ = some (.int .u8 (byt t i)) := by
  have := h.len
  rw [cell_of_heap h.blk, stc, List.getElem?_toArray, List.getElem?_append_right (by simp), List.getElem?_append_left (by simp; omega)]
  rw [show 8 + i - (v8 s).toList.length = i by simp]
  exact bys_get (by omega)
theorem Stt.frozen {w : World} {p : Nat} {b : Bs} {s : S8} {t : Bs} (h : Stt w p b s t) (o : Nat) : w.frozen? ⟨p, o, none⟩ = false := frozen_of_heap h.blk o
theorem Stt.below {w w' : World} {p : Nat} {b : Bs} {s : S8} {t : Bs} (h : Stt w p b s t) (hb : Below w.heap.size w w') : Stt w' p b s t := ⟨(hb.block p h.lt).trans h.blk, h.len, h.mid, h.tl⟩
theorem Stt.at {w : World} {p : Nat} {b : Bs} {s : S8} {t : Bs} (h : Stt w p b s t) : At w p 8 t := ⟨h.lt, fun i hi => h.byte i (by have := h.len; omega)⟩

/-- nothing -/
def s0s : S8 := ⟨0, 0, 0, 0, 0, 0, 0, 0⟩
def noughts (n : Nat) : Bs := List.replicate n 0
theorem stt_new (w : World) : Stt (w.alloc (.cells (stc s0s (noughts 64) 0).toArray 39)) w.heap.size [] s0s (noughts 64) := ⟨heap_alloc_new w _, rfl, fun h => by simp at h, rfl⟩

theorem Tryd.zero39 : (Tryd.prog.info? 39).map (·.zero) = some (some (.agg (stc s0s (noughts 64) 0).toArray)) := by kernel_rfl
theorem zero39_run (w : World) : (zeroValue 39).run Tryd.prog w = .ok (.agg (stc s0s (noughts 64) 0).toArray) w := by
  obtain ⟨i, hi, hz⟩ := Option.map_eq_some_iff.1 Tryd.zero39
  simp [zeroValue, typeInfo, hi, hz, go_sem]
set_option maxHeartbeats 4000000 in
set_option maxRecDepth 100000 in
theorem new_any (w : World) : Calls Tryd.prog 12 #[] w fun en w' => en = .returned (.pointer (some ⟨w.heap.size, 0, none⟩)) ∧ w' = w.alloc (.cells (stc s0s (noughts 64) 0).toArray 39) := by
  have hz := zero39_run
  generalize (stc s0s (noughts 64) 0).toArray = Z at hz ⊢
  go_enter Tryd.func12, Tryd.ntmps12
  go_wp2_with fail
  go_ret
  exact ⟨rfl, rfl⟩

theorem add_off (g o j : Nat) : (⟨g, o, none⟩ : Addr).add j = ⟨g, o + j, none⟩ := by unfold Addr.add; split <;> simp_all
/-- copy, the world known -/
theorem copy_row_run {P : Program} (w : World) (dT sT ty elem : TypeId) (dp sp : Option Addr) (dLen dCap sLen sCap : Nat) (hu : P.underlying dT = some (.slice elem)) (hsz : (P.info? elem).map (·.size) = some 1)
    (g off : Nat) (cur : List Value) (t : TypeId) (hg : w.heap[g]? = some (.cells cur.toArray t (0, 0))) (cs : List Value) (hn : cs.length = Nat.min sLen dLen)
    (hpos : 0 < cs.length → dp = some ⟨g, off, none⟩ ∧ ∃ ad, sp = some ad ∧ ∀ j v, cs[j]? = some v → w.cell? (ad.add j) = some v)
    (hfit : off + cs.length ≤ cur.length) (h1 : ∀ v ∈ cs, v.oneCell' = true) :
    (Builtin.copy_ #[dT, sT] ty #[.slice dp dLen dCap, .slice sp sLen sCap]).run P w = .ok (goInt cs.length) (w.setRow g (splice cur off cs).toArray) := by
  by_cases h0 : cs.length = 0
  · obtain rfl : cs = [] := List.eq_nil_of_length_eq_zero h0
    rw [run_copy_none (P := P) w dT sT ty elem dp sp dLen dCap sLen sCap hu hsz (by simpa using hn.symm), splice_nil, setRow_self w g _ t _ hg]; rfl
  · obtain ⟨rfl, ad, rfl, hsrc⟩ := hpos (by omega)
    rw [run_copy_row (P := P) w dT sT ty elem g off dLen dCap ad sLen sCap cur.toArray t cs hu hsz hg hn hsrc (by simpa using hfit) h1]
    simp [splice]
end Go.Proofs.YtkeppcpplkdkaaaDoor
