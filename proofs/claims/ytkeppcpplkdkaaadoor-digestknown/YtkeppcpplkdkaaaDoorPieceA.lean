/- DigestPieces, as a call. -/
import Derived.Test.YtkeppcpplkdkaaaDoorLSum
namespace Go.Proofs.YtkeppcpplkdkaaaDoor
open Go.RowKit

/-- a slice of slices of bytes -/
structure Ls (w : World) (a : Option Addr) (cap : Nat) (cs : List Bs) : Prop where
  cap : cs.length ≤ cap
  som : 0 < cs.length → ∃ lb lo, a = some ⟨lb, lo, none⟩ ∧ lb < w.heap.size ∧ ∀ i, i < cs.length → ∃ ai ci, w.cell? ⟨lb, lo + i, none⟩ = some (.slice ai (cs.getD i []).length ci) ∧ Sz w ai ci (cs.getD i [])
/-- the first pieces, one behind the other -/
def cat (cs : List Bs) (i : Nat) : Bs := (cs.take i).flatten
theorem cat_succ (cs : List Bs) (i : Nat) (h : i < cs.length) : cat cs (i + 1) = cat cs i ++ cs.getD i [] := by
  rw [cat, List.take_succ_eq_append_getElem h, List.flatten_append]
  simp [cat, List.getD, h]
theorem cat_le (cs : List Bs) (i : Nat) : (cat cs i).length ≤ cs.flatten.length := by
  have h : cs.flatten = cat cs i ++ (cs.drop i).flatten := by rw [cat, ← List.flatten_append, List.take_append_drop]
  rw [h, List.length_append]; omega
theorem cat_all (cs : List Bs) : cat cs cs.length = cs.flatten := by rw [cat, List.take_length]
theorem get_le (cs : List Bs) (i : Nat) (h : i < cs.length) : (cs.getD i []).length ≤ cs.flatten.length := by
  have h1 := cat_succ cs i h
  have h2 := cat_le cs (i + 1)
  rw [h1, List.length_append] at h2
  omega

theorem Oth.stt {w w' : World} {p q : Nat} {b : Bs} {s : S8} {t : Bs} (h : Oth w p w') (hq : q ≠ p) (hs : Stt w q b s t) : Stt w' q b s t := ⟨(h.block q hs.lt hq).trans hs.blk, hs.len, hs.mid, hs.tl⟩
theorem Oth.owns {w w' : World} {p base n : Nat} {v : Value} {xs : List Value} (h : Oth w p w') (hp : p < base) (ho : w.ownsRow base 5 1 v n xs) : w'.ownsRow base 5 1 v n xs := by
  refine ⟨ho.1, ?_⟩
  rcases ho.2 with h2 | ⟨g, cap, cur, e1, e2, e3, e4⟩
  · exact Or.inl h2
  · exact Or.inr ⟨g, cap, cur, e1, e2, by rw [h.block g (lt_of_block e3) (by omega)]; exact e3, e4⟩
theorem grown_stt {w w' : World} {q base n : Nat} {v : Value} {xs : List Value} {b : Bs} {s : S8} {t : Bs} (ho : w.ownsRow base 5 1 v n xs) (hq : q < base) (hg : w.grownBy w' v.ownBlock) (hs : Stt w q b s t) : Stt w' q b s t :=
  ⟨(hg.block q hs.lt (fun e => by have := (ho.lt q e.symm).1; omega)).trans hs.blk, hs.len, hs.mid, hs.tl⟩
theorem grown_below {w0 w w' : World} {base n : Nat} {v : Value} {xs : List Value} (hb : Below w0.heap.size w0 w) (hbase : w0.heap.size ≤ base) (ho : w.ownsRow base 5 1 v n xs) (hg : w.grownBy w' v.ownBlock) : Below w0.heap.size w0 w' :=
  ⟨hg.os.trans hb.os, hg.tape.trans hb.tape, hg.output.trans hb.output, Nat.le_trans hb.size hg.size, fun k hk => (hg.block k (Nat.lt_of_lt_of_le hk hb.size) (fun e => by have := (ho.lt k e.symm).1; omega)).trans (hb.block k hk)⟩
theorem own_blk {w : World} {base n : Nat} {v : Value} {xs : List Value} (h : w.ownsRow base 5 1 v n xs) (hn : 0 < n) : ∃ g cap cur, v = .slice (some ⟨g, 0, none⟩) n cap ∧ base ≤ g ∧ w.heap[g]? = some (.cells cur 5 (0, 0)) ∧ n ≤ cur.size := by
  rcases h.2 with ⟨_, h0⟩ | ⟨g, cap, cur, hv, hb, hg, hc1, hc2, hc3, hc4⟩
  · omega
  · exact ⟨g, cap, cur, hv, hb, hg, by omega⟩

/-- what a round keeps -/
structure PI (w : World) (ps pq : Nat) (b : Bs) (v7 : Value) (wr : World) : Prop where
  bel : Below w.heap.size w wr
  s : ∃ s t, Stt wr ps b s t
  q : ∃ s t, Stt wr pq b s t
  all : wr.ownsRow (pq + 1) 5 1 v7 b.length (bys b)
theorem PI.below {w wr w' : World} {ps pq : Nat} {b : Bs} {v7 : Value} (h : PI w ps pq b v7 wr) (hb : Below wr.heap.size wr w') : PI w ps pq b v7 w' := by
  obtain ⟨s1, t1, h1⟩ := h.s
  obtain ⟨s2, t2, h2⟩ := h.q
  exact ⟨h.bel.trans (hb.mono h.bel.size), ⟨s1, t1, h1.below hb⟩, ⟨s2, t2, h2.below hb⟩, ownsRow_same h.all hb.block⟩
end Go.Proofs.YtkeppcpplkdkaaaDoor
