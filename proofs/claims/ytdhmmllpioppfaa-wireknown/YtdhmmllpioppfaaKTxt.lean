import Derived.Test.YtdhmmllpioppfaaKBad
import Derived.Test.YtdhmmllpioppfaaKMath
import Derived.Deep.OwnRows
import Derived.Laws.OwnMore
/- The messages of WireKnown, laid out and written. -/
namespace Go.Proofs.Ytdhmmllpioppfaa.V
open Go.RowKit

theorem ns_nil (W : World) : Ns W (.slice none 0 0) [] := ⟨_, _, rfl, fun h => absurd rfl h⟩
theorem ts_nil (W : World) : Ts W (.slice none 0 0) [] := ⟨_, _, rfl, fun h => absurd rfl h⟩
theorem ms_num (W : World) (k : Nat) (x : Int) : Ms (W.alloc (.cells #[.int .i64 x] 2)) (.slice (some ⟨W.heap.size, 0, none⟩) 1 1) (.slice none 0 0) (.slice none 0 0) ⟨k, [], [x], [], [], []⟩ :=
  ⟨ns_one _ _ _ (heap_alloc_new W _), ts_nil _, Rcs.nil _⟩
/-- what Encode answers, where the bytes are known -/
theorem enc_ok {W : World} {nv tv mv : Value} {m : Msg} {b : Bs} (h : Ms W nv tv mv m) (hl : MLen m) (he : encR m = (b, 0)) :
    Calls Try.prog 8 #[Mv m.k m.ch nv tv m.tx mv] W fun e w' => ∃ ao cap, e = .returned (.tuple #[.slice ao b.length cap, .int .i64 0]) ∧ Sl w' (.slice ao b.length cap) b ∧ Below W.heap.size W w' := by
  have h1 := enc_any W nv tv mv m h hl
  rw [he] at h1
  refine h1.mono ?_
  rintro e w1 ⟨ao, cap, rfl, ho, hb⟩
  exact ⟨ao, cap, rfl, Sl.own ho rfl, hb⟩
theorem enc1 (W : World) : Calls Try.prog 8 #[Mv 18 [] (.slice (some ⟨W.heap.size, 0, none⟩) 1 1) (.slice none 0 0) [] (.slice none 0 0)] (W.alloc (.cells #[.int .i64 5] 2)) fun e w' => ∃ ao cap, e = .returned (.tuple #[.slice ao 14 cap, .int .i64 0]) ∧ Sl w' (.slice ao 14 cap) k1b ∧ Below W.heap.size W w' := by
  refine (enc_ok (ms_num W 18 5) k1_len k1_enc).mono ?_
  rintro e w1 ⟨ao, cap, rfl, hs, hb⟩
  exact ⟨ao, cap, rfl, hs, box_below hb⟩
theorem enc3 (W : World) : Calls Try.prog 8 #[Mv 18 [] (.slice (some ⟨W.heap.size, 0, none⟩) 1 1) (.slice none 0 0) [] (.slice none 0 0)] (W.alloc (.cells #[.int .i64 (-1)] 2)) fun e w' => ∃ ao cap, e = .returned (.tuple #[.slice ao 14 cap, .int .i64 0]) ∧ Sl w' (.slice ao 14 cap) k3b ∧ Below W.heap.size W w' := by
  refine (enc_ok (ms_num W 18 (-1)) k3_len k3_enc).mono ?_
  rintro e w1 ⟨ao, cap, rfl, hs, hb⟩
  exact ⟨ao, cap, rfl, hs, box_below hb⟩
theorem bad1 (W : World) : Calls Try.prog 13 #[Mv 18 [] (.slice none 0 0) (.slice none 0 0) [] (.slice none 0 0)] W fun e w' => e = .returned (.bool true) ∧ Below W.heap.size W w' :=
  bad_any W _ _ _ r1 ⟨ns_nil _, ts_nil _, Rcs.nil _⟩ r1_len r1_no
theorem bad2 (W : World) : Calls Try.prog 13 #[Mv 1000 [] (.slice none 0 0) (.slice none 0 0) [] (.slice none 0 0)] W fun e w' => e = .returned (.bool true) ∧ Below W.heap.size W w' :=
  bad_any W _ _ _ r2 ⟨ns_nil _, ts_nil _, Rcs.nil _⟩ r2_len r2_no
theorem bad5 (W : World) : Calls Try.prog 13 #[Mv 35 [] (.slice none 0 0) (.slice (some ⟨W.heap.size, 0, none⟩) 1 1) [] (.slice none 0 0)] (W.alloc (.cells #[St [110]] 46)) fun e w' => e = .returned (.bool true) ∧ Below W.heap.size W w' :=
  (bad_any _ _ _ _ r5 ⟨ns_nil _, ts_one _ _ _ (heap_alloc_new W _), Rcs.nil _⟩ r5_len r5_no).mono fun _ _ h => ⟨h.1, box_below h.2⟩
end Go.Proofs.Ytdhmmllpioppfaa.V

/- More messages of WireKnown: records, and rows that are made. -/
namespace Go.Proofs.Ytdhmmllpioppfaa.V
open Go.RowKit

theorem blk_cell {w : World} {g : Nat} {l : Bs} {t : TypeId} (h : w.heap[g]? = some (.cells (bcs l).toArray t (0, 0))) {i : Nat} (hi : i < l.length) : w.cell? ⟨g, i, none⟩ = some (.int .u8 (l[i].toNat : Int)) := by
  rw [cell_of_heap h]
  simpa using bcs_get hi
theorem blk_sl {w : World} {g n : Nat} {l : Bs} (h : w.heap[g]? = some (.cells (bcs l).toArray 5 (0, 0))) (hn : l.length = n) : Sl w (.slice (some ⟨g, 0, none⟩) n n) l := by
  subst hn
  refine Or.inr ⟨⟨g, 0, none⟩, l.length, rfl, Nat.le_refl _, fun _ => ⟨rfl, lt_of_block h⟩, fun i hi => ?_⟩
  rw [add_plain, Nat.zero_add]
  exact blk_cell h hi
theorem make_n (n : Nat) (hn : n ≤ 1000000000) (W : World) : (Instr.makeSlice 28 (.int .i64 (n : Int)) (.int .i64 (n : Int))).run Try.prog W = .ok (.slice (some ⟨W.heap.size, 0, none⟩) n n) (W.alloc (.cells (bcs (List.replicate n 0)).toArray 5)) := by
  have h := run_make_row' (P := Try.prog) 28 5 (.int .u8 0) 1 Try.underlying28 Try.info5 rfl .i64 .i64 n (by omega) (by omega) W
  have e : (madeCells #[.int .u8 0] n).toList = bcs (List.replicate n 0) := by rw [toList_madeCells_one]; simp [Lib.byteCells]
  rw [h, ← e, Array.toArray_toList]
theorem make_i (n : Nat) (hn : n ≤ 1000000000) (W : World) : (Instr.makeSlice 23 (.int .i64 (n : Int)) (.int .i64 (n : Int))).run Try.prog W = .ok (.slice (some ⟨W.heap.size, 0, none⟩) n n) (W.alloc (.cells (List.replicate n (.int .i64 0)).toArray 2)) := by
  have h := run_make_row' (P := Try.prog) 23 2 (.int .i64 0) 8 Try.underlying23 Try.info2 rfl .i64 .i64 n (by omega) (by omega) W
  have e : (madeCells #[.int .i64 0] n).toList = List.replicate n (.int .i64 0) := by rw [toList_madeCells_one]
  rw [h, ← e, Array.toArray_toList]
theorem ns_zero {w : World} {g n : Nat} (h : w.heap[g]? = some (.cells (List.replicate n (.int .i64 0)).toArray 2 (0, 0))) : Ns w (.slice (some ⟨g, 0, none⟩) n n) (List.replicate n 0) :=
  ⟨_, _, by rw [List.length_replicate], fun _ => ⟨g, 0, rfl, lt_of_block h, fun i hi => by
    rw [cell_of_heap h]
    have : i < n := by simpa using hi
    simp [this]⟩⟩
theorem rcs_one {w : World} {g t : Nat} {bv : Value} {b : Bs} (h : w.heap[g]? = some (.cells #[.int .u64 (t : Int), bv] 44 (0, 0))) (hb : Sl w bv b) : Rcs w (.slice (some ⟨g, 0, none⟩) 1 1) [(t, b)] := by
  refine Or.inr ⟨⟨g, 0, none⟩, 1, rfl, Nat.le_refl _, fun _ => ⟨rfl, lt_of_block h⟩, fun i hi => ?_⟩
  have e : i = 0 := by simpa using hi
  subst e
  exact ⟨bv, (cell_of_heap h 0).trans rfl, (cell_of_heap h 1).trans rfl, hb⟩
theorem rcs_two {w : World} {g t u : Nat} {bv cv : Value} {b c : Bs} (h : w.heap[g]? = some (.cells #[.int .u64 (t : Int), bv, .int .u64 (u : Int), cv] 44 (0, 0))) (hb : Sl w bv b) (hc : Sl w cv c) : Rcs w (.slice (some ⟨g, 0, none⟩) 2 2) [(t, b), (u, c)] := by
  refine Or.inr ⟨⟨g, 0, none⟩, 2, rfl, Nat.le_refl _, fun _ => ⟨rfl, lt_of_block h⟩, fun i hi => ?_⟩
  match i, hi with
  | 0, _ => exact ⟨bv, (cell_of_heap h 0).trans rfl, (cell_of_heap h 1).trans rfl, hb⟩
  | 1, _ => exact ⟨cv, (cell_of_heap h 2).trans rfl, (cell_of_heap h 3).trans rfl, hc⟩
theorem at_two (w : World) (o p : Obj) : ((w.alloc o).alloc p).heap[w.heap.size]? = some o ∧ ((w.alloc o).alloc p).heap[w.heap.size + 1]? = some p := by
  refine ⟨?_, ?_⟩
  · rw [Below.heap_alloc _ _ _ (by simp)]
    exact heap_alloc_new w _
  · have := heap_alloc_new (w.alloc o) p
    simpa using this
theorem below_two {w w1 : World} {o p : Obj} (hb : Below ((w.alloc o).alloc p).heap.size ((w.alloc o).alloc p) w1) : Below w.heap.size w w1 := two_low ((Below.refl _ w).alloc (Nat.le_refl _) o) (box_below hb)
theorem enc2 (W : World) : Calls Try.prog 8 #[Mv 999 [] (.slice none 0 0) (.slice none 0 0) [120] (.slice (some ⟨W.heap.size + 1, 0, none⟩) 1 1)] ((W.alloc (.cells #[.int .u8 9] 5)).alloc (.cells #[.int .u64 1, .slice (some ⟨W.heap.size, 0, none⟩) 1 1] 44)) fun e w' => ∃ ao cap, e = .returned (.tuple #[.slice ao 10 cap, .int .i64 0]) ∧ Sl w' (.slice ao 10 cap) k2b ∧ Below W.heap.size W w' := by
  have h := at_two W (.cells #[.int .u8 9] 5) (.cells #[.int .u64 1, .slice (some ⟨W.heap.size, 0, none⟩) 1 1] 44)
  refine (enc_ok (m := k2) ⟨ns_nil _, ts_nil _, rcs_one (t := 1) h.2 (blk_sl (l := [9]) h.1 rfl)⟩ k2_len k2_enc).mono ?_
  rintro e w1 ⟨ao, cap, rfl, hs, hb⟩
  exact ⟨ao, cap, rfl, hs, below_two hb⟩
theorem bad3 (W : World) : Calls Try.prog 13 #[Mv 18 [] (.slice (some ⟨W.heap.size, 0, none⟩) 1 1) (.slice none 0 0) [] (.slice (some ⟨W.heap.size + 1, 0, none⟩) 1 1)] ((W.alloc (.cells #[.int .i64 1] 2)).alloc (.cells #[.int .u64 2, .slice none 0 0] 44)) fun e w' => e = .returned (.bool true) ∧ Below W.heap.size W w' := by
  have h := at_two W (.cells #[.int .i64 1] 2) (.cells #[.int .u64 2, .slice none 0 0] 44)
  exact (bad_any _ _ _ _ r3 ⟨ns_one _ _ _ h.1, ts_nil _, rcs_one (t := 2) h.2 (Sl.nil _)⟩ r3_len r3_no).mono fun _ _ q => ⟨q.1, below_two q.2⟩
theorem bad4 (W : World) : Calls Try.prog 13 #[Mv 18 [] (.slice (some ⟨W.heap.size, 0, none⟩) 1 1) (.slice none 0 0) [] (.slice (some ⟨W.heap.size + 1, 0, none⟩) 2 2)] ((W.alloc (.cells #[.int .i64 1] 2)).alloc (.cells #[.int .u64 3, .slice none 0 0, .int .u64 1, .slice none 0 0] 44)) fun e w' => e = .returned (.bool true) ∧ Below W.heap.size W w' := by
  have h := at_two W (.cells #[.int .i64 1] 2) (.cells #[.int .u64 3, .slice none 0 0, .int .u64 1, .slice none 0 0] 44)
  exact (bad_any _ _ _ _ r4 ⟨ns_one _ _ _ h.1, ts_nil _, rcs_two (t := 3) (u := 1) h.2 (Sl.nil _) (Sl.nil _)⟩ r4_len r4_no).mono fun _ _ q => ⟨q.1, below_two q.2⟩
theorem bad6 (W : World) : Calls Try.prog 13 #[Mv 999 [] (.slice (some ⟨W.heap.size, 0, none⟩) 33 33) (.slice none 0 0) [] (.slice none 0 0)] (W.alloc (.cells (List.replicate 33 (.int .i64 0)).toArray 2)) fun e w' => e = .returned (.bool true) ∧ Below W.heap.size W w' :=
  (bad_any _ _ _ _ r6 ⟨ns_zero (heap_alloc_new W _), ts_nil _, Rcs.nil _⟩ r6_len r6_no).mono fun _ _ q => ⟨q.1, box_below q.2⟩
theorem bad7 (W : World) : Calls Try.prog 13 #[Mv 999 [] (.slice none 0 0) (.slice none 0 0) (List.replicate 4097 0) (.slice none 0 0)] W fun e w' => e = .returned (.bool true) ∧ Below W.heap.size W w' :=
  bad_any W _ _ _ r7 ⟨ns_nil _, ts_nil _, Rcs.nil _⟩ r7_len r7_no
theorem bad8 (W : World) : Calls Try.prog 13 #[Mv 999 (List.replicate 101 0) (.slice none 0 0) (.slice none 0 0) [] (.slice none 0 0)] W fun e w' => e = .returned (.bool true) ∧ Below W.heap.size W w' :=
  bad_any W _ _ _ r8 ⟨ns_nil _, ts_nil _, Rcs.nil _⟩ r8_len r8_no
end Go.Proofs.Ytdhmmllpioppfaa.V

/- What WireKnown reads. -/
namespace Go.Proofs.Ytdhmmllpioppfaa.V
open Go.RowKit

theorem enc3b (W : World) (o : Obj) : Calls Try.prog 8 #[Mv 18 [] (.slice (some ⟨W.heap.size, 0, none⟩) 1 1) (.slice none 0 0) [] (.slice none 0 0)] ((W.alloc (.cells #[.int .i64 (-1)] 2)).alloc o) fun e w' => ∃ ao cap, e = .returned (.tuple #[.slice ao 14 cap, .int .i64 0]) ∧ Sl w' (.slice ao 14 cap) k3b ∧ Below W.heap.size W w' := by
  refine (enc_ok ((ms_num W 18 (-1)).below ((Below.refl _ _).alloc (Nat.le_refl _) o)) k3_len k3_enc).mono ?_
  rintro e w1 ⟨ao, cap, rfl, hs, hb⟩
  exact ⟨ao, cap, rfl, hs, below_two hb⟩
theorem dec_bad {W : World} {v : Value} {b : Bs} {c : Nat} (hs : Sl W v b) (hm : b.length ≤ 140737488355328) (hd : decR b = (noM, c)) :
    Calls Try.prog 9 #[v] W fun e w' => ∃ an cn at' ct am cm, e = .returned (.tuple #[Mv 0 [] (.slice an 0 cn) (.slice at' 0 ct) [] (.slice am 0 cm), .int .i64 (c : Int)]) ∧ Below W.heap.size W w' := by
  have h := dec_any W v b hs hm
  rw [hd] at h
  refine h.mono ?_
  rintro e w1 ⟨nv, tv, mv, rfl, hmo, hb⟩
  obtain ⟨an, cn, rfl⟩ := own_slice hmo.ns
  obtain ⟨at', ct, rfl⟩ := own_slice hmo.ts
  obtain ⟨am, cm, rfl⟩ := hmo.mo.shape
  exact ⟨an, cn, at', ct, am, cm, rfl, hb⟩
theorem dec3 {W : World} {v : Value} (hs : Sl W v k3b) :
    Calls Try.prog 9 #[v] W fun e w' => ∃ g o cn at' ct am cm, e = .returned (.tuple #[Mv 18 [] (.slice (some ⟨g, o, none⟩) 1 cn) (.slice at' 0 ct) [] (.slice am 0 cm), .int .i64 0]) ∧ g < w'.heap.size ∧ w'.cell? ⟨g, o, none⟩ = some (.int .i64 (-1)) ∧ Below W.heap.size W w' := by
  have h := dec_any W v k3b hs (by decide)
  rw [k3_dec] at h
  refine h.mono ?_
  rintro e w1 ⟨nv, tv, mv, rfl, hmo, hb⟩
  obtain ⟨an, cn, rfl, hc⟩ := hmo.ms.ns
  obtain ⟨at', ct, rfl⟩ := own_slice hmo.ts
  obtain ⟨am, cm, rfl⟩ := hmo.mo.shape
  obtain ⟨g, o, rfl, hg, hc⟩ := hc (by simp [k3])
  exact ⟨g, o, cn, at', ct, am, cm, rfl, hg, hc 0 (by decide), hb⟩
/-- rows of noughts -/
def zs (n : Nat) : Bs := List.replicate n 0
def zc (n : Nat) : Array Value := (bcs (zs n)).toArray
def zi (n : Nat) : Array Value := (List.replicate n (.int .i64 0)).toArray
def zt (n : Nat) : Value := St (zs n)
theorem zmake (n : Nat) (hn : n ≤ 1000000000) (W : World) : (Instr.makeSlice 28 (.int .i64 (n : Int)) (.int .i64 (n : Int))).run Try.prog W = .ok (.slice (some ⟨W.heap.size, 0, none⟩) n n) (W.alloc (.cells (zc n) 5)) := make_n n hn W
theorem zmakei (n : Nat) (hn : n ≤ 1000000000) (W : World) : (Instr.makeSlice 23 (.int .i64 (n : Int)) (.int .i64 (n : Int))).run Try.prog W = .ok (.slice (some ⟨W.heap.size, 0, none⟩) n n) (W.alloc (.cells (zi n) 2)) := make_i n hn W
theorem zsl {w : World} {g n : Nat} (h : w.heap[g]? = some (.cells (zc n) 5 (0, 0))) : Sl w (.slice (some ⟨g, 0, none⟩) n n) (zs n) := blk_sl h List.length_replicate
theorem ztext (n : Nat) (W : World) : (convert 28 9 (.slice (some ⟨W.heap.size, 0, none⟩) n n)).run Try.prog (W.alloc (.cells (zc n) 5)) = .ok (zt n) (W.alloc (.cells (zc n) 5)) := (zsl (heap_alloc_new W _)).string
theorem bad6z (W : World) : Calls Try.prog 13 #[.agg #[.int .u16 999, St [], .slice (some ⟨W.heap.size, 0, none⟩) 33 33, .slice none 0 0, St [], .slice none 0 0]] (W.alloc (.cells (zi 33) 2)) fun e w' => e = .returned (.bool true) ∧ Below W.heap.size W w' := bad6 W
theorem bad7z (W : World) : Calls Try.prog 13 #[.agg #[.int .u16 999, St [], .slice none 0 0, .slice none 0 0, zt 4097, .slice none 0 0]] W fun e w' => e = .returned (.bool true) ∧ Below W.heap.size W w' := bad7 W
theorem bad8z (W : World) : Calls Try.prog 13 #[.agg #[.int .u16 999, zt 101, .slice none 0 0, .slice none 0 0, St [], .slice none 0 0]] W fun e w' => e = .returned (.bool true) ∧ Below W.heap.size W w' := bad8 W
end Go.Proofs.Ytdhmmllpioppfaa.V

/- What WireKnown reads and is refused. -/
namespace Go.Proofs.Ytdhmmllpioppfaa.V
open Go.RowKit

/-- nothing was read -/
def NoD (c : Int) (e : Ending) : Prop := ∃ an cn at' ct am cm, e = .returned (.tuple #[.agg #[.int .u16 0, St [], .slice an 0 cn, .slice at' 0 ct, St [], .slice am 0 cm], .int .i64 c])
theorem dec1z (W : World) : Calls Try.prog 9 #[.slice (some ⟨W.heap.size, 0, none⟩) 3 3] (W.alloc (.cells #[.int .u8 0, .int .u8 18, .int .u8 0] 5)) fun e w' => NoD 80 e ∧ Below W.heap.size W w' := by
  refine (dec_bad (blk_sl (l := [0, 18, 0]) (n := 3) (heap_alloc_new W _) rfl) (by decide) d1_no).mono ?_
  rintro e w1 ⟨an, cn, at', ct, am, cm, rfl, hb⟩
  exact ⟨⟨an, cn, at', ct, am, cm, rfl⟩, box_below hb⟩
theorem dec2z (W : World) (o : Obj) : Calls Try.prog 9 #[.slice none 0 0] (W.alloc o) fun e w' => NoD 80 e ∧ Below W.heap.size W w' := by
  refine (dec_bad (Sl.nil _) (by decide) d2_no).mono ?_
  rintro e w1 ⟨an, cn, at', ct, am, cm, rfl, hb⟩
  exact ⟨⟨an, cn, at', ct, am, cm, rfl⟩, box_below hb⟩
theorem dec3z (W : World) (o : Obj) : Calls Try.prog 9 #[.slice (some ⟨W.heap.size + 1, 0, none⟩) 32769 32769] ((W.alloc o).alloc (.cells (zc 32769) 5)) fun e w' => NoD 3 e ∧ Below W.heap.size W w' := by
  have h := (at_two W o (.cells (zc 32769) 5)).2
  have h3 : decR (zs 32769) = (noM, 3) := d3_no
  have hl : (zs 32769).length ≤ 140737488355328 := rep_len (by omega)
  refine (dec_bad (zsl h) hl h3).mono ?_
  rintro e w1 ⟨an, cn, at', ct, am, cm, rfl, hb⟩
  exact ⟨⟨an, cn, at', ct, am, cm, rfl⟩, below_two hb⟩
theorem dec4z (W : World) (o : Obj) : Calls Try.prog 9 #[.slice (some ⟨W.heap.size + 1, 0, none⟩) 8 8] ((W.alloc o).alloc (.cells #[.int .u8 3, .int .u8 231, .int .u8 0, .int .u8 0, .int .u8 0, .int .u8 0, .int .u8 2, .int .u8 0] 5)) fun e w' => NoD 80 e ∧ Below W.heap.size W w' := by
  have h := (at_two W o (.cells #[.int .u8 3, .int .u8 231, .int .u8 0, .int .u8 0, .int .u8 0, .int .u8 0, .int .u8 2, .int .u8 0] 5)).2
  refine (dec_bad (blk_sl (l := [3, 231, 0, 0, 0, 0, 2, 0]) (n := 8) h rfl) (by decide) d4_no).mono ?_
  rintro e w1 ⟨an, cn, at', ct, am, cm, rfl, hb⟩
  exact ⟨⟨an, cn, at', ct, am, cm, rfl⟩, below_two hb⟩
end Go.Proofs.Ytdhmmllpioppfaa.V
