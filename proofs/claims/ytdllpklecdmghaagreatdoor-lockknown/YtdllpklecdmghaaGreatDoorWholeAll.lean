import Derived.Test.YtdllpklecdmghaaGreatDoorTermAll
import Derived.Test.YtdllpklecdmghaaGreatDoorLkMAll
import Derived.Lib.BufferWrite
import Derived.Lib.UnsafeStr
import Derived.Lib.AppendStr
/- What the whole text's reading, Deep, Right, Size and parts do. -/
namespace Go.Proofs.YtdllpklecdmghaaGreatDoor
open Go.RowKit
set_option maxHeartbeats 1000000 in
theorem whole_big {b : Nat} {s : ByteArray} {w : World} (c0 : w.cell? ⟨b, 0, none⟩ = some (.string s)) (hs : 16384 < s.size) :
   Calls Tryz.prog 104 #[rp b] w fun en w' => en = .returned (.int .i64 0) ∧ w' = w := by
 have hs' : (16384 : Int) < (s.size : Int) := by omega
 go_enter Tryz.func104, Tryz.ntmps104
 go_wp2_with fail
 go_ret
 exact ⟨rfl, rfl⟩
theorem deep_some {s : ByteArray} {d : Nat} (hs : s.size ≤ 16384) (h : Tm.rd 64 s.data.toList = some (d, [])) : Tm.deep s.data.toList = d := by
 unfold Tm.deep
 rw [if_pos (by rw [← Lib.size_eq]; exact hs), h]
theorem deep_rest {s : ByteArray} {d : Nat} {r : Bs} (h : Tm.rd 64 s.data.toList = some (d, r)) (hr : r ≠ []) : Tm.deep s.data.toList = 0 := by
 unfold Tm.deep
 split
 · rw [h]
   cases r with
   | nil => exact absurd rfl hr
   | cons a b => rfl
 · rfl
theorem deep_none {s : ByteArray} (h : Tm.rd 64 s.data.toList = none) : Tm.deep s.data.toList = 0 := by
 unfold Tm.deep
 split
 · rw [h]
 · rfl
set_option maxHeartbeats 1000000 in
theorem whole_any {w0 : World} {B b : Nat} {s : ByteArray} {kp : Bool} {w : World} (h : RS w0 B b s 0 kp 0 0 ⟨#[]⟩ [] w) (hB : kp = true → B ≤ b + 1) :
   Calls Tryz.prog 104 #[rp b] w fun en w' => en = .returned (.int .i64 (Tm.deep s.data.toList)) ∧ Bad w0 B b s 0 kp w' ∧
     (Tm.deep s.data.toList ≠ 0 → RS w0 B b s 0 kp s.size (upd kp 0 (setN s.data.toList 0)) (upd kp ⟨#[]⟩ (setX s.data.toList ⟨#[]⟩)) (upd kp [] (Tm.kidsOf 63 s.data.toList)) w') := by
 obtain ⟨c0, c1, c2, c3, hf⟩ := h.cells
 have hsz := h.sz
 have hs' : ¬ (16384 : Int) < (s.size : Int) := by omega
 have HR := hid h
 have HB0 := hid hB
 have hw : wt kp (0 + 1) = kp := by cases kp <;> rfl
 have HW := hid hw
 clear h hB hw
 go_enter Tryz.func104, Tryz.ntmps104
 go_wp2_with fail
 refine (termG_all 63 (by omega) HR.out (by omega) (fun e => HB0.out (by rw [HW.out] at e; exact e))).mono ?_
 rintro e w1 hE
 have HE := hid hE
 clear hE
 cases hr : Tm.rd 64 s.data.toList with
 | none =>
   have H1 := hid hr
   clear hr
   obtain ⟨rfl, hb⟩ := HE.out.none H1.out
   obtain ⟨a', n', tx', ks', hb⟩ := hb
   obtain ⟨g0, g1, g2, g3, gf⟩ := hb.cells
   have hle := hb.le
   have HB := hid hb
   clear hb
   by_cases hlt : a' < s.size
   · go_wp2_with fail
     go_quiet (fail)
     go_wp2_with fail
     go_ret
     rw [deep_none H1.out]
     exact ⟨rfl, (HB.out.drewN _).bad, fun e => absurd rfl e⟩
   · go_wp2_with fail
     go_quiet (fail)
     go_wp2_with fail
     go_ret
     rw [deep_none H1.out]
     exact ⟨rfl, (HB.out.drewN _).bad, fun e => absurd rfl e⟩
 | some x =>
   obtain ⟨d, r⟩ := x
   have H1 := hid hr
   clear hr
   obtain ⟨rfl, hb⟩ := HE.out.some H1.out
   obtain ⟨g0, g1, g2, g3, gf⟩ := hb.cells
   have hle := hb.le
   have HB := hid hb
   clear hb
   by_cases hr : r = []
   · subst hr
     have g1' : w1.cell? ⟨b, 1, none⟩ = some (.int .i64 (s.size : Int)) := g1
     clear g1
     go_wp2_with fail
     go_quiet (fail)
     go_wp2_with fail
     go_ret
     rw [deep_some hsz H1.out]
     have := HB.out
     rw [HW.out] at this
     exact ⟨rfl, (HB.out.drewN _).bad, fun _ => by simpa using this.drewN _⟩
   · have hlr : 0 < r.length := List.length_pos_iff.2 hr
     have hrl : r.length ≤ s.size := by
       have := (Tm.rd_len H1.out).1
       rw [← Lib.size_eq] at this
       omega
     have hlt : s.size - r.length < s.size := by omega
     generalize hj : s.size - r.length = j at *
     have HRr := hid hr
     clear hr
     clear hj
     go_wp2_with fail
     go_quiet (fail)
     go_wp2_with fail
     go_ret
     rw [deep_rest H1.out HRr.out]
     exact ⟨rfl, (HB.out.drewN _).bad, fun e => absurd rfl e⟩
theorem RS_new (w : World) (s : ByteArray) (kp : Bool) (hs : s.size ≤ 16384) :
   RS (w.alloc (.cells (rcells s 0 0 kp 0 0 ⟨#[]⟩ (.slice none 0 0)) 118)) w.heap.size w.heap.size s 0 kp 0 0 ⟨#[]⟩ [] (w.alloc (.cells (rcells s 0 0 kp 0 0 ⟨#[]⟩ (.slice none 0 0)) 118)) :=
 ⟨Nat.zero_le _, Frx.refl _ _ _, by simp, by simp, hs, Nat.le_refl _, by omega, .slice none 0 0, heap_alloc_new w _, World.ownsRow_nil _ _ _ _⟩
theorem Bad.below {w : World} {o : Obj} {s : ByteArray} {lv : Nat} {kp : Bool} {w' : World} (h : Bad (w.alloc o) w.heap.size w.heap.size s lv kp w') : Below w.heap.size w w' := by
 obtain ⟨a, n, tx, ks, h⟩ := h
 exact ((Below.refl _ w).alloc (Nat.le_refl _) o).trans (h.fr.below (Nat.le_refl _))
set_option maxHeartbeats 1000000 in
theorem deep_any (s : ByteArray) (w : World) :
   Calls Tryz.prog 106 #[.string s] w fun en w' => en = .returned (.int .i64 (Tm.deep s.data.toList)) ∧ Below w.heap.size w w' := by
 by_cases hs : s.size ≤ 16384
 · have HS := hid hs
   clear hs
   go_enter Tryz.func106, Tryz.ntmps106
   go_wp2_with fail
   refine (whole_any (RS_new w s false HS.out) (fun e => by cases e)).mono ?_
   rintro e w1 ⟨rfl, hb, _⟩
   have HB := hid hb
   clear hb
   go_wp2_with fail
   go_ret
   exact ⟨rfl, HB.out.below⟩
 · have HS := hid hs
   clear hs
   go_enter Tryz.func106, Tryz.ntmps106
   go_wp2_with fail
   refine (whole_big (s := s) (by simp) (by have := HS.out; omega)).mono ?_
   rintro e w1 ⟨rfl, rfl⟩
   go_wp2_with fail
   go_ret
   refine ⟨?_, (Below.refl _ w).alloc (Nat.le_refl _) _⟩
   have : Tm.deep s.data.toList = 0 := by unfold Tm.deep; rw [if_neg (by rw [← Lib.size_eq]; exact HS.out)]
   rw [this]
   rfl
set_option maxHeartbeats 1000000 in
theorem right_any (s : ByteArray) (w : World) :
   Calls Tryz.prog 98 #[.string s] w fun en w' => en = .returned (.bool (Tm.deep s.data.toList != 0)) ∧ Below w.heap.size w w' := by
 go_enter Tryz.func98, Tryz.ntmps98
 go_wp2_with fail
 refine (deep_any s _).mono ?_
 rintro e w1 ⟨rfl, hb⟩
 have HB := hid hb
 clear hb
 go_wp2_with fail
 go_ret
 refine ⟨?_, HB.out⟩
 have e : decide (0 < Tm.deep s.data.toList) = (Tm.deep s.data.toList != 0) := by rw [Bool.eq_iff_iff]; simp; omega
 simp [e]
theorem RS_at (w : World) (b : Nat) (hb : b = w.heap.size) (s : ByteArray) (kp : Bool) (hs : s.size ≤ 16384) :
   RS (w.alloc (.cells (rcells s 0 0 kp 0 0 ⟨#[]⟩ (.slice none 0 0)) 118)) b b s 0 kp 0 0 ⟨#[]⟩ [] (w.alloc (.cells (rcells s 0 0 kp 0 0 ⟨#[]⟩ (.slice none 0 0)) 118)) := by
 subst hb; exact RS_new w s kp hs
theorem ownsRow_base {w : World} {base base' : Nat} {e : TypeId} {size : Nat} {v : Value} {n : Nat} {xs : List Value} (h : w.ownsRow base e size v n xs) (hb : base' ≤ base) : w.ownsRow base' e size v n xs := by
 obtain ⟨h1, h2⟩ := h
 refine ⟨h1, ?_⟩
 rcases h2 with h2 | ⟨g, cap, cur, e1, e2, e3⟩
 · exact Or.inl h2
 · exact Or.inr ⟨g, cap, cur, e1, by omega, e3⟩
theorem Bad.fr {w0 : World} {B b : Nat} {s : ByteArray} {lv : Nat} {kp : Bool} {w : World} (h : Bad w0 B b s lv kp w) : Frx B b w0 w := by
 obtain ⟨a, n, tx, ks, h⟩ := h; exact h.fr
theorem heap_alloc_alloc (w : World) (o o' : Obj) : ((w.alloc o).alloc o').heap[w.heap.size]? = some o := by
 rw [Below.heap_alloc _ _ _ (by simp)]
 exact heap_alloc_new w o
set_option maxHeartbeats 1000000 in
theorem parts_any (s : ByteArray) (w : World) :
   Calls Tryz.prog 88 #[.string s] w fun en w' => Below w.heap.size w w' ∧
     (Tm.deep s.data.toList = 0 → en = .returned (.tuple #[.agg #[.int .u8 0, .int .i64 0, .string ⟨#[]⟩, .slice none 0 0], .bool false])) ∧
     (Tm.deep s.data.toList ≠ 0 → ∃ (c : UInt8) (l : Bs) (kids : Value), s.data.toList = c :: l ∧ en = .returned (.tuple #[.agg #[.int .u8 (c.toNat : Int), .int .i64 (setN s.data.toList 0), .string (setX s.data.toList ⟨#[]⟩), kids], .bool true]) ∧
       w'.ownsRow w.heap.size 22 1 kids (Tm.kidsOf 63 s.data.toList).length ((Tm.kidsOf 63 s.data.toList).map St)) := by
 by_cases hs : s.size ≤ 16384
 · have HS := hid hs
   clear hs
   go_enter Tryz.func88, Tryz.ntmps88
   go_wp2_with fail
   refine (whole_any (RS_at (w.alloc (.cells #[.int .u8 0, .int .i64 0, .string ⟨#[]⟩, .slice none 0 0] 101)) (w.heap.size + 1) (by simp) s true HS.out) (fun e => by omega)).mono ?_
   rintro e w1 ⟨rfl, hb, hR⟩
   have HB := hid hb
   have HR := hid hR
   have hres : w1.heap[w.heap.size]? = some (.cells #[.int .u8 0, .int .i64 0, .string ⟨#[]⟩, .slice none 0 0] 101 (0, 0)) := by
     rw [hb.fr.block w.heap.size (by omega) (by omega)]
     exact heap_alloc_alloc w _ _
   have hbel : Below w.heap.size w w1 := (((Below.refl _ w).alloc (Nat.le_refl _) _).alloc (by simp) _).trans ((hb.fr.below (Nat.le_refl _)).mono (by omega))
   have r0 : w1.cell? ⟨w.heap.size, 0, none⟩ = some (.int .u8 0) := by rw [cell_of_heap hres]; rfl
   have r1 : w1.cell? ⟨w.heap.size, 1, none⟩ = some (.int .i64 0) := by rw [cell_of_heap hres]; rfl
   have r2 : w1.cell? ⟨w.heap.size, 2, none⟩ = some (.string ⟨#[]⟩) := by rw [cell_of_heap hres]; rfl
   have r3 : w1.cell? ⟨w.heap.size, 3, none⟩ = some (.slice none 0 0) := by rw [cell_of_heap hres]; rfl
   have rf : ∀ o, w1.frozen? ⟨w.heap.size, o, none⟩ = false := fun o => frozen_of_heap hres o
   have HL := hid hbel
   clear hb hR hres hbel
   by_cases hd : Tm.deep s.data.toList = 0
   · have HD := hid hd
     clear hd
     rw [HD.out]
     go_wp2_with fail
     refine bodyPost_ret (v := .tuple #[.agg #[.int .u8 0, .int .i64 0, .string ⟨#[]⟩, .slice none 0 0], .bool false]) (by simp [results, Tryz.results88, go_sem, r0, r1, r2, r3]) rfl ⟨?_, fun _ => rfl, fun e => absurd HD.out e⟩
     exact (((HL.out.setCell (by simp) _).setCell (by simp) _).setCell (by simp) _).setCell (by simp) _
   · have HD := hid hd
     have hz : ((Tm.deep s.data.toList : Int) == 0) = false := by simpa using hd
     obtain ⟨kids, hk, ho⟩ := (HR.out hd).blk
     obtain ⟨ao, kn, kc, rfl⟩ : ∃ ao kn kc, kids = .slice ao kn kc := by
       rcases ho.2 with ⟨h, _⟩ | ⟨g, cap, _, h, _⟩
       · exact ⟨_, _, _, h⟩
       · exact ⟨_, _, _, h⟩
     have c4 : w1.cell? ⟨w.heap.size + 1, 4, none⟩ = some (.int .u8 0) := by rw [cell_of_heap hk]; rfl
     have c5 : w1.cell? ⟨w.heap.size + 1, 5, none⟩ = some (.int .i64 (setN s.data.toList 0)) := by rw [cell_of_heap hk]; rfl
     have c6 : w1.cell? ⟨w.heap.size + 1, 6, none⟩ = some (.string (setX s.data.toList ⟨#[]⟩)) := by rw [cell_of_heap hk]; rfl
     have c7 : w1.cell? ⟨w.heap.size + 1, 7, none⟩ = some (.slice ao kn kc) := by rw [cell_of_heap hk]; rfl
     have cf : ∀ o, w1.frozen? ⟨w.heap.size + 1, o, none⟩ = false := fun o => frozen_of_heap hk o
     have HK := hid hk
     have HO := hid ho
     obtain ⟨hsp, _⟩ : 0 < s.size ∧ True := by
       refine ⟨?_, trivial⟩
       have := (Tm.deep_is hd).1
       have := Tm.len_pos this
       rw [← Lib.size_eq] at this
       omega
     clear hd hk ho
     go_wp2_with fail
     refine bodyPost_ret (v := .tuple #[.agg #[.int .u8 (s[0].toNat : Int), .int .i64 (setN s.data.toList 0), .string (setX s.data.toList ⟨#[]⟩), .slice ao kn kc], .bool true]) (by simp [results, Tryz.results88, go_sem, r0, r1, r2, r3]) rfl ⟨?_, fun e => absurd e HD.out, fun _ => ⟨s[0], rest s 1, .slice ao kn kc, rest_cons hsp, rfl, ?_⟩⟩
     · exact ((((HL.out.setCell (by simp) _).setCell (by simp) _).setCell (by simp) _).setCell (by simp) _).setCell (by simp) _
     · refine ownsRow_base (base := w.heap.size + 1 + 1) ?_ (by omega)
       refine ownsRow_setCell_below (ownsRow_setCell_below (ownsRow_setCell_below (ownsRow_setCell_below (ownsRow_setCell_below HO.out ?_ _) ?_ _) ?_ _) ?_ _) ?_ _
       all_goals (dsimp only; omega)
 · have HS := hid hs
   clear hs
   have HD : Hid (Tm.deep s.data.toList = 0) := by apply hid; unfold Tm.deep; rw [if_neg (by rw [← Lib.size_eq]; exact HS.out)]
   go_enter Tryz.func88, Tryz.ntmps88
   go_wp2_with fail
   refine (whole_big (s := s) (by simp) (by have := HS.out; omega)).mono ?_
   rintro e w1 ⟨rfl, rfl⟩
   go_wp2_with fail
   refine bodyPost_ret (v := .tuple #[.agg #[.int .u8 0, .int .i64 0, .string ⟨#[]⟩, .slice none 0 0], .bool false]) (by simp [results, Tryz.results88, go_sem]) rfl ⟨?_, fun _ => rfl, fun e => absurd HD.out e⟩
   exact ((Below.refl _ w).alloc (Nat.le_refl _) _).alloc (by simp) _
end Go.Proofs.YtdllpklecdmghaaGreatDoor
/- What a text's copy does; a small number's digits. -/
namespace Go.Proofs.YtdllpklecdmghaaGreatDoor
open Go.RowKit
theorem Tryz.info5 : (Tryz.prog.info? 5).map (fun i => (i.zero, i.size, i.bytes)) = some (some (.int .u8 0), 1, 1) := by kernel_rfl
set_option maxHeartbeats 4000000 in
set_option maxRecDepth 100000 in
theorem slite_any (s : ByteArray) (w : World) (hlim : s.size ≤ 20000) :
   Calls Tryz.prog 83 #[.string s] w fun e w' => e = .returned (.string s) ∧ Below w.heap.size w w' := by
 by_cases h0 : s.size = 0
 · have hs : s = ⟨#[]⟩ := ByteArray.ext (Array.eq_empty_of_size_eq_zero h0)
   subst hs
   go_enter Tryz.func83, Tryz.ntmps83
   go_wp2
   go_ret
   exact ⟨rfl, Below.refl _ _⟩
 · obtain ⟨i0, hi, hz0, hz1, hz2⟩ := info_parts Tryz.info5
   have hinfo : (Tryz.prog.info? 5).map (·.size) = some 1 := by rw [hi]; simp [hz1]
   have hco : Tryz.prog.cellsOf 5 = 1 := by simp [Program.cellsOf, hi, hz1]
   obtain ⟨M, hM⟩ : ∃ M, M = madeCells (Value.int .u8 0).cells (((s.size : Nat) : Int).toNat * i0.size) := ⟨_, rfl⟩
   have hMs : M.size = s.size := by rw [hM, size_madeCells, hz1]; simp
   have hmk : ∀ W : World, (Instr.makeSlice 51 (.int .i64 (s.size : Int)) (.int .i64 (s.size : Int))).run Tryz.prog W = .ok (.slice (some ⟨W.heap.size, 0, none⟩) s.size s.size) (W.alloc (.cells M 5)) := fun W => by
     have h := run_make (P := Tryz.prog) W 51 5 i0 (.int .u8 0) Tryz.underlying51 hi hz0 .i64 .i64 (s.size : Int) (s.size : Int) (by omega) (by omega) (by rw [hz2]; omega) (by omega)
     rw [← hM] at h
     simpa using h
   clear hM
   have hcp := Lib.run_copy_row_string (P := Tryz.prog) (w.alloc (.cells M 5)) 51 9 3 5 w.heap.size 0 s.size s.size s M 5 Tryz.underlying51 hinfo (heap_alloc_new w _) (Nat.le_refl _) (by omega)
   obtain ⟨Y, hY⟩ : ∃ Y, Y = (M.toList.take 0 ++ Lib.byteCells s.data.toList ++ M.toList.drop (0 + s.size)).toArray := ⟨_, rfl⟩
   rw [← hY] at hcp
   have hYl : Y.toList = Lib.byteCells s.data.toList := by
     rw [hY, List.toList_toArray, List.take_zero, List.nil_append, List.drop_of_length_le (by rw [Array.length_toList]; omega), List.append_nil]
   have hYs : Y.size = s.size := by rw [← Array.length_toList, hYl, Lib.byteCells_length, ← Lib.size_eq]
   have hgY : ((w.alloc (.cells M 5)).setRow w.heap.size Y).heap[w.heap.size]? = some (.cells Y 5 (0, 0)) := setRow_heap _ _ M _ 5 (0, 0) (heap_alloc_new w _)
   have hne : s.data.toList ≠ [] := fun e => h0 (by rw [Lib.size_eq, e]; rfl)
   have hUS := Lib.run_unsafeString_row (P := Tryz.prog) ((w.alloc (.cells M 5)).setRow w.heap.size Y) 116 3 9 5 Tryz.underlying116 hco w.heap.size Y.size (by unfold World.shape?; rw [hgY]) s.data.toList hne (by rw [← Lib.size_eq]; omega) (by rw [← Lib.size_eq]; omega)
     (fun j x hx => Lib.cells_of_row hgY Y.size j _ (by rw [List.take_of_length_le (by rw [Array.length_toList]; exact Nat.le_refl _), hYl]; simp [Lib.byteCells, hx]))
   rw [← Lib.size_eq] at hUS
   clear hY
   go_enter Tryz.func83, Tryz.ntmps83
   go_wp2
   go_ret
   have hb1 : Below w.heap.size w (w.alloc (.cells M 5)) := (Below.refl _ w).alloc (Nat.le_refl _) _
   have hb2 : Below w.heap.size (w.alloc (.cells M 5)) ((w.alloc (.cells M 5)).setRow w.heap.size Y) := ⟨rfl, rfl, rfl, by simp, fun k hk => setRow_other _ _ _ _ (by omega)⟩
   exact ⟨rfl, Lib.below_freeze (hb1.trans hb2) (p := ⟨w.heap.size, 0, none⟩) (Nat.le_refl _) _⟩
set_option maxHeartbeats 400000 in
theorem clone_any (s : ByteArray) (w : World) (hlim : s.size ≤ 20000) :
   Calls Tryz.prog 62 #[.string s] w fun e w' => e = .returned (.string s) ∧ Below w.heap.size w w' := by
 go_enter Tryz.func62, Tryz.ntmps62
 go_wp2_with fail
 refine (slite_any s _ hlim).mono ?_
 rintro e w1 ⟨rfl, hb⟩
 have HB := hid hb
 clear hb
 go_wp2_with fail
 go_ret
 exact ⟨rfl, HB.out⟩
end Go.Proofs.YtdllpklecdmghaaGreatDoor
/- What build does: an op, a head and parts, put together or refused. -/
namespace Go.Proofs.YtdllpklecdmghaaGreatDoor
open Go.RowKit
def Texts (w : World) (kv : Value) (ks : List Bs) : Prop :=
 ∃ ao cap, kv = .slice ao ks.length cap ∧ (ks ≠ [] → ∃ g o, ao = some ⟨g, o, none⟩ ∧ g < w.heap.size ∧ ∀ i (h : i < ks.length), w.cell? ⟨g, o + i, none⟩ = some (St ks[i]))
def bDeep (ks : List Bs) : Nat := ks.foldl (fun d k => max d (Tm.deep k + 1)) 1
def bSize (ks : List Bs) : Nat := ks.foldl (fun d k => d + k.length) 0
def bRes (op : UInt8) (head : Bs) (ks : List Bs) : Bs × Nat :=
 if ks.any (fun k => Tm.deep k == 0) then ([], 10)
 else if 64 < bDeep ks ∨ 16384 < 1 + head.length + bSize ks then ([], 3)
 else (op :: (head ++ ks.flatten), 0)
theorem any_take {ks : List Bs} {i : Nat} (h : i < ks.length) (hz : Tm.deep ks[i] = 0) : ks.any (fun k => Tm.deep k == 0) = true := by
 rw [List.any_eq_true]
 exact ⟨ks[i], List.getElem_mem h, by simp [hz]⟩
theorem take_succ' (ks : List Bs) (i : Nat) (h : i < ks.length) : ks.take (i + 1) = ks.take i ++ [ks[i]] := by
 rw [List.take_succ_eq_append_getElem h]
theorem bDeep_snoc (ks : List Bs) (k : Bs) : bDeep (ks ++ [k]) = max (bDeep ks) (Tm.deep k + 1) := by simp [bDeep]
theorem bSize_snoc (ks : List Bs) (k : Bs) : bSize (ks ++ [k]) = bSize ks + k.length := by simp [bSize]
theorem bSize_flat (ks : List Bs) : bSize ks = ks.flatten.length := by
 have : ∀ (ks : List Bs) (d : Nat), ks.foldl (fun d k => d + k.length) d = d + ks.flatten.length := by
   intro ks
   induction ks with
   | nil => intro d; simp
   | cons k ks ih => intro d; simp [ih]; omega
 simpa [bSize] using this ks 0
theorem st_size (l : Bs) : (⟨l.toArray⟩ : ByteArray).size = l.length := by simp [ByteArray.size]
abbrev bcs (l : Bs) : List Value := Lib.byteCells l
theorem strCells_bcs (l : Bs) : Lib.strCells ⟨l.toArray⟩ = bcs l := by simp [Lib.strCells, Lib.byteCells]
theorem bcs_app (a b : Bs) : bcs a ++ bcs b = bcs (a ++ b) := by simp [Lib.byteCells]
theorem own_block_ge {w : World} {base : Nat} {e : TypeId} {size : Nat} {v : Value} {n : Nat} {xs : List Value} (h : w.ownsRow base e size v n xs) : ∀ k, v.ownBlock = some k → base ≤ k := fun k hk => (h.lt k hk).1
theorem bSize_take (ks : List Bs) (i : Nat) : bSize (ks.take i) ≤ bSize ks := by
 rw [bSize_flat, bSize_flat]
 have : ks.flatten = (ks.take i).flatten ++ (ks.drop i).flatten := by rw [← List.flatten_append, List.take_append_drop]
 rw [this]
 simp
theorem own_string {w : World} {base : Nat} {v : Value} {n : Nat} {l : Bs} (h : w.ownsRow base 5 1 v n (bcs l)) (hl : l ≠ []) :
   ∃ g cap, v = .slice (some ⟨g, 0, none⟩) l.length cap ∧ (∀ dst, Tryz.prog.underlying dst = some .string → (convert 51 dst (.slice (some ⟨g, 0, none⟩) l.length cap)).run Tryz.prog w = .ok (St l) w) := by
 have hn : n = l.length := by have := h.1; simp [Lib.byteCells] at this; omega
 subst hn
 rcases h.2 with ⟨_, h0⟩ | ⟨g, cap, cur, hv, _, hg, hc1, hc2, hc3, hc4⟩
 · exact absurd (List.eq_nil_of_length_eq_zero h0) hl
 · refine ⟨g, cap, hv, fun dst hd => ?_⟩
   refine run_convert_bytes_back (P := Tryz.prog) w 51 dst 5 ⟨g, 0, none⟩ cap l Tryz.underlying51 Tryz.underlying5 hd (fun j hj => ?_)
   have hcell : w.cell? ⟨g, j, none⟩ = cur[j]? := by simp [World.cell?, hg]
   have e1 : (cur.toList.take (l.length * 1))[j]? = (bcs l)[j]? := by rw [hc4]
   rw [Nat.mul_one, List.getElem?_take_of_lt hj] at e1
   have e2 : (bcs l)[j]? = some (.int .u8 (l[j].toNat : Int)) := by simp [Lib.byteCells, hj]
   rw [e2, Array.getElem?_toList] at e1
   have e3 : (⟨g, 0, none⟩ : Addr).add j = ⟨g, j, none⟩ := by simp [Addr.add]; intro h; omega
   rw [e3, hcell, e1]
theorem flat_snoc (a : List Bs) (x : Bs) : (a ++ [x]).flatten = a.flatten ++ x := by simp
theorem deep_list (l : Bs) (w : World) : Calls Tryz.prog 106 #[St l] w fun en w' => en = .returned (.int .i64 (Tm.deep l)) ∧ Below w.heap.size w w' := deep_any ⟨l.toArray⟩ w
theorem right_list (l : Bs) (w : World) : Calls Tryz.prog 98 #[St l] w fun en w' => en = .returned (.bool (Tm.deep l != 0)) ∧ Below w.heap.size w w' := right_any ⟨l.toArray⟩ w
set_option maxHeartbeats 4000000 in
theorem build_any (op : UInt8) (head : Bs) (ks : List Bs) (kv : Value) (w : World) (hkv : Texts w kv ks) (hh : head.length ≤ 8192) (hn : ks.length ≤ 40) :
   Calls Tryz.prog 90 #[.int .u8 (op.toNat : Int), St head, kv] w fun en w' =>
     en = .returned (.tuple #[St (bRes op head ks).1, .int .i64 ((bRes op head ks).2 : Int)]) ∧ Below w.heap.size w w' := by
 obtain ⟨ao, cap, rfl, hcell⟩ := hkv
 have HC := hid hcell
 clear hcell
 have hsh : (⟨head.toArray⟩ : ByteArray).size = head.length := st_size head
 go_enter Tryz.func90, Tryz.ntmps90
 go_wp2_with fail
 go_loopg [8, 9, 21] ks.length (fun g dv sv iv wr => ∃ i : Nat, i ≤ ks.length ∧ g = ks.length - i ∧ iv = .int .i64 i ∧ dv = .int .i64 (bDeep (ks.take i)) ∧ sv = .int .i64 ((1 + head.length + bSize (ks.take i) : Nat) : Int) ∧ bDeep (ks.take i) ≤ 65 ∧ bSize (ks.take i) ≤ 16384 * i ∧ (ks.take i).any (fun k => Tm.deep k == 0) = false ∧ Below w.heap.size w wr)
 case atStart =>
   refine ⟨0, Nat.zero_le _, rfl, rfl, rfl, ?_, by simp [bDeep], by simp [bSize], by simp, Below.refl _ _⟩
   simp [bSize]
 case round =>
   obtain ⟨i, hi, rfl, rfl, rfl, rfl, hd1, hs1, hany, hbl⟩ := hrel
   generalize hD : bDeep (ks.take i) = D at *
   generalize hS : bSize (ks.take i) = S at *
   have HD := hid hD
   have HS := hid hS
   have HA := hid hany
   have HL := hid hbl
   clear hD hS hany
   by_cases hlt : i < ks.length
   · obtain ⟨g, o, rfl, hg, hc⟩ := HC.out (by intro e; rw [e] at hlt; simp at hlt)
     have hci : wr.cell? ⟨g, o + i, none⟩ = some (St ks[i]) := by
       rw [hbl.cell (p := ⟨g, o + i, none⟩) hg]; exact hc i hlt
     clear hc hbl
     have hlt' : (i : Int) < (ks.length : Int) := by omega
     go_wp2_with fail
     refine (deep_list ks[i] _).mono ?_
     rintro e w1 ⟨rfl, hb⟩
     have HL1 := hid (HL.out.trans (hb.mono HL.out.size))
     clear hb
     have hle64 := Tm.deep_le ks[i]
     have hTS := take_succ' ks i hlt
     by_cases hz : Tm.deep ks[i] = 0
     · have HZ := hid hz
       have HR : Hid (bRes op head ks = ([], 10)) := by apply hid; unfold bRes; rw [if_pos (any_take hlt hz)]
       clear hTS
       rw [hz]
       clear hz
       go_wp2_with fail
       go_ret2
       exact ⟨by rw [HR.out]; rfl, HL1.out⟩
     · have hl16 := (Tm.deep_is hz).2
       have hsk : (⟨ks[i].toArray⟩ : ByteArray).size = ks[i].length := st_size ks[i]
       have HD2 : Hid (bDeep (ks.take (i + 1)) = max D (Tm.deep ks[i] + 1)) := by apply hid; rw [hTS, bDeep_snoc, HD.out]
       have HS2 : Hid (bSize (ks.take (i + 1)) = S + ks[i].length) := by apply hid; rw [hTS, bSize_snoc, HS.out]
       have HA2 : Hid ((ks.take (i + 1)).any (fun k => Tm.deep k == 0) = false) := by
         apply hid
         rw [hTS, List.any_append, HA.out]
         simp [hz]
       clear hTS
       generalize hdd : Tm.deep ks[i] = d at *
       generalize hll : ks[i].length = m at *
       have hz' : ((d : Int) == 0) = false := by simp; omega
       clear hdd hll hz
       by_cases hDd : D ≤ d
       · go_wp2_with fail
         go_roundg (ks.length - (i + 1))
         case measure => omega
         case rel =>
           refine ⟨i + 1, by omega, rfl, by simp, ?_, ?_, ?_, ?_, HA2.out, HL1.out⟩
           · rw [HD2.out, show max D (d + 1) = d + 1 by omega]; simp
           · rw [HS2.out]; simp; omega
           · rw [HD2.out]; omega
           · rw [HS2.out]; omega
       · go_wp2_with fail
         go_roundg (ks.length - (i + 1))
         case measure => omega
         case rel =>
           refine ⟨i + 1, by omega, rfl, by simp, ?_, ?_, ?_, ?_, HA2.out, HL1.out⟩
           · rw [HD2.out, show max D (d + 1) = D by omega]
           · rw [HS2.out]; simp; omega
           · rw [HD2.out]; omega
           · rw [HS2.out]; omega
   · have hik : i = ks.length := by omega
     subst hik
     have HTL : Hid (ks.take ks.length = ks) := by apply hid; simp
     have HANY : Hid (ks.any (fun k => Tm.deep k == 0) = false) := by have := HA.out; rw [HTL.out] at this; exact this
     have hDk : bDeep ks = D := by have := HD.out; rw [HTL.out] at this; exact this
     have hSk : bSize ks = S := by have := HS.out; rw [HTL.out] at this; exact this
     have HDK := hid hDk
     have HSK := hid hSk
     clear hDk hSk
     by_cases hbig : 64 < D ∨ 16384 < 1 + head.length + S
     · have HR : Hid (bRes op head ks = ([], 3)) := by
         apply hid; unfold bRes; rw [HANY.out, HDK.out, HSK.out, if_neg (by simp), if_pos hbig]
       rcases hbig with hbig | hbig
       · have h1' : (64 : Int) < (D : Int) := by omega
         go_wp2_with fail
         go_ret2
         exact ⟨by rw [HR.out]; rfl, HL.out⟩
       · by_cases h64 : 64 < D
         · have h1' : (64 : Int) < (D : Int) := by omega
           go_wp2_with fail
           go_ret2
           exact ⟨by rw [HR.out]; rfl, HL.out⟩
         · have h1' : ¬ (64 : Int) < (D : Int) := by omega
           have h2' : (16384 : Int) < 1 + (head.length : Int) + (S : Int) := by omega
           go_wp2_with fail
           go_ret2
           exact ⟨by rw [HR.out]; rfl, HL.out⟩
     · have h1' : ¬ (64 : Int) < (D : Int) := by omega
       have h2' : ¬ (16384 : Int) < 1 + (head.length : Int) + (S : Int) := by omega
       have HR : Hid (bRes op head ks = (op :: (head ++ ks.flatten), 0)) := by
         apply hid; unfold bRes; rw [HANY.out, HDK.out, HSK.out, if_neg (by simp), if_neg hbig]
       clear hbig
       obtain ⟨i0, hi0, hz0, hz1, hz2⟩ := info_parts Tryz.info5
       have HmC : Hid ((1 + (head.length : Int) + (S : Int)) = ((1 + head.length + S : Nat) : Int)) := by apply hid; omega
       have Hb2 : Hid (i0.bytes * (1 + head.length + S) ≤ 281474976710656) := by apply hid; rw [hz2]; omega
       have Hb3 : Hid (1 + head.length + S ≤ maxLen) := by apply hid; unfold maxLen; omega
       have hsz := HL.out.size
       have hci := HC.out
       have HCI := hid hci
       clear hci
       have ho1 : ∀ u ∈ [Value.int .u8 (op.toNat : Int)], u.oneCell' = true := by intro u hu; simp at hu; subst hu; rfl
       have Hm1 : Hid (0 + 1 ≤ maxLen) := by apply hid; unfold maxLen; omega
       have Hm2 : Hid (0 + 1 + (⟨head.toArray⟩ : ByteArray).size ≤ maxLen) := by apply hid; unfold maxLen; rw [st_size]; omega
       have Hm3 : Hid (0 + 1 + (⟨head.toArray⟩ : ByteArray).size ≤ 140737488355328) := by apply hid; rw [st_size]; omega
       go_wp2_with (first | (at_make; refine wpList_make_own _ rfl _ (.tmp 45) 51 rfl w.heap.size 5 i0 (.int .u8 0) 1 Tryz.underlying51 hi0 hz0 hz1 .i64 .i64 _ (1 + head.length + S) rfl rfl HmC.out Hb2.out Hb3.out hsz ?_; intro w2 hown2 hg2; have HO2 := hid hown2; have HG2 := hid hg2; have hs2 := hg2.size; clear hown2 hg2) | (at_builtin; refine wpList_append_own _ rfl (.tmp 47) (.tmp 49) 51 rfl w.heap.size 5 i0 (.int .u8 0) 1 1 Tryz.underlying51 hi0 hz0 hz1 hz2 rfl (by decide) _ 0 [] rfl (World.ownsRow.alloc HO2.out _) ⟨w2.heap.size, 0, none⟩ 1 1 [.int .u8 (op.toNat : Int)] rfl rfl (cell_one_new _ _ _) ho1 Hm1.out (by omega) (by simp; omega) ?_; intro v3 w3 hown3 hg3 _; have HO3 := hid hown3; have HG3 := hid hg3; have hs3 := hg3.size; simp at hs3; clear hown3 hg3) | (at_builtin; refine Lib.wpList_append_own_string _ rfl (.tmp 51) (.tmp 52) 51 9 rfl w.heap.size 5 i0 Tryz.underlying51 Tryz.underlying9 hi0 hz0 hz1 hz2 v3 (0 + 1) _ rfl HO3.out ⟨head.toArray⟩ rfl Hm2.out Hm3.out (by omega) ?_; intro v4 w4 hown4 hg4 _; have HO4 := hid hown4; have HG4 := hid hg4; have hs4 := hg4.size; clear hown4 hg4))
       have hb4 : Below w.heap.size w w4 := by
         have b2 := HL.out.grown HG2.out hsz (fun k h => by cases h)
         have b2' := b2.alloc (o := .cells #[.int .u8 (op.toNat : Int)] 5) b2.size
         have b3 := b2'.grown HG3.out b2'.size (own_block_ge (HO2.out))
         exact b3.grown HG4.out b3.size (own_block_ge HO3.out)
       have ho4 : w4.ownsRow w.heap.size 5 1 v4 (1 + head.length + bSize (ks.take 0)) (bcs (op :: (head ++ (ks.take 0).flatten))) := by
         have := HO4.out
         rw [strCells_bcs, st_size] at this
         have e : ([] ++ [Value.int .u8 (op.toNat : Int)]) ++ bcs head = bcs (op :: (head ++ (ks.take 0).flatten)) := by simp [Lib.byteCells]
         rw [e] at this
         simpa [bSize] using this
       have HB4 := hid hb4
       have HO4' := hid ho4
       clear hb4 ho4
       go_loopg [13, 56] ks.length (fun g ov iv wr => ∃ i : Nat, i ≤ ks.length ∧ g = ks.length - i ∧ iv = .int .i64 i ∧ wr.ownsRow w.heap.size 5 1 ov (1 + head.length + bSize (ks.take i)) (bcs (op :: (head ++ (ks.take i).flatten))) ∧ Below w.heap.size w wr)
       case atStart => exact ⟨0, Nat.zero_le _, rfl, rfl, HO4'.out, HB4.out⟩
       case round =>
         obtain ⟨j, hj, rfl, rfl, hown, hbl⟩ := hrel
         have HOW := hid hown
         have HBL := hid hbl
         have hszr := hbl.size
         by_cases hlt2 : j < ks.length
         · obtain ⟨g, o, rfl, hg, hc⟩ := HCI.out (by intro e; rw [e] at hlt2; simp at hlt2)
           have hcj : wr.cell? ⟨g, o + j, none⟩ = some (St ks[j]) := by
             rw [hbl.cell (p := ⟨g, o + j, none⟩) hg]; exact hc j hlt2
           have hlt' : (j : Int) < (ks.length : Int) := by omega
           have hle2 := bSize_take ks (j + 1)
           have hTS := take_succ' ks j hlt2
           rw [hTS, bSize_snoc, HSK.out] at hle2
           have HS2 : Hid (bSize (ks.take (j + 1)) = bSize (ks.take j) + ks[j].length) := by apply hid; rw [hTS, bSize_snoc]
           have HF2 : Hid ((ks.take (j + 1)).flatten = (ks.take j).flatten ++ ks[j]) := by apply hid; rw [hTS, flat_snoc]
           have Hn2 : Hid (1 + head.length + bSize (ks.take j) + (⟨ks[j].toArray⟩ : ByteArray).size ≤ maxLen) := by apply hid; unfold maxLen; rw [st_size]; omega
           have Hn3 : Hid (1 + head.length + bSize (ks.take j) + (⟨ks[j].toArray⟩ : ByteArray).size ≤ 140737488355328) := by apply hid; rw [st_size]; omega
           clear hc hbl hown hTS
           go_wp2_with (at_builtin; refine Lib.wpList_append_own_string _ rfl (.tmp 60) (.tmp 61) 51 22 rfl w.heap.size 5 i0 Tryz.underlying51 Tryz.underlying22 hi0 hz0 hz1 hz2 _ _ _ rfl HOW.out ⟨ks[j].toArray⟩ rfl Hn2.out Hn3.out hszr ?_; intro v5 w5 hown5 hg5 _; have HO5 := hid hown5; have HG5 := hid hg5; clear hown5 hg5)
           go_roundg (ks.length - (j + 1))
           case measure => omega
           case rel =>
             refine ⟨j + 1, by omega, rfl, by simp, ?_, HBL.out.grown HG5.out hszr (own_block_ge HOW.out)⟩
             have := HO5.out
             rw [strCells_bcs, st_size, bcs_app] at this
             rw [HS2.out, HF2.out]
             have e : op :: (head ++ (ks.take j).flatten) ++ ks[j] = op :: (head ++ ((ks.take j).flatten ++ ks[j])) := by simp
             rw [e] at this
             simpa [Nat.add_assoc] using this
         · have hjk : j = ks.length := by omega
           subst hjk
           obtain ⟨L, hL⟩ : ∃ L, L = op :: (head ++ ks.flatten) := ⟨_, rfl⟩
           rw [List.take_length, ← hL] at hown
           obtain ⟨g, cp, rfl, hcv⟩ := own_string hown (by rw [hL]; simp)
           have hcv1 := hcv 22 Tryz.underlying22
           have HR2 : Hid (bRes op head ks = (L, 0)) := by apply hid; rw [HR.out, hL]
           clear hown hbl hcv hL HR
           go_wp2_with fail
           go_ret2
           exact ⟨by rw [HR2.out]; rfl, HBL.out⟩
end Go.Proofs.YtdllpklecdmghaaGreatDoor
/- What the makers do: digests, children, joined and bound secrets, signatures, boxes. -/
namespace Go.Proofs.YtdllpklecdmghaaGreatDoor
open Go.RowKit
theorem texts_one (w : World) (a : Bs) : Texts (w.alloc (.cells #[St a] 22)) (.slice (some ⟨w.heap.size, 0, none⟩) 1 1) [a] :=
 ⟨_, _, rfl, fun _ => ⟨w.heap.size, 0, rfl, by simp, fun i h => by
   have hg : (w.alloc (.cells #[St a] 22)).heap[w.heap.size]? = some (.cells #[St a] 22 (0, 0)) := heap_alloc_new w _
   rw [cell_of_heap hg]
   match i, h with
   | 0, _ => rfl⟩⟩
theorem texts_nil (w : World) : Texts w (.slice none 0 0) [] := ⟨none, 0, rfl, fun h => absurd rfl h⟩
abbrev made (r : Bs × Nat) : Ending := .returned (.tuple #[St r.1, .int .i64 (r.2 : Int)])
set_option maxHeartbeats 400000 in
theorem hash_any (a : Bs) (w : World) : Calls Tryz.prog 71 #[St a] w fun en w' => en = made (bRes 72 [] [a]) ∧ Below w.heap.size w w' := by
 go_enter Tryz.func71, Tryz.ntmps71
 go_wp2_with fail
 refine (build_any 72 [] [a] _ _ (texts_one w a) (by simp) (by simp)).mono ?_
 rintro e w1 ⟨rfl, hb⟩
 have HB := hid (((Below.refl _ w).alloc (Nat.le_refl _) (.cells #[St a] 22)).trans (hb.mono (by simp)))
 clear hb
 go_wp2_with fail
 go_ret2
 exact ⟨rfl, HB.out⟩
theorem st_app (a b : Bs) : (⟨a.toArray⟩ : ByteArray) ++ ⟨b.toArray⟩ = ⟨(a ++ b).toArray⟩ := by
 apply ByteArray.ext; simp
theorem ownsRow_of_heap {w w2 : World} {base : Nat} {e : TypeId} {size : Nat} {v : Value} {n : Nat} {xs : List Value} (h : w.ownsRow base e size v n xs) (hh : ∀ k, k < w.heap.size → w2.heap[k]? = w.heap[k]?) : w2.ownsRow base e size v n xs := by
 obtain ⟨h1, h2⟩ := h
 refine ⟨h1, ?_⟩
 rcases h2 with h2 | ⟨g, cap, cur, e1, e2, e3, e4⟩
 · exact Or.inl h2
 · refine Or.inr ⟨g, cap, cur, e1, e2, ?_, e4⟩
   have hg : g < w.heap.size := by
     apply Classical.byContradiction
     intro hn
     rw [Array.getElem?_eq_none (by omega)] at e3
     cases e3
   rw [hh g hg]; exact e3
end Go.Proofs.YtdllpklecdmghaaGreatDoor
