import Derived.Test.YtkifchjpgdmcoaaGreatDoorTermAll
import Derived.Test.YtkifchjpgdmcoaaGreatDoorFrAll
import Derived.Lib.BufferWrite
import Derived.Lib.UnsafeStr
/- What the whole text's reading, Deep, Right, Size and parts do. -/
namespace Go.Proofs.YtkifchjpgdmcoaaGreatDoor
open Go.RowKit
set_option maxHeartbeats 1000000 in
theorem whole_big {b : Nat} {s : ByteArray} {w : World} (c0 : w.cell? ⟨b, 0, none⟩ = some (.string s)) (hs : 16384 < s.size) :
   Calls Tryz.prog 80 #[rp b] w fun en w' => en = .returned (.int .i64 0) ∧ w' = w := by
 have hs' : (16384 : Int) < (s.size : Int) := by omega
 go_enter Tryz.func80, Tryz.ntmps80
 go_wp2_with fail
 go_ret
 exact ⟨rfl, rfl⟩
theorem deep_some {s : ByteArray} {d : Nat} (hs : s.size ≤ 16384) (h : Tm.rd 64 s.data.toList = some (d, [])) : Tm.deep s.data.toList = d := by
 unfold Tm.deep
 rw [if_pos (by rw [← Lib.size_eq]; exact hs), h]
theorem deep_rest {s : ByteArray} {d : Nat} {r : Bs} (h : Tm.rd 64 s.data.toList = some (d, r)) (hr : r ≠ []) : Tm.deep s.data.toList = 0 := by
 unfold Tm.deep
 split
 · rw [h]
   cases r with
   | nil => exact absurd rfl hr
   | cons a b => rfl
 · rfl
theorem deep_none {s : ByteArray} (h : Tm.rd 64 s.data.toList = none) : Tm.deep s.data.toList = 0 := by
 unfold Tm.deep
 split
 · rw [h]
 · rfl
set_option maxHeartbeats 1000000 in
theorem whole_any {w0 : World} {B b : Nat} {s : ByteArray} {kp : Bool} {w : World} (h : RS w0 B b s 0 kp 0 0 ⟨#[]⟩ [] w) (hB : kp = true → B ≤ b + 1) :
   Calls Tryz.prog 80 #[rp b] w fun en w' => en = .returned (.int .i64 (Tm.deep s.data.toList)) ∧ Bad w0 B b s 0 kp w' ∧
     (Tm.deep s.data.toList ≠ 0 → RS w0 B b s 0 kp s.size (upd kp 0 (setN s.data.toList 0)) (upd kp ⟨#[]⟩ (setX s.data.toList ⟨#[]⟩)) (upd kp [] (Tm.kidsOf 63 s.data.toList)) w') := by
 obtain ⟨c0, c1, c2, c3, hf⟩ := h.cells
 have hsz := h.sz
 have hs' : ¬ (16384 : Int) < (s.size : Int) := by omega
 have HR := hid h
 have HB0 := hid hB
 have hw : wt kp (0 + 1) = kp := by cases kp <;> rfl
 have HW := hid hw
 clear h hB hw
 go_enter Tryz.func80, Tryz.ntmps80
 go_wp2_with fail
 refine (termG_all 63 (by omega) HR.out (by omega) (fun e => HB0.out (by rw [HW.out] at e; exact e))).mono ?_
 rintro e w1 hE
 have HE := hid hE
 clear hE
 cases hr : Tm.rd 64 s.data.toList with
 | none =>
   have H1 := hid hr
   clear hr
   obtain ⟨rfl, hb⟩ := HE.out.none H1.out
   obtain ⟨a', n', tx', ks', hb⟩ := hb
   obtain ⟨g0, g1, g2, g3, gf⟩ := hb.cells
   have hle := hb.le
   have HB := hid hb
   clear hb
   by_cases hlt : a' < s.size
   · go_wp2_with fail
     go_quiet (fail)
     go_wp2_with fail
     go_ret
     rw [deep_none H1.out]
     exact ⟨rfl, (HB.out.drewN _).bad, fun e => absurd rfl e⟩
   · go_wp2_with fail
     go_quiet (fail)
     go_wp2_with fail
     go_ret
     rw [deep_none H1.out]
     exact ⟨rfl, (HB.out.drewN _).bad, fun e => absurd rfl e⟩
 | some x =>
   obtain ⟨d, r⟩ := x
   have H1 := hid hr
   clear hr
   obtain ⟨rfl, hb⟩ := HE.out.some H1.out
   obtain ⟨g0, g1, g2, g3, gf⟩ := hb.cells
   have hle := hb.le
   have HB := hid hb
   clear hb
   by_cases hr : r = []
   · subst hr
     have g1' : w1.cell? ⟨b, 1, none⟩ = some (.int .i64 (s.size : Int)) := g1
     clear g1
     go_wp2_with fail
     go_quiet (fail)
     go_wp2_with fail
     go_ret
     rw [deep_some hsz H1.out]
     have := HB.out
     rw [HW.out] at this
     exact ⟨rfl, (HB.out.drewN _).bad, fun _ => by simpa using this.drewN _⟩
   · have hlr : 0 < r.length := List.length_pos_iff.2 hr
     have hrl : r.length ≤ s.size := by
       have := (Tm.rd_len H1.out).1
       rw [← Lib.size_eq] at this
       omega
     have hlt : s.size - r.length < s.size := by omega
     generalize hj : s.size - r.length = j at *
     have HRr := hid hr
     clear hr
     clear hj
     go_wp2_with fail
     go_quiet (fail)
     go_wp2_with fail
     go_ret
     rw [deep_rest H1.out HRr.out]
     exact ⟨rfl, (HB.out.drewN _).bad, fun e => absurd rfl e⟩
theorem RS_new (w : World) (s : ByteArray) (kp : Bool) (hs : s.size ≤ 16384) :
   RS (w.alloc (.cells (rcells s 0 0 kp 0 0 ⟨#[]⟩ (.slice none 0 0)) 95)) w.heap.size w.heap.size s 0 kp 0 0 ⟨#[]⟩ [] (w.alloc (.cells (rcells s 0 0 kp 0 0 ⟨#[]⟩ (.slice none 0 0)) 95)) :=
 ⟨Nat.zero_le _, Frx.refl _ _ _, by simp, by simp, hs, Nat.le_refl _, by omega, .slice none 0 0, heap_alloc_new w _, World.ownsRow_nil _ _ _ _⟩
theorem Bad.below {w : World} {o : Obj} {s : ByteArray} {lv : Nat} {kp : Bool} {w' : World} (h : Bad (w.alloc o) w.heap.size w.heap.size s lv kp w') : Below w.heap.size w w' := by
 obtain ⟨a, n, tx, ks, h⟩ := h
 exact ((Below.refl _ w).alloc (Nat.le_refl _) o).trans (h.fr.below (Nat.le_refl _))
set_option maxHeartbeats 1000000 in
theorem deep_any (s : ByteArray) (w : World) :
   Calls Tryz.prog 56 #[.string s] w fun en w' => en = .returned (.int .i64 (Tm.deep s.data.toList)) ∧ Below w.heap.size w w' := by
 by_cases hs : s.size ≤ 16384
 · have HS := hid hs
   clear hs
   go_enter Tryz.func56, Tryz.ntmps56
   go_wp2_with fail
   refine (whole_any (RS_new w s false HS.out) (fun e => by cases e)).mono ?_
   rintro e w1 ⟨rfl, hb, _⟩
   have HB := hid hb
   clear hb
   go_wp2_with fail
   go_ret
   exact ⟨rfl, HB.out.below⟩
 · have HS := hid hs
   clear hs
   go_enter Tryz.func56, Tryz.ntmps56
   go_wp2_with fail
   refine (whole_big (s := s) (by simp) (by have := HS.out; omega)).mono ?_
   rintro e w1 ⟨rfl, rfl⟩
   go_wp2_with fail
   go_ret
   refine ⟨?_, (Below.refl _ w).alloc (Nat.le_refl _) _⟩
   have : Tm.deep s.data.toList = 0 := by unfold Tm.deep; rw [if_neg (by rw [← Lib.size_eq]; exact HS.out)]
   rw [this]
   rfl
set_option maxHeartbeats 1000000 in
theorem right_any (s : ByteArray) (w : World) :
   Calls Tryz.prog 28 #[.string s] w fun en w' => en = .returned (.bool (Tm.deep s.data.toList != 0)) ∧ Below w.heap.size w w' := by
 go_enter Tryz.func28, Tryz.ntmps28
 go_wp2_with fail
 refine (deep_any s _).mono ?_
 rintro e w1 ⟨rfl, hb⟩
 have HB := hid hb
 clear hb
 go_wp2_with fail
 go_ret
 refine ⟨?_, HB.out⟩
 have e : decide (0 < Tm.deep s.data.toList) = (Tm.deep s.data.toList != 0) := by rw [Bool.eq_iff_iff]; simp; omega
 simp [e]
theorem RS_at (w : World) (b : Nat) (hb : b = w.heap.size) (s : ByteArray) (kp : Bool) (hs : s.size ≤ 16384) :
   RS (w.alloc (.cells (rcells s 0 0 kp 0 0 ⟨#[]⟩ (.slice none 0 0)) 95)) b b s 0 kp 0 0 ⟨#[]⟩ [] (w.alloc (.cells (rcells s 0 0 kp 0 0 ⟨#[]⟩ (.slice none 0 0)) 95)) := by
 subst hb; exact RS_new w s kp hs
theorem ownsRow_base {w : World} {base base' : Nat} {e : TypeId} {size : Nat} {v : Value} {n : Nat} {xs : List Value} (h : w.ownsRow base e size v n xs) (hb : base' ≤ base) : w.ownsRow base' e size v n xs := by
 obtain ⟨h1, h2⟩ := h
 refine ⟨h1, ?_⟩
 rcases h2 with h2 | ⟨g, cap, cur, e1, e2, e3⟩
 · exact Or.inl h2
 · exact Or.inr ⟨g, cap, cur, e1, by omega, e3⟩
theorem Bad.fr {w0 : World} {B b : Nat} {s : ByteArray} {lv : Nat} {kp : Bool} {w : World} (h : Bad w0 B b s lv kp w) : Frx B b w0 w := by
 obtain ⟨a, n, tx, ks, h⟩ := h; exact h.fr
theorem heap_alloc_alloc (w : World) (o o' : Obj) : ((w.alloc o).alloc o').heap[w.heap.size]? = some o := by
 rw [Below.heap_alloc _ _ _ (by simp)]
 exact heap_alloc_new w o
set_option maxHeartbeats 1000000 in
theorem parts_any (s : ByteArray) (w : World) :
   Calls Tryz.prog 84 #[.string s] w fun en w' => Below w.heap.size w w' ∧
     (Tm.deep s.data.toList = 0 → en = .returned (.tuple #[.agg #[.int .u8 0, .int .i64 0, .string ⟨#[]⟩, .slice none 0 0], .bool false])) ∧
     (Tm.deep s.data.toList ≠ 0 → ∃ (c : UInt8) (l : Bs) (kids : Value), s.data.toList = c :: l ∧ en = .returned (.tuple #[.agg #[.int .u8 (c.toNat : Int), .int .i64 (setN s.data.toList 0), .string (setX s.data.toList ⟨#[]⟩), kids], .bool true]) ∧
       w'.ownsRow w.heap.size 22 1 kids (Tm.kidsOf 63 s.data.toList).length ((Tm.kidsOf 63 s.data.toList).map St)) := by
 by_cases hs : s.size ≤ 16384
 · have HS := hid hs
   clear hs
   go_enter Tryz.func84, Tryz.ntmps84
   go_wp2_with fail
   refine (whole_any (RS_at (w.alloc (.cells #[.int .u8 0, .int .i64 0, .string ⟨#[]⟩, .slice none 0 0] 82)) (w.heap.size + 1) (by simp) s true HS.out) (fun e => by omega)).mono ?_
   rintro e w1 ⟨rfl, hb, hR⟩
   have HB := hid hb
   have HR := hid hR
   have hres : w1.heap[w.heap.size]? = some (.cells #[.int .u8 0, .int .i64 0, .string ⟨#[]⟩, .slice none 0 0] 82 (0, 0)) := by
     rw [hb.fr.block w.heap.size (by omega) (by omega)]
     exact heap_alloc_alloc w _ _
   have hbel : Below w.heap.size w w1 := (((Below.refl _ w).alloc (Nat.le_refl _) _).alloc (by simp) _).trans ((hb.fr.below (Nat.le_refl _)).mono (by omega))
   have r0 : w1.cell? ⟨w.heap.size, 0, none⟩ = some (.int .u8 0) := by rw [cell_of_heap hres]; rfl
   have r1 : w1.cell? ⟨w.heap.size, 1, none⟩ = some (.int .i64 0) := by rw [cell_of_heap hres]; rfl
   have r2 : w1.cell? ⟨w.heap.size, 2, none⟩ = some (.string ⟨#[]⟩) := by rw [cell_of_heap hres]; rfl
   have r3 : w1.cell? ⟨w.heap.size, 3, none⟩ = some (.slice none 0 0) := by rw [cell_of_heap hres]; rfl
   have rf : ∀ o, w1.frozen? ⟨w.heap.size, o, none⟩ = false := fun o => frozen_of_heap hres o
   have HL := hid hbel
   clear hb hR hres hbel
   by_cases hd : Tm.deep s.data.toList = 0
   · have HD := hid hd
     clear hd
     rw [HD.out]
     go_wp2_with fail
     refine bodyPost_ret (v := .tuple #[.agg #[.int .u8 0, .int .i64 0, .string ⟨#[]⟩, .slice none 0 0], .bool false]) (by simp [results, Tryz.results84, go_sem, r0, r1, r2, r3]) rfl ⟨?_, fun _ => rfl, fun e => absurd HD.out e⟩
     exact (((HL.out.setCell (by simp) _).setCell (by simp) _).setCell (by simp) _).setCell (by simp) _
   · have HD := hid hd
     have hz : ((Tm.deep s.data.toList : Int) == 0) = false := by simpa using hd
     obtain ⟨kids, hk, ho⟩ := (HR.out hd).blk
     obtain ⟨ao, kn, kc, rfl⟩ : ∃ ao kn kc, kids = .slice ao kn kc := by
       rcases ho.2 with ⟨h, _⟩ | ⟨g, cap, _, h, _⟩
       · exact ⟨_, _, _, h⟩
       · exact ⟨_, _, _, h⟩
     have c4 : w1.cell? ⟨w.heap.size + 1, 4, none⟩ = some (.int .u8 0) := by rw [cell_of_heap hk]; rfl
     have c5 : w1.cell? ⟨w.heap.size + 1, 5, none⟩ = some (.int .i64 (setN s.data.toList 0)) := by rw [cell_of_heap hk]; rfl
     have c6 : w1.cell? ⟨w.heap.size + 1, 6, none⟩ = some (.string (setX s.data.toList ⟨#[]⟩)) := by rw [cell_of_heap hk]; rfl
     have c7 : w1.cell? ⟨w.heap.size + 1, 7, none⟩ = some (.slice ao kn kc) := by rw [cell_of_heap hk]; rfl
     have cf : ∀ o, w1.frozen? ⟨w.heap.size + 1, o, none⟩ = false := fun o => frozen_of_heap hk o
     have HK := hid hk
     have HO := hid ho
     obtain ⟨hsp, _⟩ : 0 < s.size ∧ True := by
       refine ⟨?_, trivial⟩
       have := (Tm.deep_is hd).1
       have := Tm.len_pos this
       rw [← Lib.size_eq] at this
       omega
     clear hd hk ho
     go_wp2_with fail
     refine bodyPost_ret (v := .tuple #[.agg #[.int .u8 (s[0].toNat : Int), .int .i64 (setN s.data.toList 0), .string (setX s.data.toList ⟨#[]⟩), .slice ao kn kc], .bool true]) (by simp [results, Tryz.results84, go_sem, r0, r1, r2, r3]) rfl ⟨?_, fun e => absurd e HD.out, fun _ => ⟨s[0], rest s 1, .slice ao kn kc, rest_cons hsp, rfl, ?_⟩⟩
     · exact ((((HL.out.setCell (by simp) _).setCell (by simp) _).setCell (by simp) _).setCell (by simp) _).setCell (by simp) _
     · refine ownsRow_base (base := w.heap.size + 1 + 1) ?_ (by omega)
       refine ownsRow_setCell_below (ownsRow_setCell_below (ownsRow_setCell_below (ownsRow_setCell_below (ownsRow_setCell_below HO.out ?_ _) ?_ _) ?_ _) ?_ _) ?_ _
       all_goals (dsimp only; omega)
 · have HS := hid hs
   clear hs
   have HD : Hid (Tm.deep s.data.toList = 0) := by apply hid; unfold Tm.deep; rw [if_neg (by rw [← Lib.size_eq]; exact HS.out)]
   go_enter Tryz.func84, Tryz.ntmps84
   go_wp2_with fail
   refine (whole_big (s := s) (by simp) (by have := HS.out; omega)).mono ?_
   rintro e w1 ⟨rfl, rfl⟩
   go_wp2_with fail
   refine bodyPost_ret (v := .tuple #[.agg #[.int .u8 0, .int .i64 0, .string ⟨#[]⟩, .slice none 0 0], .bool false]) (by simp [results, Tryz.results84, go_sem]) rfl ⟨?_, fun _ => rfl, fun e => absurd HD.out e⟩
   exact ((Below.refl _ w).alloc (Nat.le_refl _) _).alloc (by simp) _
end Go.Proofs.YtkifchjpgdmcoaaGreatDoor

/- What a text's copy does; a small number's digits. -/
namespace Go.Proofs.YtkifchjpgdmcoaaGreatDoor
open Go.RowKit
theorem Tryz.info5 : (Tryz.prog.info? 5).map (fun i => (i.zero, i.size, i.bytes)) = some (some (.int .u8 0), 1, 1) := by kernel_rfl
set_option maxHeartbeats 4000000 in
set_option maxRecDepth 100000 in
theorem slite_any (s : ByteArray) (w : World) (hlim : s.size ≤ 20000) :
   Calls Tryz.prog 81 #[.string s] w fun e w' => e = .returned (.string s) ∧ Below w.heap.size w w' := by
 by_cases h0 : s.size = 0
 · have hs : s = ⟨#[]⟩ := ByteArray.ext (Array.eq_empty_of_size_eq_zero h0)
   subst hs
   go_enter Tryz.func81, Tryz.ntmps81
   go_wp2
   go_ret
   exact ⟨rfl, Below.refl _ _⟩
 · obtain ⟨i0, hi, hz0, hz1, hz2⟩ := info_parts Tryz.info5
   have hinfo : (Tryz.prog.info? 5).map (·.size) = some 1 := by rw [hi]; simp [hz1]
   have hco : Tryz.prog.cellsOf 5 = 1 := by simp [Program.cellsOf, hi, hz1]
   obtain ⟨M, hM⟩ : ∃ M, M = madeCells (Value.int .u8 0).cells (((s.size : Nat) : Int).toNat * i0.size) := ⟨_, rfl⟩
   have hMs : M.size = s.size := by rw [hM, size_madeCells, hz1]; simp
   have hmk : ∀ W : World, (Instr.makeSlice 90 (.int .i64 (s.size : Int)) (.int .i64 (s.size : Int))).run Tryz.prog W = .ok (.slice (some ⟨W.heap.size, 0, none⟩) s.size s.size) (W.alloc (.cells M 5)) := fun W => by
     have h := run_make (P := Tryz.prog) W 90 5 i0 (.int .u8 0) Tryz.underlying90 hi hz0 .i64 .i64 (s.size : Int) (s.size : Int) (by omega) (by omega) (by rw [hz2]; omega) (by omega)
     rw [← hM] at h
     simpa using h
   clear hM
   have hcp := Lib.run_copy_row_string (P := Tryz.prog) (w.alloc (.cells M 5)) 90 9 3 5 w.heap.size 0 s.size s.size s M 5 Tryz.underlying90 hinfo (heap_alloc_new w _) (Nat.le_refl _) (by omega)
   obtain ⟨Y, hY⟩ : ∃ Y, Y = (M.toList.take 0 ++ Lib.byteCells s.data.toList ++ M.toList.drop (0 + s.size)).toArray := ⟨_, rfl⟩
   rw [← hY] at hcp
   have hYl : Y.toList = Lib.byteCells s.data.toList := by
     rw [hY, List.toList_toArray, List.take_zero, List.nil_append, List.drop_of_length_le (by rw [Array.length_toList]; omega), List.append_nil]
   have hYs : Y.size = s.size := by rw [← Array.length_toList, hYl, Lib.byteCells_length, ← Lib.size_eq]
   have hgY : ((w.alloc (.cells M 5)).setRow w.heap.size Y).heap[w.heap.size]? = some (.cells Y 5 (0, 0)) := setRow_heap _ _ M _ 5 (0, 0) (heap_alloc_new w _)
   have hne : s.data.toList ≠ [] := fun e => h0 (by rw [Lib.size_eq, e]; rfl)
   have hUS := Lib.run_unsafeString_row (P := Tryz.prog) ((w.alloc (.cells M 5)).setRow w.heap.size Y) 119 3 9 5 Tryz.underlying119 hco w.heap.size Y.size (by unfold World.shape?; rw [hgY]) s.data.toList hne (by rw [← Lib.size_eq]; omega) (by rw [← Lib.size_eq]; omega)
     (fun j x hx => Lib.cells_of_row hgY Y.size j _ (by rw [List.take_of_length_le (by rw [Array.length_toList]; exact Nat.le_refl _), hYl]; simp [Lib.byteCells, hx]))
   rw [← Lib.size_eq] at hUS
   clear hY
   go_enter Tryz.func81, Tryz.ntmps81
   go_wp2
   go_ret
   have hb1 : Below w.heap.size w (w.alloc (.cells M 5)) := (Below.refl _ w).alloc (Nat.le_refl _) _
   have hb2 : Below w.heap.size (w.alloc (.cells M 5)) ((w.alloc (.cells M 5)).setRow w.heap.size Y) := ⟨rfl, rfl, rfl, by simp, fun k hk => setRow_other _ _ _ _ (by omega)⟩
   exact ⟨rfl, Lib.below_freeze (hb1.trans hb2) (p := ⟨w.heap.size, 0, none⟩) (Nat.le_refl _) _⟩
set_option maxHeartbeats 400000 in
theorem clone_any (s : ByteArray) (w : World) (hlim : s.size ≤ 20000) :
   Calls Tryz.prog 57 #[.string s] w fun e w' => e = .returned (.string s) ∧ Below w.heap.size w w' := by
 go_enter Tryz.func57, Tryz.ntmps57
 go_wp2_with fail
 refine (slite_any s _ hlim).mono ?_
 rintro e w1 ⟨rfl, hb⟩
 have HB := hid hb
 clear hb
 go_wp2_with fail
 go_ret
 exact ⟨rfl, HB.out⟩
set_option maxHeartbeats 400000 in
theorem fresh_any (s : ByteArray) (w : World) (hlim : s.size ≤ 20000) :
   Calls Tryz.prog 85 #[.string s] w fun e w' => e = .returned (.string s) ∧ Below w.heap.size w w' := by
 go_enter Tryz.func85, Tryz.ntmps85
 go_wp2_with fail
 refine (clone_any s _ hlim).mono ?_
 rintro e w1 ⟨rfl, hb⟩
 have HB := hid hb
 clear hb
 go_wp2_with fail
 go_ret
 exact ⟨rfl, HB.out⟩
def dig1 (n : Nat) : Bs := [UInt8.ofNat (48 + n)]
end Go.Proofs.YtkifchjpgdmcoaaGreatDoor
