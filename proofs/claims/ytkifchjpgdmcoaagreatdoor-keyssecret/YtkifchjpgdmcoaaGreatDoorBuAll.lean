import Derived.Test.YtkifchjpgdmcoaaGreatDoorWhAll
import Derived.Lib.AppendStr
/- What build does: an op, a head and parts, put together or refused. -/
namespace Go.Proofs.YtkifchjpgdmcoaaGreatDoor
open Go.RowKit
def Texts (w : World) (kv : Value) (ks : List Bs) : Prop :=
 ∃ ao cap, kv = .slice ao ks.length cap ∧ (ks ≠ [] → ∃ g o, ao = some ⟨g, o, none⟩ ∧ g < w.heap.size ∧ ∀ i (h : i < ks.length), w.cell? ⟨g, o + i, none⟩ = some (St ks[i]))
def bDeep (ks : List Bs) : Nat := ks.foldl (fun d k => max d (Tm.deep k + 1)) 1
def bSize (ks : List Bs) : Nat := ks.foldl (fun d k => d + k.length) 0
def bRes (op : UInt8) (head : Bs) (ks : List Bs) : Bs × Nat :=
 if ks.any (fun k => Tm.deep k == 0) then ([], 10)
 else if 64 < bDeep ks ∨ 16384 < 1 + head.length + bSize ks then ([], 3)
 else (op :: (head ++ ks.flatten), 0)
theorem any_take {ks : List Bs} {i : Nat} (h : i < ks.length) (hz : Tm.deep ks[i] = 0) : ks.any (fun k => Tm.deep k == 0) = true := by
 rw [List.any_eq_true]
 exact ⟨ks[i], List.getElem_mem h, by simp [hz]⟩
theorem take_succ' (ks : List Bs) (i : Nat) (h : i < ks.length) : ks.take (i + 1) = ks.take i ++ [ks[i]] := by
 rw [List.take_succ_eq_append_getElem h]
theorem bDeep_snoc (ks : List Bs) (k : Bs) : bDeep (ks ++ [k]) = max (bDeep ks) (Tm.deep k + 1) := by simp [bDeep]
theorem bSize_snoc (ks : List Bs) (k : Bs) : bSize (ks ++ [k]) = bSize ks + k.length := by simp [bSize]
theorem bSize_flat (ks : List Bs) : bSize ks = ks.flatten.length := by
 have : ∀ (ks : List Bs) (d : Nat), ks.foldl (fun d k => d + k.length) d = d + ks.flatten.length := by
   intro ks
   induction ks with
   | nil => intro d; simp
   | cons k ks ih => intro d; simp [ih]; omega
 simpa [bSize] using this ks 0
theorem st_size (l : Bs) : (⟨l.toArray⟩ : ByteArray).size = l.length := by simp [ByteArray.size]
abbrev bcs (l : Bs) : List Value := Lib.byteCells l
theorem strCells_bcs (l : Bs) : Lib.strCells ⟨l.toArray⟩ = bcs l := by simp [Lib.strCells, Lib.byteCells]
theorem bcs_app (a b : Bs) : bcs a ++ bcs b = bcs (a ++ b) := by simp [Lib.byteCells]
theorem own_block_ge {w : World} {base : Nat} {e : TypeId} {size : Nat} {v : Value} {n : Nat} {xs : List Value} (h : w.ownsRow base e size v n xs) : ∀ k, v.ownBlock = some k → base ≤ k := fun k hk => (h.lt k hk).1
theorem bSize_take (ks : List Bs) (i : Nat) : bSize (ks.take i) ≤ bSize ks := by
 rw [bSize_flat, bSize_flat]
 have : ks.flatten = (ks.take i).flatten ++ (ks.drop i).flatten := by rw [← List.flatten_append, List.take_append_drop]
 rw [this]
 simp
theorem own_string {w : World} {base : Nat} {v : Value} {n : Nat} {l : Bs} (h : w.ownsRow base 5 1 v n (bcs l)) (hl : l ≠ []) :
   ∃ g cap, v = .slice (some ⟨g, 0, none⟩) l.length cap ∧ (∀ dst, Tryz.prog.underlying dst = some .string → (convert 90 dst (.slice (some ⟨g, 0, none⟩) l.length cap)).run Tryz.prog w = .ok (St l) w) := by
 have hn : n = l.length := by have := h.1; simp [Lib.byteCells] at this; omega
 subst hn
 rcases h.2 with ⟨_, h0⟩ | ⟨g, cap, cur, hv, _, hg, hc1, hc2, hc3, hc4⟩
 · exact absurd (List.eq_nil_of_length_eq_zero h0) hl
 · refine ⟨g, cap, hv, fun dst hd => ?_⟩
   refine run_convert_bytes_back (P := Tryz.prog) w 90 dst 5 ⟨g, 0, none⟩ cap l Tryz.underlying90 Tryz.underlying5 hd (fun j hj => ?_)
   have hcell : w.cell? ⟨g, j, none⟩ = cur[j]? := by simp [World.cell?, hg]
   have e1 : (cur.toList.take (l.length * 1))[j]? = (bcs l)[j]? := by rw [hc4]
   rw [Nat.mul_one, List.getElem?_take_of_lt hj] at e1
   have e2 : (bcs l)[j]? = some (.int .u8 (l[j].toNat : Int)) := by simp [Lib.byteCells, hj]
   rw [e2, Array.getElem?_toList] at e1
   have e3 : (⟨g, 0, none⟩ : Addr).add j = ⟨g, j, none⟩ := by simp [Addr.add]; intro h; omega
   rw [e3, hcell, e1]
theorem flat_snoc (a : List Bs) (x : Bs) : (a ++ [x]).flatten = a.flatten ++ x := by simp
theorem deep_list (l : Bs) (w : World) : Calls Tryz.prog 56 #[St l] w fun en w' => en = .returned (.int .i64 (Tm.deep l)) ∧ Below w.heap.size w w' := deep_any ⟨l.toArray⟩ w
theorem right_list (l : Bs) (w : World) : Calls Tryz.prog 28 #[St l] w fun en w' => en = .returned (.bool (Tm.deep l != 0)) ∧ Below w.heap.size w w' := right_any ⟨l.toArray⟩ w
set_option maxHeartbeats 4000000 in
theorem build_any (op : UInt8) (head : Bs) (ks : List Bs) (kv : Value) (w : World) (hkv : Texts w kv ks) (hh : head.length ≤ 8192) (hn : ks.length ≤ 40) :
   Calls Tryz.prog 46 #[.int .u8 (op.toNat : Int), St head, kv] w fun en w' =>
     en = .returned (.tuple #[St (bRes op head ks).1, .int .i64 ((bRes op head ks).2 : Int)]) ∧ Below w.heap.size w w' := by
 obtain ⟨ao, cap, rfl, hcell⟩ := hkv
 have HC := hid hcell
 clear hcell
 have hsh : (⟨head.toArray⟩ : ByteArray).size = head.length := st_size head
 go_enter Tryz.func46, Tryz.ntmps46
 go_wp2_with fail
 go_loopg [8, 9, 21] ks.length (fun g dv sv iv wr => ∃ i : Nat, i ≤ ks.length ∧ g = ks.length - i ∧ iv = .int .i64 i ∧ dv = .int .i64 (bDeep (ks.take i)) ∧ sv = .int .i64 ((1 + head.length + bSize (ks.take i) : Nat) : Int) ∧ bDeep (ks.take i) ≤ 65 ∧ bSize (ks.take i) ≤ 16384 * i ∧ (ks.take i).any (fun k => Tm.deep k == 0) = false ∧ Below w.heap.size w wr)
 case atStart =>
   refine ⟨0, Nat.zero_le _, rfl, rfl, rfl, ?_, by simp [bDeep], by simp [bSize], by simp, Below.refl _ _⟩
   simp [bSize]
 case round =>
   obtain ⟨i, hi, rfl, rfl, rfl, rfl, hd1, hs1, hany, hbl⟩ := hrel
   generalize hD : bDeep (ks.take i) = D at *
   generalize hS : bSize (ks.take i) = S at *
   have HD := hid hD
   have HS := hid hS
   have HA := hid hany
   have HL := hid hbl
   clear hD hS hany
   by_cases hlt : i < ks.length
   · obtain ⟨g, o, rfl, hg, hc⟩ := HC.out (by intro e; rw [e] at hlt; simp at hlt)
     have hci : wr.cell? ⟨g, o + i, none⟩ = some (St ks[i]) := by
       rw [hbl.cell (p := ⟨g, o + i, none⟩) hg]; exact hc i hlt
     clear hc hbl
     have hlt' : (i : Int) < (ks.length : Int) := by omega
     go_wp2_with fail
     refine (deep_list ks[i] _).mono ?_
     rintro e w1 ⟨rfl, hb⟩
     have HL1 := hid (HL.out.trans (hb.mono HL.out.size))
     clear hb
     have hle64 := Tm.deep_le ks[i]
     have hTS := take_succ' ks i hlt
     by_cases hz : Tm.deep ks[i] = 0
     · have HZ := hid hz
       have HR : Hid (bRes op head ks = ([], 10)) := by apply hid; unfold bRes; rw [if_pos (any_take hlt hz)]
       clear hTS
       rw [hz]
       clear hz
       go_wp2_with fail
       go_ret2
       exact ⟨by rw [HR.out]; rfl, HL1.out⟩
     · have hl16 := (Tm.deep_is hz).2
       have hsk : (⟨ks[i].toArray⟩ : ByteArray).size = ks[i].length := st_size ks[i]
       have HD2 : Hid (bDeep (ks.take (i + 1)) = max D (Tm.deep ks[i] + 1)) := by apply hid; rw [hTS, bDeep_snoc, HD.out]
       have HS2 : Hid (bSize (ks.take (i + 1)) = S + ks[i].length) := by apply hid; rw [hTS, bSize_snoc, HS.out]
       have HA2 : Hid ((ks.take (i + 1)).any (fun k => Tm.deep k == 0) = false) := by
         apply hid
         rw [hTS, List.any_append, HA.out]
         simp [hz]
       clear hTS
       generalize hdd : Tm.deep ks[i] = d at *
       generalize hll : ks[i].length = m at *
       have hz' : ((d : Int) == 0) = false := by simp; omega
       clear hdd hll hz
       by_cases hDd : D ≤ d
       · go_wp2_with fail
         go_roundg (ks.length - (i + 1))
         case measure => omega
         case rel =>
           refine ⟨i + 1, by omega, rfl, by simp, ?_, ?_, ?_, ?_, HA2.out, HL1.out⟩
           · rw [HD2.out, show max D (d + 1) = d + 1 by omega]; simp
           · rw [HS2.out]; simp; omega
           · rw [HD2.out]; omega
           · rw [HS2.out]; omega
       · go_wp2_with fail
         go_roundg (ks.length - (i + 1))
         case measure => omega
         case rel =>
           refine ⟨i + 1, by omega, rfl, by simp, ?_, ?_, ?_, ?_, HA2.out, HL1.out⟩
           · rw [HD2.out, show max D (d + 1) = D by omega]
           · rw [HS2.out]; simp; omega
           · rw [HD2.out]; omega
           · rw [HS2.out]; omega
   · have hik : i = ks.length := by omega
     subst hik
     have HTL : Hid (ks.take ks.length = ks) := by apply hid; simp
     have HANY : Hid (ks.any (fun k => Tm.deep k == 0) = false) := by have := HA.out; rw [HTL.out] at this; exact this
     have hDk : bDeep ks = D := by have := HD.out; rw [HTL.out] at this; exact this
     have hSk : bSize ks = S := by have := HS.out; rw [HTL.out] at this; exact this
     have HDK := hid hDk
     have HSK := hid hSk
     clear hDk hSk
     by_cases hbig : 64 < D ∨ 16384 < 1 + head.length + S
     · have HR : Hid (bRes op head ks = ([], 3)) := by
         apply hid; unfold bRes; rw [HANY.out, HDK.out, HSK.out, if_neg (by simp), if_pos hbig]
       rcases hbig with hbig | hbig
       · have h1' : (64 : Int) < (D : Int) := by omega
         go_wp2_with fail
         go_ret2
         exact ⟨by rw [HR.out]; rfl, HL.out⟩
       · by_cases h64 : 64 < D
         · have h1' : (64 : Int) < (D : Int) := by omega
           go_wp2_with fail
           go_ret2
           exact ⟨by rw [HR.out]; rfl, HL.out⟩
         · have h1' : ¬ (64 : Int) < (D : Int) := by omega
           have h2' : (16384 : Int) < 1 + (head.length : Int) + (S : Int) := by omega
           go_wp2_with fail
           go_ret2
           exact ⟨by rw [HR.out]; rfl, HL.out⟩
     · have h1' : ¬ (64 : Int) < (D : Int) := by omega
       have h2' : ¬ (16384 : Int) < 1 + (head.length : Int) + (S : Int) := by omega
       have HR : Hid (bRes op head ks = (op :: (head ++ ks.flatten), 0)) := by
         apply hid; unfold bRes; rw [HANY.out, HDK.out, HSK.out, if_neg (by simp), if_neg hbig]
       clear hbig
       obtain ⟨i0, hi0, hz0, hz1, hz2⟩ := info_parts Tryz.info5
       have HmC : Hid ((1 + (head.length : Int) + (S : Int)) = ((1 + head.length + S : Nat) : Int)) := by apply hid; omega
       have Hb2 : Hid (i0.bytes * (1 + head.length + S) ≤ 281474976710656) := by apply hid; rw [hz2]; omega
       have Hb3 : Hid (1 + head.length + S ≤ maxLen) := by apply hid; unfold maxLen; omega
       have hsz := HL.out.size
       have hci := HC.out
       have HCI := hid hci
       clear hci
       have ho1 : ∀ u ∈ [Value.int .u8 (op.toNat : Int)], u.oneCell' = true := by intro u hu; simp at hu; subst hu; rfl
       have Hm1 : Hid (0 + 1 ≤ maxLen) := by apply hid; unfold maxLen; omega
       have Hm2 : Hid (0 + 1 + (⟨head.toArray⟩ : ByteArray).size ≤ maxLen) := by apply hid; unfold maxLen; rw [st_size]; omega
       have Hm3 : Hid (0 + 1 + (⟨head.toArray⟩ : ByteArray).size ≤ 140737488355328) := by apply hid; rw [st_size]; omega
       go_wp2_with (first | (at_make; refine wpList_make_own _ rfl _ (.tmp 45) 90 rfl w.heap.size 5 i0 (.int .u8 0) 1 Tryz.underlying90 hi0 hz0 hz1 .i64 .i64 _ (1 + head.length + S) rfl rfl HmC.out Hb2.out Hb3.out hsz ?_; intro w2 hown2 hg2; have HO2 := hid hown2; have HG2 := hid hg2; have hs2 := hg2.size; clear hown2 hg2) | (at_builtin; refine wpList_append_own _ rfl (.tmp 47) (.tmp 49) 90 rfl w.heap.size 5 i0 (.int .u8 0) 1 1 Tryz.underlying90 hi0 hz0 hz1 hz2 rfl (by decide) _ 0 [] rfl (World.ownsRow.alloc HO2.out _) ⟨w2.heap.size, 0, none⟩ 1 1 [.int .u8 (op.toNat : Int)] rfl rfl (cell_one_new _ _ _) ho1 Hm1.out (by omega) (by simp; omega) ?_; intro v3 w3 hown3 hg3 _; have HO3 := hid hown3; have HG3 := hid hg3; have hs3 := hg3.size; simp at hs3; clear hown3 hg3) | (at_builtin; refine Lib.wpList_append_own_string _ rfl (.tmp 51) (.tmp 52) 90 9 rfl w.heap.size 5 i0 Tryz.underlying90 Tryz.underlying9 hi0 hz0 hz1 hz2 v3 (0 + 1) _ rfl HO3.out ⟨head.toArray⟩ rfl Hm2.out Hm3.out (by omega) ?_; intro v4 w4 hown4 hg4 _; have HO4 := hid hown4; have HG4 := hid hg4; have hs4 := hg4.size; clear hown4 hg4))
       have hb4 : Below w.heap.size w w4 := by
         have b2 := HL.out.grown HG2.out hsz (fun k h => by cases h)
         have b2' := b2.alloc (o := .cells #[.int .u8 (op.toNat : Int)] 5) b2.size
         have b3 := b2'.grown HG3.out b2'.size (own_block_ge (HO2.out))
         exact b3.grown HG4.out b3.size (own_block_ge HO3.out)
       have ho4 : w4.ownsRow w.heap.size 5 1 v4 (1 + head.length + bSize (ks.take 0)) (bcs (op :: (head ++ (ks.take 0).flatten))) := by
         have := HO4.out
         rw [strCells_bcs, st_size] at this
         have e : ([] ++ [Value.int .u8 (op.toNat : Int)]) ++ bcs head = bcs (op :: (head ++ (ks.take 0).flatten)) := by simp [Lib.byteCells]
         rw [e] at this
         simpa [bSize] using this
       have HB4 := hid hb4
       have HO4' := hid ho4
       clear hb4 ho4
       go_loopg [13, 56] ks.length (fun g ov iv wr => ∃ i : Nat, i ≤ ks.length ∧ g = ks.length - i ∧ iv = .int .i64 i ∧ wr.ownsRow w.heap.size 5 1 ov (1 + head.length + bSize (ks.take i)) (bcs (op :: (head ++ (ks.take i).flatten))) ∧ Below w.heap.size w wr)
       case atStart => exact ⟨0, Nat.zero_le _, rfl, rfl, HO4'.out, HB4.out⟩
       case round =>
         obtain ⟨j, hj, rfl, rfl, hown, hbl⟩ := hrel
         have HOW := hid hown
         have HBL := hid hbl
         have hszr := hbl.size
         by_cases hlt2 : j < ks.length
         · obtain ⟨g, o, rfl, hg, hc⟩ := HCI.out (by intro e; rw [e] at hlt2; simp at hlt2)
           have hcj : wr.cell? ⟨g, o + j, none⟩ = some (St ks[j]) := by
             rw [hbl.cell (p := ⟨g, o + j, none⟩) hg]; exact hc j hlt2
           have hlt' : (j : Int) < (ks.length : Int) := by omega
           have hle2 := bSize_take ks (j + 1)
           have hTS := take_succ' ks j hlt2
           rw [hTS, bSize_snoc, HSK.out] at hle2
           have HS2 : Hid (bSize (ks.take (j + 1)) = bSize (ks.take j) + ks[j].length) := by apply hid; rw [hTS, bSize_snoc]
           have HF2 : Hid ((ks.take (j + 1)).flatten = (ks.take j).flatten ++ ks[j]) := by apply hid; rw [hTS, flat_snoc]
           have Hn2 : Hid (1 + head.length + bSize (ks.take j) + (⟨ks[j].toArray⟩ : ByteArray).size ≤ maxLen) := by apply hid; unfold maxLen; rw [st_size]; omega
           have Hn3 : Hid (1 + head.length + bSize (ks.take j) + (⟨ks[j].toArray⟩ : ByteArray).size ≤ 140737488355328) := by apply hid; rw [st_size]; omega
           clear hc hbl hown hTS
           go_wp2_with (at_builtin; refine Lib.wpList_append_own_string _ rfl (.tmp 60) (.tmp 61) 90 22 rfl w.heap.size 5 i0 Tryz.underlying90 Tryz.underlying22 hi0 hz0 hz1 hz2 _ _ _ rfl HOW.out ⟨ks[j].toArray⟩ rfl Hn2.out Hn3.out hszr ?_; intro v5 w5 hown5 hg5 _; have HO5 := hid hown5; have HG5 := hid hg5; clear hown5 hg5)
           go_roundg (ks.length - (j + 1))
           case measure => omega
           case rel =>
             refine ⟨j + 1, by omega, rfl, by simp, ?_, HBL.out.grown HG5.out hszr (own_block_ge HOW.out)⟩
             have := HO5.out
             rw [strCells_bcs, st_size, bcs_app] at this
             rw [HS2.out, HF2.out]
             have e : op :: (head ++ (ks.take j).flatten) ++ ks[j] = op :: (head ++ ((ks.take j).flatten ++ ks[j])) := by simp
             rw [e] at this
             simpa [Nat.add_assoc] using this
         · have hjk : j = ks.length := by omega
           subst hjk
           obtain ⟨L, hL⟩ : ∃ L, L = op :: (head ++ ks.flatten) := ⟨_, rfl⟩
           rw [List.take_length, ← hL] at hown
           obtain ⟨g, cp, rfl, hcv⟩ := own_string hown (by rw [hL]; simp)
           have hcv1 := hcv 22 Tryz.underlying22
           have HR2 : Hid (bRes op head ks = (L, 0)) := by apply hid; rw [HR.out, hL]
           clear hown hbl hcv hL HR
           go_wp2_with fail
           go_ret2
           exact ⟨by rw [HR2.out]; rfl, HBL.out⟩
end Go.Proofs.YtkifchjpgdmcoaaGreatDoor

/- What the makers do: digests, children, joined and bound secrets, signatures, boxes. -/
namespace Go.Proofs.YtkifchjpgdmcoaaGreatDoor
open Go.RowKit
theorem texts_two (w : World) (a b : Bs) : Texts (w.alloc (.cells #[St a, St b] 22)) (.slice (some ⟨w.heap.size, 0, none⟩) 2 2) [a, b] :=
 ⟨_, _, rfl, fun _ => ⟨w.heap.size, 0, rfl, by simp, fun i h => by
   have hg : (w.alloc (.cells #[St a, St b] 22)).heap[w.heap.size]? = some (.cells #[St a, St b] 22 (0, 0)) := heap_alloc_new w _
   rw [cell_of_heap hg]
   match i, h with
   | 0, _ => rfl
   | 1, _ => rfl⟩⟩
theorem texts_nil (w : World) : Texts w (.slice none 0 0) [] := ⟨none, 0, rfl, fun h => absurd rfl h⟩
abbrev made (r : Bs × Nat) : Ending := .returned (.tuple #[St r.1, .int .i64 (r.2 : Int)])
set_option maxHeartbeats 400000 in
theorem child_any (a b : Bs) (w : World) : Calls Tryz.prog 75 #[St a, St b] w fun en w' => en = made (bRes 68 [] [a, b]) ∧ Below w.heap.size w w' := by
 go_enter Tryz.func75, Tryz.ntmps75
 go_wp2_with fail
 refine (build_any 68 [] [a, b] _ _ (texts_two w a b) (by simp) (by simp)).mono ?_
 rintro e w1 ⟨rfl, hb⟩
 have HB := hid (((Below.refl _ w).alloc (Nat.le_refl _) (.cells #[St a, St b] 22)).trans (hb.mono (by simp)))
 clear hb
 go_wp2_with fail
 go_ret2
 exact ⟨rfl, HB.out⟩
set_option maxHeartbeats 400000 in
theorem join_any (a b : Bs) (w : World) : Calls Tryz.prog 26 #[St a, St b] w fun en w' => en = made (bRes 86 [] [a, b]) ∧ Below w.heap.size w w' := by
 go_enter Tryz.func26, Tryz.ntmps26
 go_wp2_with fail
 refine (build_any 86 [] [a, b] _ _ (texts_two w a b) (by simp) (by simp)).mono ?_
 rintro e w1 ⟨rfl, hb⟩
 have HB := hid (((Below.refl _ w).alloc (Nat.le_refl _) (.cells #[St a, St b] 22)).trans (hb.mono (by simp)))
 clear hb
 go_wp2_with fail
 go_ret2
 exact ⟨rfl, HB.out⟩
set_option maxHeartbeats 400000 in
theorem bind_any (a b : Bs) (w : World) : Calls Tryz.prog 27 #[St a, St b] w fun en w' => en = made (bRes 75 [] [a, b]) ∧ Below w.heap.size w w' := by
 go_enter Tryz.func27, Tryz.ntmps27
 go_wp2_with fail
 refine (build_any 75 [] [a, b] _ _ (texts_two w a b) (by simp) (by simp)).mono ?_
 rintro e w1 ⟨rfl, hb⟩
 have HB := hid (((Below.refl _ w).alloc (Nat.le_refl _) (.cells #[St a, St b] 22)).trans (hb.mono (by simp)))
 clear hb
 go_wp2_with fail
 go_ret2
 exact ⟨rfl, HB.out⟩
theorem st_app (a b : Bs) : (⟨a.toArray⟩ : ByteArray) ++ ⟨b.toArray⟩ = ⟨(a ++ b).toArray⟩ := by
 apply ByteArray.ext; simp
end Go.Proofs.YtkifchjpgdmcoaaGreatDoor
