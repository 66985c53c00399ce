import Derived.Test.YtkifchjpgdmcoaaGreatDoorTakeAll
import Derived.Test.YtkifchjpgdmcoaaGreatDoorAskAll
import Derived.Test.YtkifchjpgdmcoaaGreatDoorWhAll
import Derived.Shelf.Strings.Search3
/- Which of the news are shut boxes. -/
namespace Go.Proofs.YtkifchjpgdmcoaaGreatDoor
open Go.RowKit Go.Maps Go.WideElems
def boxesF (N : NM) (l : List Bs) : List Bs := l.filter (fun t => (nget N t).key != [])
theorem boxesF_snoc (N : NM) (l : List Bs) (t : Bs) : boxesF N (l ++ [t]) = boxesF N l ++ (if (nget N t).key = [] then [] else [t]) := by
 unfold boxesF; by_cases h : (nget N t).key = [] <;> simp [h]
theorem boxesF_le (N : NM) (l : List Bs) : (boxesF N l).length ≤ l.length := List.length_filter_le _ _
set_option maxRecDepth 100000 in
set_option maxHeartbeats 4000000 in
theorem boxes_any (w : World) (p b : Nat) (N : NM) (v : Value) (l : List Bs) (h : Mn w p b N v l) (hl : l.length < 100000000000) (hs : ∀ t ∈ l, t.length ≤ 100000) :
   Calls Tryz.prog 58 #[.pointer (some ⟨p, 0, none⟩), v] w fun e w' => ∃ ao kc, e = .returned (.slice ao (boxesF N l).length kc) ∧ w'.ownsRow w.heap.size 22 1 (.slice ao (boxesF N l).length kc) (boxesF N l).length ((boxesF N l).map St) ∧ Below w.heap.size w w' := by
 obtain ⟨ao, kc, hv⟩ := own_shape h.row
 subst hv
 have HM := hid h
 have HLL := hid hl
 have HSL := hid hs
 clear h hs
 obtain ⟨m, hm⟩ : ∃ m, m = l.length := ⟨_, rfl⟩
 have HML := hid hm
 rw [← hm] at hl ⊢
 clear hm
 go_enter Tryz.func58, Tryz.ntmps58
 go_wp2_with fail
 go_loopg [5, 10] m (fun gg vl vi wr => ∃ (i : Nat) (ao' : Option Addr) (kc' : Nat), i ≤ m ∧ gg = m - i ∧ vi = .int .i64 (i : Int) ∧ vl = .slice ao' (boxesF N (l.take i)).length kc' ∧ wr.ownsRow w.heap.size 22 1 (.slice ao' (boxesF N (l.take i)).length kc') (boxesF N (l.take i)).length ((boxesF N (l.take i)).map St) ∧ Below w.heap.size w wr)
 case atStart => exact ⟨0, none, 0, by omega, by omega, rfl, rfl, World.ownsRow_nil _ _ _ _, Below.refl _ _⟩
 case round =>
   obtain ⟨i, ao1, kc1, hi, rfl, rfl, rfl, hown, hbel⟩ := hrel
   have HOW := hid hown
   have HBE := hid hbel
   clear hown hbel
   by_cases hil : i < m
   · have hik : i < l.length := by rw [← HML.out]; exact hil
     have hrow := HM.out.row
     obtain ⟨g, kc', hv, hg1, hg2, hcs⟩ := row_cells hrow (by omega)
     rw [← HML.out] at hv
     cases hv
     have hcell := (HBE.out.cell (p := ⟨g, i, none⟩) hg2).trans (hcs i hik)
     have HTS : Hid (l.take (i + 1) = l.take i ++ [l[i]]) := hid (List.take_succ_eq_append_getElem hik)
     have HBX := hid (boxesF_snoc N (l.take i) l[i])
     have hkl := HSL.out l[i] (List.getElem_mem hik)
     have HMW := hid (HM.out.md.below HBE.out)
     have HBL : Hid ((boxesF N (l.take i)).length < 100000000000) := by apply hid; have h1 := boxesF_le N (l.take i); have h2 := HLL.out; simp at h1; omega
     generalize l[i] = t at hcell HTS HBX hkl
     have hmp := HMW.out.rm.cell
     have hlk := HMW.out.rm.one t hkl
     generalize nget N t = nt at hlk HBX
     clear hrow hcs hkl
     obtain ⟨nh, nd, nk⟩ := nt
     simp only at HBX
     have hfd : ∀ W, Sem.run Tryz.prog (Instr.field 63 (.agg #[.bool nh, .bool nd, .string ⟨nk.toArray⟩]) 2) W = .ok (.string ⟨nk.toArray⟩) W := fun _ => rfl
     by_cases hk : nk = []
     · subst hk
       go_wp2_with go_in
       go_roundg (m - (i + 1))
       case measure => omega
       case rel =>
         refine ⟨i + 1, ao1, kc1, by omega, rfl, by go_num, ?_, ?_, HBE.out⟩
         · rw [HTS.out, HBX.out]; simp
         · rw [HTS.out, HBX.out]; simpa using HOW.out
     · have hne : (nk == []) = false := by simpa using hk
       have hne2 : nk.isEmpty = false := by simpa using hk
       have HKN := hid hk
       obtain ⟨ao2, kc2, w2, hrun, hown2, hg2'⟩ := append_text wr w.heap.size (.slice ao1 (boxesF N (l.take i)).length kc1) (boxesF N (l.take i)) t HOW.out (by have := HBL.out; omega) HBE.out.size
       have HRUN := hid hrun
       have HO2 := hid hown2
       have HB2 : Hid (Below w.heap.size w w2) := hid ⟨hg2'.os.trans HBE.out.os, hg2'.tape.trans HBE.out.tape, hg2'.output.trans HBE.out.output, Nat.le_trans HBE.out.size hg2'.size, fun k hk => (hg2'.block k (Nat.lt_of_lt_of_le hk HBE.out.size) (fun e => by have := (own_ge HOW.out e.symm).1; omega)).trans (HBE.out.block k hk)⟩
       clear hrun hown2 hg2' hk
       go_wp2_with (first | (at_builtin; refine wpList_append_run rfl (.tmp 22) (.tmp 24) 39 rfl (.slice ao1 (boxesF N (l.take i)).length kc1) (.slice (some ⟨wr.heap.size, 0, none⟩) 1 1) (.slice ao2 ((boxesF N (l.take i)).length + 1) kc2) w2 rfl rfl HRUN.out ?_) | go_in)
       go_roundg (m - (i + 1))
       case measure => omega
       case rel =>
         refine ⟨i + 1, ao2, kc2, by omega, rfl, by go_num, ?_, ?_, HB2.out⟩
         · rw [HTS.out, HBX.out, if_neg HKN.out, List.length_append]; rfl
         · rw [HTS.out, HBX.out, if_neg HKN.out, List.length_append]; simpa using HO2.out
   · obtain rfl : i = m := by omega
     go_wp2_with fail
     go_ret
     have e : l.take i = l := List.take_of_length_le (by rw [← HML.out]; exact Nat.le_refl _)
     have ho := HOW.out
     rw [e] at ho ⊢
     exact ⟨_, _, rfl, ho, HBE.out⟩
end Go.Proofs.YtkifchjpgdmcoaaGreatDoor

/- What opens a box. -/
namespace Go.Proofs.YtkifchjpgdmcoaaGreatDoor
open Go.RowKit
set_option maxHeartbeats 1000000 in
theorem unbox_any (k c : Bs) (w : World) : Calls Tryz.prog 83 #[St k, St c] w fun en w' => en = asked2 (unboxRes k c) ∧ Below w.heap.size w w' := by
 by_cases hd : Tm.deep c = 0
 · have HR : Hid (unboxRes k c = ([], false)) := by apply hid; unfold unboxRes; rw [if_neg (by simp [hd])]
   have HD := hid hd
   clear hd
   go_enter Tryz.func83, Tryz.ntmps83
   go_wp2_with fail
   refine (parts_list c _).mono ?_
   rintro e w1 ⟨hb, h1, _⟩
   obtain rfl := h1 HD.out
   have HB := hid (hb.alloc (o := .cells #[.int .u8 0, .int .i64 0, .string ⟨#[]⟩, .slice none 0 0] 82) hb.size)
   clear hb h1
   go_wp2_with fail
   go_ret2
   exact ⟨by rw [HR.out]; rfl, HB.out⟩
 · match c with
   | [] => exact absurd rfl hd
   | c0 :: l =>
     have HD := hid hd
     by_cases hc : c0 = 66
     · subst hc
       obtain ⟨p, q, a, b, hk, hpq, hp, hq, ha, hb64, _⟩ := kids_two hd (by decide)
       have hll := (Tm.deep_is hd).2
       simp [hpq] at hll
       have hlq : (⟨q.toArray⟩ : ByteArray).size ≤ 20000 := by rw [st_size]; omega
       have HLQ := hid hlq
       have HK := hid hk
       by_cases hpk : p = k
       · have HR : Hid (unboxRes k (66 :: l) = (q, true)) := by
           apply hid; unfold unboxRes; rw [if_pos ⟨hd, rfl⟩, hk]; simp [hpk]
         have hne : (p == k) = true := by simp [hpk]
         clear hd hk hlq hpk hpq hll
         go_enter Tryz.func83, Tryz.ntmps83
         go_wp2_with fail
         refine (parts_cons 66 l _ HD.out).mono ?_
         rintro e w1 ⟨hb, kids, rfl, hown⟩
         rw [HK.out] at hown
         obtain ⟨g, cap, rfl, g0, g1, gs⟩ := own_two hown
         have HB := hid hb
         clear hb hown
         have hxv : ∃ X : ByteArray, X = setX (66 :: l) ⟨#[]⟩ := ⟨_, rfl⟩
         have hnv : ∃ N : Int, N = setN (66 :: l) 0 := ⟨_, rfl⟩
         obtain ⟨X, hX⟩ := hxv
         obtain ⟨N, hN⟩ := hnv
         rw [← hX, ← hN]
         clear hX hN
         go_wp2_with fail
         refine (fresh_any ⟨q.toArray⟩ _ HLQ.out).mono ?_
         rintro e w2 ⟨rfl, hb⟩
         have HB2 := hid ((HB.out.alloc (o := .cells #[.int .u8 66, .int .i64 N, .string X, .slice (some ⟨g, 0, none⟩) 2 cap] 82) HB.out.size).trans (hb.mono (by have := HB.out.size; simp; omega)))
         clear hb
         go_wp2_with fail
         go_ret2
         exact ⟨by rw [HR.out]; rfl, HB2.out⟩
       · have HR : Hid (unboxRes k (66 :: l) = ([], false)) := by
           apply hid; unfold unboxRes; rw [if_pos ⟨hd, rfl⟩, hk]; simp [hpk]
         have hne : (p == k) = false := by simp [hpk]
         clear hd hk hlq hpk hpq hll
         go_enter Tryz.func83, Tryz.ntmps83
         go_wp2_with fail
         refine (parts_cons 66 l _ HD.out).mono ?_
         rintro e w1 ⟨hb, kids, rfl, hown⟩
         rw [HK.out] at hown
         obtain ⟨g, cap, rfl, g0, g1, gs⟩ := own_two hown
         have HB := hid hb
         clear hb hown
         have hxv : ∃ X : ByteArray, X = setX (66 :: l) ⟨#[]⟩ := ⟨_, rfl⟩
         have hnv : ∃ N : Int, N = setN (66 :: l) 0 := ⟨_, rfl⟩
         obtain ⟨X, hX⟩ := hxv
         obtain ⟨N, hN⟩ := hnv
         rw [← hX, ← hN]
         clear hX hN
         go_wp2_with fail
         go_ret2
         exact ⟨by rw [HR.out]; rfl, HB.out.alloc HB.out.size _⟩
     · have HR : Hid (unboxRes k (c0 :: l) = ([], false)) := by apply hid; unfold unboxRes; rw [if_neg (by simp [hc])]
       have hne : ((c0.toNat : Int) != 66) = true := by simp; intro h; exact hc (UInt8.toNat_inj.1 (by simp; omega))
       clear hd hc
       go_enter Tryz.func83, Tryz.ntmps83
       go_wp2_with fail
       refine (parts_cons c0 l _ HD.out).mono ?_
       rintro e w1 ⟨hb, kids, rfl, hown⟩
       obtain ⟨ao, kn, kc, rfl⟩ := own_slice hown
       have HB := hid hb
       clear hb hown
       have hxv : ∃ X : ByteArray, X = setX (c0 :: l) ⟨#[]⟩ := ⟨_, rfl⟩
       have hnv : ∃ N : Int, N = setN (c0 :: l) 0 := ⟨_, rfl⟩
       obtain ⟨X, hX⟩ := hxv
       obtain ⟨N, hN⟩ := hnv
       rw [← hX, ← hN]
       clear hX hN
       go_wp2_with fail
       go_ret2
       exact ⟨by rw [HR.out]; rfl, HB.out.alloc HB.out.size _⟩
set_option maxHeartbeats 400000 in
theorem dfresh_any (s : ByteArray) (w : World) (hlim : s.size ≤ 20000) :
   Calls Tryz.prog 30 #[.string s] w fun e w' => e = .returned (.string s) ∧ Below w.heap.size w w' := by
 go_enter Tryz.func30, Tryz.ntmps30
 go_wp2_with fail
 refine (clone_any s _ hlim).mono ?_
 rintro e w1 ⟨rfl, hb⟩
 have HB := hid hb
 clear hb
 go_wp2_with fail
 go_ret
 exact ⟨rfl, HB.out⟩
end Go.Proofs.YtkifchjpgdmcoaaGreatDoor

/- A shut box is opened. -/
namespace Go.Proofs.YtkifchjpgdmcoaaGreatDoor
open Go.RowKit Go.Maps Go.WideElems
def openF (s : NM × List Bs) (box : Bs) : NM × List Bs :=
 takeF 64 (nput s.1 box ⟨(nget s.1 box).heard, (nget s.1 box).held, []⟩, s.2) (unboxRes (nget s.1 box).key box).1
theorem store_md {w : World} {p b : Nat} {N : NM} {v : Value} {l : List Bs} (hM : Mn w p b N v l) {U : List Bs} (hD : Dom N U) (hUl : U.length < 100000000000) {t : Bs} (htl : t.length ≤ 100000) (nt : Note) :
   ∃ w4, (Instr.mapUpdate 59 (.map (some b)) (St t) nt.v).run Tryz.prog w = .ok () w4 ∧ Mn w4 p b (nput N t nt) v l ∧ w.grownBy w4 (some b) := by
 obtain ⟨w4, hup, hom4, hg4⟩ := hM.md.om.store U hD (by omega) t htl nt
 have hM4 : Md w4 p b (nput N t nt) := ⟨(hg4.block p hM.md.rm.lt (fun e => by cases e; exact hM.md.ne rfl)).trans hM.md.ptr, hom4⟩
 have hne := own_ne hM.md hM.row
 exact ⟨w4, hup, ⟨hM4, own_kept hM.row (fun i e => hg4.block i (own_lt hM.row e) (fun e2 => by cases e2; exact hne.2 e))⟩, hg4⟩
theorem Mn.below {w w' : World} {p b : Nat} {N : NM} {v : Value} {l : List Bs} (h : Mn w p b N v l) (hb : Below w.heap.size w w') : Mn w' p b N v l := ⟨h.md.below hb, own_below h.row hb⟩
theorem Mn.drew {w : World} {p b : Nat} {N : NM} {v : Value} {l : List Bs} (h : Mn w p b N v l) : Mn w.drew p b N v l := h.below (of_drew (Below.refl _ _))
set_option maxRecDepth 100000 in
set_option maxHeartbeats 4000000 in
theorem open_any {U : List Bs} (hU : Uni U) (w : World) (p b : Nat) (N : NM) (v : Value) (l : List Bs) (h : Mn w p b N v l) (hD : Dom N U) (box k m : Bs) (hb : box ∈ U) (h66 : box.head? = some 66) (hks : Tm.kidsOf 63 box = [k, m]) (hk : (nget N box).key = k) (hlen : l.length < 1000000000) :
   Calls Tryz.prog 60 #[.pointer (some ⟨p, 0, none⟩), St box, v] w fun e w' => ∃ v', e = .returned v' ∧ Mn w' p b (openF (N, l) box).1 v' (openF (N, l) box).2 ∧ Kp w w' b v v' := by
 have hd := hU.right box hb
 have hbl : box.length ≤ 100000 := by have := (Tm.deep_is hd).2; omega
 have hmU := hU.box box hb h66 k m hks
 have hml := (Tm.deep_is (hU.right m hmU)).2
 have hub : unboxRes k box = (m, true) := by unfold unboxRes; rw [if_pos ⟨hd, h66⟩, hks]; simp
 have HE : Hid (openF (N, l) box = takeF 64 (nput N box ⟨(nget N box).heard, (nget N box).held, []⟩, l) m) := by apply hid; unfold openF; rw [hk, hub]
 have HC := hid (fun W => unbox_any k box W)
 rw [hub] at HC
 obtain ⟨ao, kc, hv⟩ := own_shape h.row
 subst hv
 have HM := hid h
 have HD := hid hD
 have HUN := hid hU
 have HBU := hid hb
 have HMU := hid hmU
 have HBL := hid hbl
 have HLN := hid hlen
 have HML := hid hml
 have hcell := h.md.rm.cell
 have hlk := h.md.rm.one box hbl
 clear h hd hbl hmU hml hub hD hU hb h66 hks hlen
 generalize nget N box = nt at hlk hk HE
 obtain ⟨nh, nd, nk⟩ := nt
 simp only at hk HE
 subst hk
 generalize openF (N, l) box = res at HE ⊢
 have HB0 : Hid (Below w.heap.size w (w.alloc (.cells #[.bool nh, .bool nd, .string ⟨nk.toArray⟩] 63))) := hid ((Below.refl _ _).alloc (Nat.le_refl _) _)
 go_enter Tryz.func60, Tryz.ntmps60
 go_wp2_with fail
 refine (HC.out _).mono ?_
 rintro e w1 ⟨rfl, hb1⟩
 have HB1 := hid (two_below HB0.out hb1)
 have HG1 : Hid (w1.heap[w.heap.size]? = some (.cells #[.bool nh, .bool nd, .string ⟨nk.toArray⟩] 63 (0, 0))) := hid ((hb1.block _ (by simp)).trans (heap_alloc_new w _))
 have n2 := cell_of_heap HG1.out 2
 have nf := fun o => frozen_of_heap HG1.out o
 simp only [List.getElem?_toArray, List.getElem?_cons_zero, List.getElem?_cons_succ] at n2
 clear hb1 hcell hlk HC HB0
 go_wp2_with fail
 have HB2 : Hid (Below w.heap.size w (w1.setCell ⟨w.heap.size, 2, none⟩ (.string ⟨#[]⟩))) := hid (below_setCell HB1.out (Nat.le_refl _))
 have HG2 : Hid ((w1.setCell ⟨w.heap.size, 2, none⟩ (.string ⟨#[]⟩)).heap[w.heap.size]? = some (.cells #[.bool nh, .bool nd, .string ⟨#[]⟩] 63 (0, 0))) := by apply hid; rw [heap_setCell_same' HG1.out]; rfl
 clear HB1 HG1 n2 nf
 generalize w1.setCell ⟨w.heap.size, 2, none⟩ (.string ⟨#[]⟩) = W3 at HB2 HG2 ⊢
 obtain ⟨w4, hup, hmn4, hg4⟩ := store_md (HM.out.below HB2.out).drew HD.out (by have := HUN.out.len; omega) HBL.out ⟨nh, nd, []⟩
 have HM4 := hid hmn4
 have hc0 := cell_of_heap HG2.out 0
 have hc1 := cell_of_heap HG2.out 1
 have hc2 := cell_of_heap HG2.out 2
 have hcp := (HM.out.md.below HB2.out).rm.cell
 simp only [List.getElem?_toArray, List.getElem?_cons_zero, List.getElem?_cons_succ] at hc0 hc1 hc2
 have HS3 := hid (And.intro hcp (And.intro hc0 (And.intro hc1 hc2)))
 have HBN : Hid (b < w.heap.size) := hid HM.out.md.om.lt
 have HS4 : Hid (w4.cell? ⟨p, 0, none⟩ = some (.map (some b)) ∧ w4.cell? ⟨w.heap.size, 0, none⟩ = some (.bool nh) ∧ w4.cell? ⟨w.heap.size, 1, none⟩ = some (.bool nd) ∧ w4.cell? ⟨w.heap.size, 2, none⟩ = some (.string ⟨#[]⟩)) :=
   hid ⟨hg4.cell (a := ⟨p, 0, none⟩) hcp (fun e => by cases e; exact HM.out.md.ne rfl), hg4.cell (a := ⟨w.heap.size, 0, none⟩) hc0 (fun e => (show w.heap.size ≠ b from (by have := HBN.out; omega)) (by simpa using e)), hg4.cell (a := ⟨w.heap.size, 1, none⟩) hc1 (fun e => (show w.heap.size ≠ b from (by have := HBN.out; omega)) (by simpa using e)), hg4.cell (a := ⟨w.heap.size, 2, none⟩) hc2 (fun e => (show w.heap.size ≠ b from (by have := HBN.out; omega)) (by simpa using e))⟩
 have HK4 := hid (((Kp.of_below b (.slice ao l.length kc) HB2.out).below (of_drew (Below.refl _ _))).trans (Kp.map (.slice ao l.length kc) hg4))
 have hup' : (Instr.mapUpdate 59 (.map (some b)) (St box) (.agg #[.bool nh, .bool nd, .string ⟨#[]⟩])).run Tryz.prog W3.drew = .ok () w4 := hup
 have HTK : Hid (Calls Tryz.prog 32 #[.pointer (some ⟨p, 0, none⟩), St m, .slice ao l.length kc] w4 fun e w' => ∃ v', e = .returned v' ∧ Mn w' p b res.1 v' res.2 ∧ Kp w4 w' b (.slice ao l.length kc) v') := by
   apply hid
   rw [HE.out]
   exact take_all HUN.out 64 w4 p b _ _ l m hmn4 (HD.out.put HBU.out _) HMU.out (Tm.deep_le _) (by have := HLN.out; have := HML.out; omega)
 clear hup hmn4 hg4
 go_region_held3 (fun wx => wx.cell? ⟨p, 0, none⟩ = some (.map (some b)) ∧ wx.cell? ⟨w.heap.size, 0, none⟩ = some (.bool nh) ∧ wx.cell? ⟨w.heap.size, 1, none⟩ = some (.bool nd) ∧ wx.cell? ⟨w.heap.size, 2, none⟩ = some (.string ⟨#[]⟩)) (first | exact HS3.out | exact HS4.out) (fail)
 clear hup' HS3 HS4 hcp hc0 hc1 hc2
 go_wp2_with fail
 refine HTK.out.mono ?_
 rintro e w6 ⟨v6, rfl, hmn6, hkp6⟩
 obtain ⟨ao6, kc6, hv6⟩ := own_shape hmn6.row
 subst hv6
 have HM6 := hid hmn6
 have HK6 := hid hkp6
 clear hmn6 hkp6
 go_wp2_with fail
 go_ret
 exact ⟨_, rfl, HM6.out, HK4.out.trans HK6.out⟩
end Go.Proofs.YtkifchjpgdmcoaaGreatDoor

/- Whether a text stands in another one, by the library's contract (the shelf's, over this program's own functions). -/
namespace Go.Proofs.YtkifchjpgdmcoaaGreatDoor
open Go.RowKit
section
open Go.Shelf Go.Lib
def Tryz.lays144_ren : Go.Shelf.Ren := ⟨fun | 144 => 82 | 143 => 104 | 219 => 127 | 217 => 134 | 225 => 135 | 224 => 136 | 267 => 137 | 266 => 138 | 314 => 139 | n => n, fun | 9 => 9 | 4 => 4 | 3 => 3 | 5 => 5 | 46 => 133 | 146 => 143 | 51 => 130 | n => n, fun | 1 => 2 | n => n⟩
theorem Tryz.lays145 : Go.Proofs.Lays.n144 Tryz.prog Tryz.lays144_ren := {
 mixed := by kernel_rfl
 f143 := Tryz.func104.trans (congrArg some (by kernel_rfl))
 f144 := Tryz.func82.trans (congrArg some (by kernel_rfl))
 f217 := Tryz.func134.trans (congrArg some (by kernel_rfl))
 f219 := Tryz.func127.trans (congrArg some (by kernel_rfl))
 f224 := Tryz.func136.trans (congrArg some (by kernel_rfl))
 f225 := Tryz.func135.trans (congrArg some (by kernel_rfl))
 f266 := Tryz.func138.trans (congrArg some (by kernel_rfl))
 f267 := Tryz.func137.trans (congrArg some (by kernel_rfl))
 f314 := Tryz.func139.trans (congrArg some (by kernel_rfl))
 t3 := Tryz.underlying3
 a3 := Tryz.isAgg3
 z3 := Tryz.sizeOf3
 v3 := Tryz.zeroValue3
 t4 := Tryz.underlying4
 a4 := Tryz.isAgg4
 z4 := Tryz.sizeOf4
 v4 := Tryz.zeroValue4
 t5 := Tryz.underlying5
 a5 := Tryz.isAgg5
 z5 := Tryz.sizeOf5
 v5 := Tryz.zeroValue5
 t9 := Tryz.underlying9
 a9 := Tryz.isAgg9
 z9 := Tryz.sizeOf9
 v9 := Tryz.zeroValue9
 t46 := Tryz.underlying133
 a46 := Tryz.isAgg133
 z46 := Tryz.sizeOf133
 v46 := Tryz.zeroValue133
 t51 := Tryz.underlying130
 a51 := Tryz.isAgg130
 z51 := Tryz.sizeOf130
 v51 := Tryz.zeroValue130
 t146 := Tryz.underlying143
 a146 := Tryz.isAgg143
 z146 := Tryz.sizeOf143
 v146 := Tryz.zeroValue143
 g1 := by kernel_rfl }
open Go.RowKit Go.Lib in
theorem Tryz.strings_Contains (s sub : ByteArray) (m : Int) (w : World) (hs : s.size < 4294967281) (hm : w.cell? ⟨2, 0, none⟩ = some (.int .i64 m)) :
   Calls Tryz.prog 82 #[.string s, .string sub] w fun e w' => e = .returned (.bool (Lib.contains s.data.toList sub.data.toList)) ∧ w' = w := Go.Proofs.Any.strings_Contains Tryz.lays145 s sub m w hs hm
end
end Go.Proofs.YtkifchjpgdmcoaaGreatDoor

/- Whether a box concerns the news. -/
namespace Go.Proofs.YtkifchjpgdmcoaaGreatDoor
open Go.RowKit Go.Maps Go.WideElems
def bare (x : Bs) : Bs := if x.head? = some 80 then x.tail else x
def concernF (l : List Bs) (box : Bs) : Bool := decide (16 < l.length) || l.any (fun x => Lib.contains box (bare x))
set_option maxRecDepth 100000 in
set_option maxHeartbeats 4000000 in
theorem concern_any (w : World) (v : Value) (l : List Bs) (h : w.ownsRow 0 22 1 v l.length (l.map St)) (hl : l.length < 100000000000) (hne : ∀ x ∈ l, x ≠ []) (box : Bs) (hb : box.length ≤ 100000) (m : Int) (hm : w.cell? ⟨2, 0, none⟩ = some (.int .i64 m)) :
   Calls Tryz.prog 59 #[v, St box] w fun e w' => e = .returned (.bool (concernF l box)) ∧ w' = w := by
 obtain ⟨ao, kc, hv⟩ := own_shape h
 subst hv
 have HRW := hid h
 have HNE := hid hne
 have HCT := hid (fun (x : Bs) => Tryz.strings_Contains ⟨box.toArray⟩ ⟨x.toArray⟩ m w (by show box.length < _; omega) hm)
 clear h hne hm hb
 by_cases h16 : 16 < l.length
 · have HE : Hid (concernF l box = true) := by apply hid; simp [concernF, h16]
   have h16' : (16 : Int) < (l.length : Int) := by omega
   generalize l.length = n at hl h16' ⊢
   clear h16
   go_enter Tryz.func59, Tryz.ntmps59
   go_wp2_with fail
   go_ret
   exact ⟨by rw [HE.out]; rfl, rfl⟩
 · have HE : Hid (concernF l box = l.any (fun x => Lib.contains box (bare x))) := by apply hid; simp [concernF, h16]
   obtain ⟨n, hn⟩ : ∃ n, n = l.length := ⟨_, rfl⟩
   have HN := hid hn
   have hn16 : n ≤ 16 := by omega
   rw [← hn]
   clear hn h16 hl
   go_enter Tryz.func59, Tryz.ntmps59
   go_wp2_with fail
   go_loop [12] (fun vi => ∃ i : Nat, i ≤ n ∧ vi = .int .i64 (i : Int) ∧ ∀ j (hj : j < l.length), j < i → Lib.contains box (bare l[j]) = false) (fun vi => n - (intOf vi).toNat)
   case atStart => exact ⟨0, by omega, rfl, fun j hj h => by omega⟩
   case round =>
     obtain ⟨i, hi, rfl, hall⟩ := hrel
     have HAL := hid hall
     clear hall
     by_cases hil : i < n
     · have hik : i < l.length := by rw [← HN.out]; exact hil
       obtain ⟨g, kc', hv, hg1, hg2, hcs⟩ := row_cells HRW.out (by omega)
       rw [← HN.out] at hv
       cases hv
       have hcell := hcs i hik
       have hxn := HNE.out l[i] (List.getElem_mem hik)
       have HX : Hid (l[i] = l[i]) := hid rfl
       generalize hxi : l[i] = x at hcell hxn
       have HXI := hid hxi
       obtain ⟨c, xs, hx⟩ : ∃ c xs, x = c :: xs := by cases x with | nil => exact absurd rfl hxn | cons c xs => exact ⟨c, xs, rfl⟩
       have hpos : 0 < (⟨x.toArray⟩ : ByteArray).size := by rw [st_size, hx]; simp
       have hidx : (⟨x.toArray⟩ : ByteArray)[0] = c := st_idx hx hpos
       have hxl : 0 < x.length := by rw [hx]; simp
       clear hcs hxi hxn HX
       have HBR : Hid (bare x = if c = 80 then xs else x) := by apply hid; rw [hx]; unfold bare; simp
       have HCB := hid (HCT.out (bare x))
       have hT : (⟨x.toArray⟩ : ByteArray).extract 1 (⟨x.toArray⟩ : ByteArray).size = ⟨xs.toArray⟩ := by rw [hx]; exact st_tail c xs
       have hcell' : w.cell? ⟨g, 0 + i, none⟩ = some (.string ⟨x.toArray⟩) := by rw [Nat.zero_add]; exact hcell
       clear hx hcell'
       by_cases hc : c = 80
       · rw [HBR.out, if_pos hc] at HCB
         have hc' : ((c.toNat : Int) == 80) = true := by rw [hc]; rfl
         have HBX : Hid (bare x = xs) := by apply hid; rw [HBR.out, if_pos hc]
         clear hc HBR
         change Hid (Calls Tryz.prog 82 #[.string ⟨box.toArray⟩, .string ⟨xs.toArray⟩] w fun e w' => e = .returned (.bool (Lib.contains box xs)) ∧ w' = w) at HCB
         unfold St at hcell
         generalize (⟨x.toArray⟩ : ByteArray) = X at hcell hpos hidx hT
         cases hct : Lib.contains box xs
         · rw [hct] at HCB
           go_wp2_with (first | (go_at_call 82; refine HCB.out.mono ?_; rintro e w' ⟨rfl, rfl⟩) | fail)
           go_round
           case rel =>
             refine ⟨i + 1, by omega, by go_num, fun j hj hji => ?_⟩
             by_cases e : j = i
             · subst e; rw [HXI.out, HBX.out, hct]
             · exact HAL.out j hj (by omega)
           case measure => simp [intOf]; omega
         · rw [hct] at HCB
           go_wp2_with (first | (go_at_call 82; refine HCB.out.mono ?_; rintro e w' ⟨rfl, rfl⟩) | fail)
           go_ret
           have e1 : l.any (fun x => Lib.contains box (bare x)) = true := by
             rw [List.any_eq_true]; exact ⟨l[i], List.getElem_mem hik, by rw [HXI.out, HBX.out, hct]⟩
           exact ⟨by rw [HE.out, e1]; rfl, rfl⟩
       · rw [HBR.out, if_neg hc] at HCB
         have hc' : ((c.toNat : Int) == 80) = false := by
           rw [beq_eq_false_iff_ne]; intro e; exact hc (UInt8.toNat_inj.1 (by show c.toNat = 80; omega))
         have HBX : Hid (bare x = x) := by apply hid; rw [HBR.out, if_neg hc]
         clear hc HBR hT
         change Hid (Calls Tryz.prog 82 #[.string ⟨box.toArray⟩, .string ⟨x.toArray⟩] w fun e w' => e = .returned (.bool (Lib.contains box x)) ∧ w' = w) at HCB
         unfold St at hcell
         generalize (⟨x.toArray⟩ : ByteArray) = X at hcell hpos hidx HCB
         cases hct : Lib.contains box x
         · rw [hct] at HCB
           go_wp2_with (first | (go_at_call 82; refine HCB.out.mono ?_; rintro e w' ⟨rfl, rfl⟩) | fail)
           go_round
           case rel =>
             refine ⟨i + 1, by omega, by go_num, fun j hj hji => ?_⟩
             by_cases e : j = i
             · subst e; rw [HXI.out, HBX.out, hct]
             · exact HAL.out j hj (by omega)
           case measure => simp [intOf]; omega
         · rw [hct] at HCB
           go_wp2_with (first | (go_at_call 82; refine HCB.out.mono ?_; rintro e w' ⟨rfl, rfl⟩) | fail)
           go_ret
           have e1 : l.any (fun x => Lib.contains box (bare x)) = true := by
             rw [List.any_eq_true]; exact ⟨l[i], List.getElem_mem hik, by rw [HXI.out, HBX.out, hct]⟩
           exact ⟨by rw [HE.out, e1]; rfl, rfl⟩
     · go_wp2_with fail
       go_ret
       have e1 : l.any (fun x => Lib.contains box (bare x)) = false := by
         rw [List.any_eq_false]; intro k hk; obtain ⟨j, hj, rfl⟩ := List.getElem_of_mem hk; simp [HAL.out j hj (by have := HN.out; omega)]
       exact ⟨by rw [HE.out, e1]; rfl, rfl⟩
end Go.Proofs.YtkifchjpgdmcoaaGreatDoor
