/- A shut box is opened. -/
import Derived.Test.YtfnnhekjeobicaaGreatDoorBoxes
namespace Go.Proofs.YtfnnhekjeobicaaGreatDoor
open Go.RowKit Go.Maps Go.WideElems

/-- what opening a box notes -/
def openF (s : NM × List Bs) (box : Bs) : NM × List Bs :=
  takeF 64 (nput s.1 box ⟨(nget s.1 box).heard, (nget s.1 box).held, []⟩, s.2) (unboxRes (nget s.1 box).key box).1

/-- a note is laid into a mind's notes -/
theorem store_md {w : World} {p b : Nat} {N : NM} {v : Value} {l : List Bs} (hM : Mn w p b N v l) {U : List Bs} (hD : Dom N U) (hUl : U.length < 100000000000) {t : Bs} (htl : t.length ≤ 100000) (nt : Note) :
    ∃ w4, (Instr.mapUpdate 48 (.map (some b)) (St t) nt.v).run Tryz.prog w = .ok () w4 ∧ Mn w4 p b (nput N t nt) v l ∧ w.grownBy w4 (some b) := by
  obtain ⟨w4, hup, hom4, hg4⟩ := hM.md.om.store U hD (by omega) t htl nt
  have hM4 : Md w4 p b (nput N t nt) := ⟨(hg4.block p hM.md.rm.lt (fun e => by cases e; exact hM.md.ne rfl)).trans hM.md.ptr, hom4⟩
  have hne := own_ne hM.md hM.row
  exact ⟨w4, hup, ⟨hM4, own_kept hM.row (fun i e => hg4.block i (own_lt hM.row e) (fun e2 => by cases e2; exact hne.2 e))⟩, hg4⟩
theorem Mn.below {w w' : World} {p b : Nat} {N : NM} {v : Value} {l : List Bs} (h : Mn w p b N v l) (hb : Below w.heap.size w w') : Mn w' p b N v l := ⟨h.md.below hb, own_below h.row hb⟩
theorem Mn.drew {w : World} {p b : Nat} {N : NM} {v : Value} {l : List Bs} (h : Mn w p b N v l) : Mn w.drew p b N v l := h.below (of_drew (Below.refl _ _))

set_option maxRecDepth 100000 in
set_option maxHeartbeats 4000000 in
theorem open_any {U : List Bs} (hU : Uni U) (w : World) (p b : Nat) (N : NM) (v : Value) (l : List Bs) (h : Mn w p b N v l) (hD : Dom N U) (box k m : Bs) (hb : box ∈ U) (h66 : box.head? = some 66) (hks : Tm.kidsOf 63 box = [k, m]) (hk : (nget N box).key = k) (hlen : l.length < 1000000000) :
    Calls Tryz.prog 57 #[.pointer (some ⟨p, 0, none⟩), St box, v] w fun e w' => ∃ v', e = .returned v' ∧ Mn w' p b (openF (N, l) box).1 v' (openF (N, l) box).2 ∧ Kp w w' b v v' := by
  have hd := hU.right box hb
  have hbl : box.length ≤ 100000 := by have := (Tm.deep_is hd).2; omega
  have hmU := hU.box box hb h66 k m hks
  have hml := (Tm.deep_is (hU.right m hmU)).2
  have hub : unboxRes k box = (m, true) := by unfold unboxRes; rw [if_pos ⟨hd, h66⟩, hks]; simp
  have HE : Hid (openF (N, l) box = takeF 64 (nput N box ⟨(nget N box).heard, (nget N box).held, []⟩, l) m) := by apply hid; unfold openF; rw [hk, hub]
  have HC := hid (fun W => unbox_any k box W)
  rw [hub] at HC
  obtain ⟨ao, kc, hv⟩ := own_shape h.row
  subst hv
  have HM := hid h
  have HD := hid hD
  have HUN := hid hU
  have HBU := hid hb
  have HMU := hid hmU
  have HBL := hid hbl
  have HLN := hid hlen
  have HML := hid hml
  have hcell := h.md.rm.cell
  have hlk := h.md.rm.one box hbl
  clear h hd hbl hmU hml hub hD hU hb h66 hks hlen
  generalize nget N box = nt at hlk hk HE
  obtain ⟨nh, nd, nk⟩ := nt
  simp only at hk HE
  subst hk
  generalize openF (N, l) box = res at HE ⊢
  have HB0 : Hid (Below w.heap.size w (w.alloc (.cells #[.bool nh, .bool nd, .string ⟨nk.toArray⟩] 51))) := hid ((Below.refl _ _).alloc (Nat.le_refl _) _)
  go_enter Tryz.func57, Tryz.ntmps57
  go_wp2_with fail
  refine (HC.out _).mono ?_
  rintro e w1 ⟨rfl, hb1⟩
  have HB1 := hid (two_below HB0.out hb1)
  have HG1 : Hid (w1.heap[w.heap.size]? = some (.cells #[.bool nh, .bool nd, .string ⟨nk.toArray⟩] 51 (0, 0))) := hid ((hb1.block _ (by simp)).trans (heap_alloc_new w _))
  have n2 := cell_of_heap HG1.out 2
  have nf := fun o => frozen_of_heap HG1.out o
  simp only [List.getElem?_toArray, List.getElem?_cons_zero, List.getElem?_cons_succ] at n2
  clear hb1 hcell hlk HC HB0
  go_wp2_with fail
  have HB2 : Hid (Below w.heap.size w (w1.setCell ⟨w.heap.size, 2, none⟩ (.string ⟨#[]⟩))) := hid (below_setCell HB1.out (Nat.le_refl _))
  have HG2 : Hid ((w1.setCell ⟨w.heap.size, 2, none⟩ (.string ⟨#[]⟩)).heap[w.heap.size]? = some (.cells #[.bool nh, .bool nd, .string ⟨#[]⟩] 51 (0, 0))) := by apply hid; rw [heap_setCell_same' HG1.out]; rfl
  clear HB1 HG1 n2 nf
  generalize w1.setCell ⟨w.heap.size, 2, none⟩ (.string ⟨#[]⟩) = W3 at HB2 HG2 ⊢
  obtain ⟨w4, hup, hmn4, hg4⟩ := store_md (HM.out.below HB2.out).drew HD.out (by have := HUN.out.len; omega) HBL.out ⟨nh, nd, []⟩
  have HM4 := hid hmn4
  have hc0 := cell_of_heap HG2.out 0
  have hc1 := cell_of_heap HG2.out 1
  have hc2 := cell_of_heap HG2.out 2
  have hcp := (HM.out.md.below HB2.out).rm.cell
  simp only [List.getElem?_toArray, List.getElem?_cons_zero, List.getElem?_cons_succ] at hc0 hc1 hc2
  have HS3 := hid (And.intro hcp (And.intro hc0 (And.intro hc1 hc2)))
  have HBN : Hid (b < w.heap.size) := hid HM.out.md.om.lt
  have HS4 : Hid (w4.cell? ⟨p, 0, none⟩ = some (.map (some b)) ∧ w4.cell? ⟨w.heap.size, 0, none⟩ = some (.bool nh) ∧ w4.cell? ⟨w.heap.size, 1, none⟩ = some (.bool nd) ∧ w4.cell? ⟨w.heap.size, 2, none⟩ = some (.string ⟨#[]⟩)) :=
    hid ⟨hg4.cell (a := ⟨p, 0, none⟩) hcp (fun e => by cases e; exact HM.out.md.ne rfl), hg4.cell (a := ⟨w.heap.size, 0, none⟩) hc0 (fun e => (show w.heap.size ≠ b from (by have := HBN.out; omega)) (by simpa using e)), hg4.cell (a := ⟨w.heap.size, 1, none⟩) hc1 (fun e => (show w.heap.size ≠ b from (by have := HBN.out; omega)) (by simpa using e)), hg4.cell (a := ⟨w.heap.size, 2, none⟩) hc2 (fun e => (show w.heap.size ≠ b from (by have := HBN.out; omega)) (by simpa using e))⟩
  have HK4 := hid (((Kp.of_below b (.slice ao l.length kc) HB2.out).below (of_drew (Below.refl _ _))).trans (Kp.map (.slice ao l.length kc) hg4))
  have hup' : (Instr.mapUpdate 48 (.map (some b)) (St box) (.agg #[.bool nh, .bool nd, .string ⟨#[]⟩])).run Tryz.prog W3.drew = .ok () w4 := hup
  have HTK : Hid (Calls Tryz.prog 32 #[.pointer (some ⟨p, 0, none⟩), St m, .slice ao l.length kc] w4 fun e w' => ∃ v', e = .returned v' ∧ Mn w' p b res.1 v' res.2 ∧ Kp w4 w' b (.slice ao l.length kc) v') := by
    apply hid
    rw [HE.out]
    exact take_all HUN.out 64 w4 p b _ _ l m hmn4 (HD.out.put HBU.out _) HMU.out (Tm.deep_le _) (by have := HLN.out; have := HML.out; omega)
  clear hup hmn4 hg4
  go_region_held3 (fun wx => wx.cell? ⟨p, 0, none⟩ = some (.map (some b)) ∧ wx.cell? ⟨w.heap.size, 0, none⟩ = some (.bool nh) ∧ wx.cell? ⟨w.heap.size, 1, none⟩ = some (.bool nd) ∧ wx.cell? ⟨w.heap.size, 2, none⟩ = some (.string ⟨#[]⟩)) (first | exact HS3.out | exact HS4.out) (fail)
  clear hup' HS3 HS4 hcp hc0 hc1 hc2
  go_wp2_with fail
  refine HTK.out.mono ?_
  rintro e w6 ⟨v6, rfl, hmn6, hkp6⟩
  obtain ⟨ao6, kc6, hv6⟩ := own_shape hmn6.row
  subst hv6
  have HM6 := hid hmn6
  have HK6 := hid hkp6
  clear hmn6 hkp6
  go_wp2_with fail
  go_ret
  exact ⟨_, rfl, HM6.out, HK4.out.trans HK6.out⟩
end Go.Proofs.YtfnnhekjeobicaaGreatDoor
