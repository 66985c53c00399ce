/- Held. -/
import Derived.Test.YtfnnhekjeobicaaGreatDoorSort
namespace Go.Proofs.YtfnnhekjeobicaaGreatDoor
open Go.RowKit Go.Maps Go.WideElems

def heldL (L : List (Bs × Note)) : List Bs := (L.filter (·.2.held)).map (·.1)
theorem heldL_snoc (L : List (Bs × Note)) (t : Bs) (m : Note) : heldL (L ++ [(t, m)]) = heldL L ++ (if m.held then [t] else []) := by
  unfold heldL; cases h : m.held <;> simp [h]
theorem heldL_le (L : List (Bs × Note)) : (heldL L).length ≤ L.length := by unfold heldL; simp; exact List.length_filter_le _ _
theorem Over.held {N : NM} {L : List (Bs × Note)} (h : Over N L) {t : Bs} (ht : (nget N t).held = true) : t ∈ heldL L := by
  unfold heldL
  cases hn : N t with
  | none => rw [nget, hn] at ht; cases ht
  | some m => exact List.mem_map.2 ⟨(t, m), List.mem_filter.2 ⟨(h.mem t m).2 hn, by rw [nget, hn] at ht; exact ht⟩, rfl⟩

set_option maxHeartbeats 400000 in
theorem held_nil (w : World) : Calls Tryz.prog 22 #[.pointer none] w fun e w' => e = .returned (.slice none 0 0) ∧ w' = w := by
  go_enter Tryz.func22, Tryz.ntmps22
  go_wp2
  go_ret
  exact ⟨rfl, rfl⟩
set_option maxHeartbeats 400000 in
theorem copy_nil (w : World) : Calls Tryz.prog 10 #[.pointer none] w fun e w' => e = .returned (.pointer none) ∧ w' = w := by
  go_enter Tryz.func10, Tryz.ntmps10
  go_wp2
  go_ret
  exact ⟨rfl, rfl⟩
set_option maxHeartbeats 400000 in
theorem knows_nil (w : World) (t : ByteArray) : Calls Tryz.prog 9 #[.pointer none, .string t] w fun e w' => e = .returned (.bool false) ∧ w' = w := by
  go_enter Tryz.func9, Tryz.ntmps9
  go_wp2
  go_ret
  exact ⟨rfl, rfl⟩
set_option maxHeartbeats 400000 in
theorem knows_any (w : World) (p : Nat) (o : Option Nat) (N : NM) (t : Bs) (h : Rm w p o N) (ht : t.length ≤ 100000) :
    Calls Tryz.prog 9 #[.pointer (some ⟨p, 0, none⟩), St t] w fun e w' => e = .returned (.bool (mkF N t)) ∧ Below w.heap.size w w' := by
  have HC := hid (makes_any w p o N t h ht)
  clear h ht
  go_enter Tryz.func9, Tryz.ntmps9
  go_wp2_with fail
  refine HC.out.mono ?_
  rintro e w1 ⟨rfl, hb⟩
  have HB := hid hb
  clear hb
  go_wp2_with fail
  go_ret
  exact ⟨rfl, HB.out⟩
set_option maxHeartbeats 400000 in
theorem new_any (w : World) : Calls Tryz.prog 21 #[] w fun e w' => e = .returned (.pointer (some ⟨w.heap.size, 0, none⟩)) ∧ w' = w.alloc (.cells #[.map none] 53) := by
  go_enter Tryz.func21, Tryz.ntmps21
  go_wp2
  go_ret
  exact ⟨rfl, rfl⟩

theorem two_below' {B : Nat} {w w1 w2 : World} (h : Below B w w1) (hb : Below w1.heap.size w1 w2) (hB : B ≤ w1.heap.size) : Below B w w2 :=
  ⟨hb.os.trans h.os, hb.tape.trans h.tape, hb.output.trans h.output, Nat.le_trans h.size hb.size, fun k hk => (hb.block k (Nat.lt_of_lt_of_le hk hB)).trans (h.block k hk)⟩
set_option maxHeartbeats 4000000 in
set_option maxRecDepth 100000 in
theorem held_any {U : List Bs} (hUni : Uni U) (w : World) (p b : Nat) (N : NM) (h : Md w p b N) (hU : Dom N U) (hne : ∃ t, (nget N t).held = true) :
    Calls Tryz.prog 22 #[.pointer (some ⟨p, 0, none⟩)] w fun e w' => ∃ v L, e = .returned v ∧ Over N L ∧ w'.ownsRow w.heap.size 29 1 v (sorted (heldL L)).length ((sorted (heldL L)).map St) ∧ Below w.heap.size w w' := by
  have hc := cell_of_heap h.ptr 0
  simp only [List.getElem?_toArray, List.getElem?_cons_zero] at hc
  obtain ⟨n, D, h1, h2, h3⟩ := h.om.own
  have HD2 := hid h2
  have HD3 := hid h3
  have HO := hid h1
  have HBL := hid h.om.lt
  have HU := hid hU
  have HUN := hid hUni
  have HNE := hid hne
  clear h h1 h2 h3 hU hUni hne
  obtain ⟨i0, hi, hz0, hz1, hz2⟩ := info_parts Tryz.info29
  go_enter Tryz.func22, Tryz.ntmps22
  go_wp2_with (first
    | (at_range; refine wpList_range_own _ rfl _ 48 rfl 29 51 law22 Tryz.underlying48 _ b n _ rfl HO.out ?_; intro w0 hrg0 hg0 hs0)
    | go_in)
  go_frame
  have HB0 : Hid (Below w.heap.size w w0) := hid ⟨hg0.os, hg0.tape, hg0.output, hg0.size, fun k hk => hg0.block k hk (by simp)⟩
  have HR0 := hid hrg0
  have HS0 := hid hs0
  clear hrg0 hg0 hs0
  go_loopw [3] (fun vs wr => ∃ L left cnt ao kc, wr.ranges Tryz.prog 29 noteR b w.heap.size n D left cnt ∧ Part N L left ∧ vs = .slice ao (heldL L).length kc ∧ wr.ownsRow (w.heap.size + 1) 29 1 (.slice ao (heldL L).length kc) (heldL L).length ((heldL L).map St) ∧ Below w.heap.size w wr ∧ w.heap.size + 1 ≤ wr.heap.size)
    (fun _ wr => wr.rangeLeft b w.heap.size)
  case atStart => exact ⟨[], _, _, none, 0, HR0.out, part_nil N D HD2.out, rfl, World.ownsRow_nil _ _ _ _, HB0.out, by rw [HS0.out]; exact Nat.le_refl _⟩
  case round =>
    clear HB0 HR0 HS0 HO
    obtain ⟨L, left, cnt, ao, kc, hrg, hpt, rfl, hown, hbel, hsz⟩ := hrel
    have HRG := hid hrg
    have HPT := hid hpt
    have HOW := hid hown
    have HBE := hid hbel
    have HSZ := hid hsz
    clear hrg hpt hown hbel hsz
    go_wp2_with (first
      | (at_next; refine next_notes _ rfl rfl _ rfl b w.heap.size n _ _ _ rfl HRG.out ?_ ?_)
      | go_in)
    · intro _ hl0
      have HOV := hid (HPT.out.all hl0)
      have HLL : Hid (0 < (heldL L).length) := by
        apply hid
        obtain ⟨t, ht⟩ := HNE.out
        exact List.length_pos_of_mem (HOV.out.held ht)
      have HLB : Hid ((heldL L).length < 1000000000000) := by
        apply hid
        have h1 := heldL_le L; have h2 := HPT.out.len HU.out; have h3 := HUN.out.len; omega
      have HSO := hid (sort_any _ _ _ _ HOW.out HLL.out HLB.out)
      clear hl0
      go_wp2_with fail
      refine HSO.out.mono ?_
      rintro e w2 ⟨rfl, hown2, hg2⟩
      have HO2 : Hid (w2.ownsRow w.heap.size 29 1 (.slice ao (heldL L).length kc) (sorted (heldL L)).length ((sorted (heldL L)).map St)) := hid ⟨hown2.1, hown2.2.imp id (fun ⟨g, cap, cur, e1, e2, e3⟩ => ⟨g, cap, cur, e1, by omega, e3⟩)⟩
      have HB2 : Hid (Below w.heap.size w w2) := hid ⟨hg2.os.trans HBE.out.os, hg2.tape.trans HBE.out.tape, hg2.output.trans HBE.out.output, Nat.le_trans HBE.out.size hg2.size, fun k hk => (hg2.block k (Nat.lt_of_lt_of_le hk HBE.out.size) (fun e => by have := (own_ge HOW.out e.symm).1; omega)).trans (HBE.out.block k hk)⟩
      clear hown2 hg2
      go_wp2_with fail
      go_ret
      exact ⟨_, L, rfl, HOV.out, HO2.out, HB2.out⟩
    · intro t m w1 cnt1 hl hat hrg1 hlt hg1 hs1 hen
      have HM : Hid (N t = some m) := by
        apply hid
        have h0 := HPT.out.left t
        rw [hl] at h0
        obtain ⟨m', hm'⟩ : ∃ m', N t = some m' := Option.isSome_iff_exists.1 (by cases hh : (N t).isSome with | true => rfl | false => rw [hh] at h0; cases h0)
        have h3 := HD3.out t
        rw [hat, nget, hm'] at h3
        rw [hm', Note.d_inj h3]; rfl
      have HPT1 := hid (HPT.out.step hl HM.out)
      have HLN := hid (HPT1.out.len HU.out)
      have HRG1 := hid hrg1
      have HLT := hid hlt
      have HB1 : Hid (Below w.heap.size w w1) := hid ⟨hg1.os.trans HBE.out.os, hg1.tape.trans HBE.out.tape, hg1.output.trans HBE.out.output, by rw [hs1]; exact HBE.out.size, fun k hk => (hg1.block k (Nat.lt_of_lt_of_le hk HBE.out.size) (fun e => by cases e; omega)).trans (HBE.out.block k hk)⟩
      have HOW1 : Hid (w1.ownsRow (w.heap.size + 1) 29 1 (.slice ao (heldL L).length kc) (heldL L).length ((heldL L).map St)) := by
        apply hid
        refine HOW.out.kept hg1 ?_
        cases e : (Value.slice ao (heldL L).length kc).ownBlock with
        | none => exact Or.inl rfl
        | some g => exact Or.inr (fun e2 => by cases e2; have := (own_ge HOW.out e).1; omega)
      have HS1 := hid hs1
      have HTL : Hid ((⟨t.toArray⟩ : ByteArray).size ≤ 20000) := by
        apply hid
        have := (Tm.deep_is (HUN.out.right t (HU.out t (by rw [HM.out]; rfl)))).2
        show t.toArray.size ≤ 20000
        simp; omega
      clear hl hat hrg1 hlt hg1 hs1
      have HSN := hid (heldL_snoc L t m)
      have HSB : Hid ((heldL L).length < 1000000000000) := by apply hid; have h1 := heldL_le L; have h2 := HLN.out; have h3 := HUN.out.len; simp at h2; omega
      obtain ⟨mh, md, mk⟩ := m
      have HOA := hid (HOW1.out.alloc (.cells #[.bool mh, .bool md, .string ⟨mk.toArray⟩] 51))
      have HZA : Hid ((w1.alloc (.cells #[.bool mh, .bool md, .string ⟨mk.toArray⟩] 51)).heap.size = w1.heap.size + 1) := by apply hid; simp
      have HBA : Hid (Below w.heap.size w (w1.alloc (.cells #[.bool mh, .bool md, .string ⟨mk.toArray⟩] 51))) := hid (HB1.out.alloc HB1.out.size _)
      have HRA := hid (HRG1.out.alloc (.cells #[.bool mh, .bool md, .string ⟨mk.toArray⟩] 51))
      cases md
      · go_wp2_with go_in
        go_roundw
        case rel => exact ⟨_, _, cnt1, ao, kc, HRA.out, HPT1.out, by rw [HSN.out]; simp, by rw [HSN.out]; simpa using HOA.out, HBA.out, by rw [HZA.out, HS1.out]; have := HSZ.out; omega⟩
        case measure => rw [HRA.out.left_eq, HRG.out.left_eq]; exact HLT.out
      · go_wp2_with fail
        refine (dfresh_any _ _ HTL.out).mono ?_
        rintro e wf ⟨rfl, hbf⟩
        have hgf : (w1.alloc (.cells #[.bool mh, .bool true, .string ⟨mk.toArray⟩] 51)).grownBy wf none := ⟨hbf.os, hbf.tape, hbf.output, hbf.size, fun k hk _ => hbf.block k hk⟩
        have HOF := hid (HOA.out.kept hgf (by cases ao with | none => exact Or.inl rfl | some a => exact Or.inr (by simp [Value.ownBlock])))
        have HRF := hid (HRA.out.kept hgf (by simp) (by simp))
        have HBF := hid (two_below' HBA.out hbf HBA.out.size)
        have HZF : Hid (w.heap.size + 1 ≤ wf.heap.size) := by apply hid; have h1 := hbf.size; rw [HZA.out, HS1.out] at h1; have := HSZ.out; omega
        clear hbf hgf
        obtain ⟨ao2, kc2, w2, hrun, hown2, hg2⟩ := append_text wf (w.heap.size + 1) (.slice ao (heldL L).length kc) (heldL L) t HOF.out HSB.out HZF.out
        have HRUN := hid hrun
        have HO2 := hid hown2
        have HNB : Hid (∀ g, g ≤ w.heap.size → some g ≠ (Value.slice ao (heldL L).length kc).ownBlock) := hid (fun g hg e => by have := (own_ge HOW.out e.symm).1; omega)
        have HR2 : Hid (w2.ranges Tryz.prog 29 noteR b w.heap.size n D (fun z => left z && !z.sameKey (.string t)) cnt1) := hid (HRF.out.kept hg2 (HNB.out b (by have := HBL.out; omega)) (HNB.out _ (Nat.le_refl _)))
        have HB2 : Hid (Below w.heap.size w w2) := hid ⟨hg2.os.trans HBF.out.os, hg2.tape.trans HBF.out.tape, hg2.output.trans HBF.out.output, Nat.le_trans HBF.out.size hg2.size, fun k hk => (hg2.block k (Nat.lt_of_lt_of_le hk HBF.out.size) (HNB.out k (by omega))).trans (HBF.out.block k hk)⟩
        have HZ2 : Hid (w.heap.size + 1 ≤ w2.heap.size) := by apply hid; have h1 := hg2.size; have := HZF.out; omega
        clear hrun hown2 hg2
        go_wp2_with (first | (at_builtin; refine wpList_append_run rfl (.tmp 20) (.tmp 23) 22 rfl (.slice ao (heldL L).length kc) (.slice (some ⟨wf.heap.size, 0, none⟩) 1 1) (.slice ao2 ((heldL L).length + 1) kc2) w2 rfl rfl HRUN.out ?_) | fail)
        go_roundw
        case rel => exact ⟨_, _, cnt1, ao2, kc2, HR2.out, HPT1.out, by rw [HSN.out]; simp, by rw [HSN.out]; simpa using HO2.out, HB2.out, HZ2.out⟩
        case measure => rw [HR2.out.left_eq, HRG.out.left_eq]; exact HLT.out
end Go.Proofs.YtfnnhekjeobicaaGreatDoor
