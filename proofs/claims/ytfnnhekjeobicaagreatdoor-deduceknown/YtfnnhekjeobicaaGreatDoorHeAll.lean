import Derived.Test.YtfnnhekjeobicaaGreatDoorMi
import Derived.Shelf.SortM.SortNone
import Derived.Test.YtfnnhekjeobicaaGreatDoorR3Cll
import Derived.Sort.Walk0
import Derived.Test.YtfnnhekjeobicaaGreatDoorR3Bll
import Derived.Test.YtfnnhekjeobicaaGreatDoorKeys
/- Held, of any mind. -/
namespace Go.Proofs.YtfnnhekjeobicaaGreatDoor
open Go.RowKit Go.Maps Go.WideElems

theorem sort_zero (p : Option Addr) (cap : Nat) (w : World) : Calls Tryz.prog 49 #[.slice p 0 cap] w fun e w' => e = .returned (.tuple #[]) ∧ w' = w := AnyM.slices_Sort_string_none Tryz.laysSort p cap w
set_option maxHeartbeats 4000000 in
set_option maxRecDepth 100000 in
theorem held_all {U : List Bs} (hUni : Uni U) (w : World) (p b : Nat) (N : NM) (h : Md w p b N) (hU : Dom N U) :
    Calls Tryz.prog 22 #[.pointer (some ⟨p, 0, none⟩)] w fun e w' => ∃ v L, e = .returned v ∧ Over N L ∧ w'.ownsRow w.heap.size 29 1 v (sorted (heldL L)).length ((sorted (heldL L)).map St) ∧ Below w.heap.size w w' := by
  have hc := cell_of_heap h.ptr 0
  simp only [List.getElem?_toArray, List.getElem?_cons_zero] at hc
  obtain ⟨n, D, h1, h2, h3⟩ := h.om.own
  have HD2 := hid h2
  have HD3 := hid h3
  have HO := hid h1
  have HBL := hid h.om.lt
  have HU := hid hU
  have HUN := hid hUni
  clear h h1 h2 h3 hU hUni
  obtain ⟨i0, hi, hz0, hz1, hz2⟩ := info_parts Tryz.info29
  go_enter Tryz.func22, Tryz.ntmps22
  go_wp2_with (first
    | (at_range; refine wpList_range_own _ rfl _ 48 rfl 29 51 law22 Tryz.underlying48 _ b n _ rfl HO.out ?_; intro w0 hrg0 hg0 hs0)
    | go_in)
  go_frame
  have HB0 : Hid (Below w.heap.size w w0) := hid ⟨hg0.os, hg0.tape, hg0.output, hg0.size, fun k hk => hg0.block k hk (by simp)⟩
  have HR0 := hid hrg0
  have HS0 := hid hs0
  clear hrg0 hg0 hs0
  go_loopw [3] (fun vs wr => ∃ L left cnt ao kc, wr.ranges Tryz.prog 29 noteR b w.heap.size n D left cnt ∧ Part N L left ∧ vs = .slice ao (heldL L).length kc ∧ wr.ownsRow (w.heap.size + 1) 29 1 (.slice ao (heldL L).length kc) (heldL L).length ((heldL L).map St) ∧ Below w.heap.size w wr ∧ w.heap.size + 1 ≤ wr.heap.size)
    (fun _ wr => wr.rangeLeft b w.heap.size)
  case atStart => exact ⟨[], _, _, none, 0, HR0.out, part_nil N D HD2.out, rfl, World.ownsRow_nil _ _ _ _, HB0.out, by rw [HS0.out]; exact Nat.le_refl _⟩
  case round =>
    clear HB0 HR0 HS0 HO
    obtain ⟨L, left, cnt, ao, kc, hrg, hpt, rfl, hown, hbel, hsz⟩ := hrel
    have HRG := hid hrg
    have HPT := hid hpt
    have HOW := hid hown
    have HBE := hid hbel
    have HSZ := hid hsz
    clear hrg hpt hown hbel hsz
    go_wp2_with (first
      | (at_next; refine next_notes _ rfl rfl _ rfl b w.heap.size n _ _ _ rfl HRG.out ?_ ?_)
      | go_in)
    · intro _ hl0
      have HOV := hid (HPT.out.all hl0)
      have HLB : Hid ((heldL L).length < 1000000000000) := by
        apply hid
        have h1 := heldL_le L; have h2 := HPT.out.len HU.out; have h3 := HUN.out.len; omega
      clear hl0
      by_cases h0 : 0 < (heldL L).length
      · have HSO := hid (sort_any _ _ _ _ HOW.out h0 HLB.out)
        clear h0
        go_wp2_with fail
        refine HSO.out.mono ?_
        rintro e w2 ⟨rfl, hown2, hg2⟩
        have HO2 : Hid (w2.ownsRow w.heap.size 29 1 (.slice ao (heldL L).length kc) (sorted (heldL L)).length ((sorted (heldL L)).map St)) := hid ⟨hown2.1, hown2.2.imp id (fun ⟨g, cap, cur, e1, e2, e3⟩ => ⟨g, cap, cur, e1, by omega, e3⟩)⟩
        have HB2 : Hid (Below w.heap.size w w2) := hid ⟨hg2.os.trans HBE.out.os, hg2.tape.trans HBE.out.tape, hg2.output.trans HBE.out.output, Nat.le_trans HBE.out.size hg2.size, fun k hk => (hg2.block k (Nat.lt_of_lt_of_le hk HBE.out.size) (fun e => by have := (own_ge HOW.out e.symm).1; omega)).trans (HBE.out.block k hk)⟩
        clear hown2 hg2
        go_wp2_with fail
        go_ret
        exact ⟨_, L, rfl, HOV.out, HO2.out, HB2.out⟩
      · have e0 : heldL L = [] := List.length_eq_zero_iff.1 (by omega)
        have HE := hid e0
        have e1 : (heldL L).length = 0 := by rw [e0]; rfl
        have HO0 : Hid (wr.ownsRow w.heap.size 29 1 (.slice ao 0 kc) (sorted (heldL L)).length ((sorted (heldL L)).map St)) := hid (by
          have h := HOW.out
          rw [e0] at h ⊢
          have es : sorted ([] : List Bs) = [] := by unfold sorted; simp
          rw [es]
          exact ⟨h.1, h.2.imp id (fun ⟨g, cap, cur, e1, e2, e3⟩ => ⟨g, cap, cur, e1, by omega, e3⟩)⟩)
        rw [e1]
        clear h0 e0 e1 HE
        go_wp2_with fail
        refine (sort_zero ao kc _).mono ?_
        rintro e w2 ⟨rfl, hw2⟩
        obtain rfl := hw2.symm
        go_wp2_with fail
        go_ret
        exact ⟨_, L, rfl, HOV.out, HO0.out, HBE.out⟩
    · intro t m w1 cnt1 hl hat hrg1 hlt hg1 hs1 hen
      have HM : Hid (N t = some m) := by
        apply hid
        have h0 := HPT.out.left t
        rw [hl] at h0
        obtain ⟨m', hm'⟩ : ∃ m', N t = some m' := Option.isSome_iff_exists.1 (by cases hh : (N t).isSome with | true => rfl | false => rw [hh] at h0; cases h0)
        have h3 := HD3.out t
        rw [hat, nget, hm'] at h3
        rw [hm', Note.d_inj h3]; rfl
      have HPT1 := hid (HPT.out.step hl HM.out)
      have HLN := hid (HPT1.out.len HU.out)
      have HRG1 := hid hrg1
      have HLT := hid hlt
      have HB1 : Hid (Below w.heap.size w w1) := hid ⟨hg1.os.trans HBE.out.os, hg1.tape.trans HBE.out.tape, hg1.output.trans HBE.out.output, by rw [hs1]; exact HBE.out.size, fun k hk => (hg1.block k (Nat.lt_of_lt_of_le hk HBE.out.size) (fun e => by cases e; omega)).trans (HBE.out.block k hk)⟩
      have HOW1 : Hid (w1.ownsRow (w.heap.size + 1) 29 1 (.slice ao (heldL L).length kc) (heldL L).length ((heldL L).map St)) := by
        apply hid
        refine HOW.out.kept hg1 ?_
        cases e : (Value.slice ao (heldL L).length kc).ownBlock with
        | none => exact Or.inl rfl
        | some g => exact Or.inr (fun e2 => by cases e2; have := (own_ge HOW.out e).1; omega)
      have HS1 := hid hs1
      have HTL : Hid ((⟨t.toArray⟩ : ByteArray).size ≤ 20000) := by
        apply hid
        have := (Tm.deep_is (HUN.out.right t (HU.out t (by rw [HM.out]; rfl)))).2
        show t.toArray.size ≤ 20000
        simp; omega
      clear hl hat hrg1 hlt hg1 hs1
      have HSN := hid (heldL_snoc L t m)
      have HSB : Hid ((heldL L).length < 1000000000000) := by apply hid; have h1 := heldL_le L; have h2 := HLN.out; have h3 := HUN.out.len; simp at h2; omega
      obtain ⟨mh, md, mk⟩ := m
      have HOA := hid (HOW1.out.alloc (.cells #[.bool mh, .bool md, .string ⟨mk.toArray⟩] 51))
      have HZA : Hid ((w1.alloc (.cells #[.bool mh, .bool md, .string ⟨mk.toArray⟩] 51)).heap.size = w1.heap.size + 1) := by apply hid; simp
      have HBA : Hid (Below w.heap.size w (w1.alloc (.cells #[.bool mh, .bool md, .string ⟨mk.toArray⟩] 51))) := hid (HB1.out.alloc HB1.out.size _)
      have HRA := hid (HRG1.out.alloc (.cells #[.bool mh, .bool md, .string ⟨mk.toArray⟩] 51))
      cases md
      · go_wp2_with go_in
        go_roundw
        case rel => exact ⟨_, _, cnt1, ao, kc, HRA.out, HPT1.out, by rw [HSN.out]; simp, by rw [HSN.out]; simpa using HOA.out, HBA.out, by rw [HZA.out, HS1.out]; have := HSZ.out; omega⟩
        case measure => rw [HRA.out.left_eq, HRG.out.left_eq]; exact HLT.out
      · go_wp2_with fail
        refine (dfresh_any _ _ HTL.out).mono ?_
        rintro e wf ⟨rfl, hbf⟩
        have hgf : (w1.alloc (.cells #[.bool mh, .bool true, .string ⟨mk.toArray⟩] 51)).grownBy wf none := ⟨hbf.os, hbf.tape, hbf.output, hbf.size, fun k hk _ => hbf.block k hk⟩
        have HOF := hid (HOA.out.kept hgf (by cases ao with | none => exact Or.inl rfl | some a => exact Or.inr (by simp [Value.ownBlock])))
        have HRF := hid (HRA.out.kept hgf (by simp) (by simp))
        have HBF := hid (two_below' HBA.out hbf HBA.out.size)
        have HZF : Hid (w.heap.size + 1 ≤ wf.heap.size) := by apply hid; have h1 := hbf.size; rw [HZA.out, HS1.out] at h1; have := HSZ.out; omega
        clear hbf hgf
        obtain ⟨ao2, kc2, w2, hrun, hown2, hg2⟩ := append_text wf (w.heap.size + 1) (.slice ao (heldL L).length kc) (heldL L) t HOF.out HSB.out HZF.out
        have HRUN := hid hrun
        have HO2 := hid hown2
        have HNB : Hid (∀ g, g ≤ w.heap.size → some g ≠ (Value.slice ao (heldL L).length kc).ownBlock) := hid (fun g hg e => by have := (own_ge HOW.out e.symm).1; omega)
        have HR2 : Hid (w2.ranges Tryz.prog 29 noteR b w.heap.size n D (fun z => left z && !z.sameKey (.string t)) cnt1) := hid (HRF.out.kept hg2 (HNB.out b (by have := HBL.out; omega)) (HNB.out _ (Nat.le_refl _)))
        have HB2 : Hid (Below w.heap.size w w2) := hid ⟨hg2.os.trans HBF.out.os, hg2.tape.trans HBF.out.tape, hg2.output.trans HBF.out.output, Nat.le_trans HBF.out.size hg2.size, fun k hk => (hg2.block k (Nat.lt_of_lt_of_le hk HBF.out.size) (HNB.out k (by omega))).trans (HBF.out.block k hk)⟩
        have HZ2 : Hid (w.heap.size + 1 ≤ w2.heap.size) := by apply hid; have h1 := hg2.size; have := HZF.out; omega
        clear hrun hown2 hg2
        go_wp2_with (first | (at_builtin; refine wpList_append_run rfl (.tmp 20) (.tmp 23) 22 rfl (.slice ao (heldL L).length kc) (.slice (some ⟨wf.heap.size, 0, none⟩) 1 1) (.slice ao2 ((heldL L).length + 1) kc2) w2 rfl rfl HRUN.out ?_) | fail)
        go_roundw
        case rel => exact ⟨_, _, cnt1, ao2, kc2, HR2.out, HPT1.out, by rw [HSN.out]; simp, by rw [HSN.out]; simpa using HO2.out, HB2.out, HZ2.out⟩
        case measure => rw [HR2.out.left_eq, HRG.out.left_eq]; exact HLT.out
set_option maxRecDepth 100000 in
set_option maxHeartbeats 2000000 in
theorem held_no (w : World) (p : Nat) (N : NM) (h : Rm w p none N) :
    Calls Tryz.prog 22 #[.pointer (some ⟨p, 0, none⟩)] w fun e w' => e = .returned (.slice none 0 0) ∧ Below w.heap.size w w' := by
  have hc := h.cell
  have hrg := run_range_nilMap (P := Tryz.prog) w 48 29 51 Tryz.underlying48
  have hnx : ∀ ty, (Instr.next (.pointer (some ⟨w.heap.size, 0, none⟩)) false ty).run Tryz.prog (w.alloc (.mapIter none 0 #[] 0)) = _ := fun ty => run_next_nilMap w ty 0 0 #[]
  go_enter Tryz.func22, Tryz.ntmps22
  go_wp2
  refine wp_loop_rounds 1 ?_
  rw [rounds_succ]
  go_wp2_with (go_at_call 49; refine (sort_zero none 0 _).mono ?_; rintro e w' ⟨rfl, rfl⟩)
  go_ret
  exact ⟨rfl, (Below.refl _ _).alloc (Nat.le_refl _) _⟩
theorem heldL_mem {N : NM} {L : List (Bs × Note)} (h : Over N L) (x : Bs) : x ∈ heldL L ↔ (nget N x).held = true := by
  refine ⟨fun hx => ?_, fun hx => h.held hx⟩
  obtain ⟨y, hy, rfl⟩ := List.mem_map.1 hx
  have hy' := List.mem_filter.1 hy
  rw [nget, (h.mem y.1 y.2).1 hy'.1]
  exact hy'.2
theorem heldL_nodup {N : NM} {L : List (Bs × Note)} (h : Over N L) : (heldL L).Nodup := (List.Sublist.map _ List.filter_sublist).nodup h.nodup
/-- what a mind that heard l holds, in order -/
theorem held_mi {U l : List Bs} (hU : Uni U) {w : World} {p : Nat} {o : Option Nat} {N : NM} (h : Mi U l w p o N) :
    Calls Tryz.prog 22 #[.pointer (some ⟨p, 0, none⟩)] w fun e w' => ∃ v K, e = .returned v ∧ K.Nodup ∧ K.length < 100000000 ∧ (∀ x, x ∈ K ↔ Hd (fun x => x ∈ l) x) ∧ w'.ownsRow w.heap.size 29 1 v (sorted K).length ((sorted K).map St) ∧ Below w.heap.size w w' := by
  cases o with
  | none =>
    have hN : N = fun _ => none := funext h.rm.om
    refine (held_no w p N h.rm).mono ?_
    rintro e w' ⟨rfl, hb⟩
    have es : sorted ([] : List Bs) = [] := by unfold sorted; simp
    refine ⟨_, [], rfl, List.nodup_nil, by simp, fun x => ⟨(fun h => by cases h), fun hx => ?_⟩, by rw [es]; exact World.ownsRow_nil _ _ _ _, hb⟩
    have := (h.mind.holds x).2 hx
    unfold Hld at this
    rw [hN] at this
    simp [nget] at this
    try cases this
  | some b =>
    refine (held_all hU w p b N ⟨h.rm.ptr, h.rm.om⟩ h.ok.dom).mono ?_
    rintro e w' ⟨v, L, rfl, hov, hown, hb⟩
    have hlen : (heldL L).length ≤ U.length := length_sub (heldL_nodup hov) (fun x hx => h.ok.dom x (by
      have hx' := (heldL_mem hov x).1 hx
      cases hn : N x with
      | none => rw [nget, hn] at hx'; cases hx'
      | some m => rfl))
    have := hU.len
    exact ⟨v, heldL L, rfl, heldL_nodup hov, by omega, fun x => (heldL_mem hov x).trans (h.mind.holds x), hown, hb⟩
end Go.Proofs.YtfnnhekjeobicaaGreatDoor

/- What the document's Held gathers is just what is held. -/
namespace Go.Proofs.YtfnnhekjeobicaaGreatDoor

theorem addL_mem (M ps : List Bs) (x : Bs) : x ∈ addL M ps ↔ x ∈ M ∨ x ∈ ps := by
  induction ps generalizing M with
  | nil => simp [addL]
  | cons p ps ih =>
    have e : addL M (p :: ps) = addL (if p ∈ M then M else M ++ [p]) ps := rfl
    rw [e, ih]
    by_cases h : p ∈ M
    · rw [if_pos h]
      constructor
      · rintro (g | g)
        · exact Or.inl g
        · exact Or.inr (by simp [g])
      · rintro (g | g)
        · exact Or.inl g
        · rcases List.mem_cons.1 g with rfl | g
          · exact Or.inl h
          · exact Or.inr g
    · rw [if_neg h]
      simp [or_assoc]
theorem addL_nodup {M : List Bs} (h : M.Nodup) (ps : List Bs) : (addL M ps).Nodup := by
  induction ps generalizing M with
  | nil => exact h
  | cons p ps ih =>
    have e : addL M (p :: ps) = addL (if p ∈ M then M else M ++ [p]) ps := rfl
    rw [e]
    by_cases g : p ∈ M
    · rw [if_pos g]; exact ih h
    · rw [if_neg g]
      refine ih (List.nodup_append.2 ⟨h, by simp, fun x hx b hb e2 => ?_⟩)
      simp at hb
      rw [e2, hb] at hx
      exact g hx
theorem addL_ext (M ps : List Bs) : ∃ E, addL M ps = M ++ E := by
  induction ps generalizing M with
  | nil => exact ⟨[], by simp [addL]⟩
  | cons p ps ih =>
    have e : addL M (p :: ps) = addL (if p ∈ M then M else M ++ [p]) ps := rfl
    rw [e]
    by_cases g : p ∈ M
    · rw [if_pos g]; exact ih M
    · rw [if_neg g]
      obtain ⟨E, hE⟩ := ih (M ++ [p])
      exact ⟨p :: E, by rw [hE]; simp⟩
/-- what a held term gives, taken apart, is held -/
theorem parts_held {H : Bs → Prop} {M : List Bs} (hM : ∀ x ∈ M, Can H x) {t : Bs} (ht : Hd H t) (hd : Tm.deep t ≠ 0) : ∀ p ∈ partsR M t, Hd H p := by
  intro p hp
  unfold partsR at hp
  by_cases h1 : t.head? = some 84
  · rw [if_pos h1, kidsR_of hd] at hp
    exact .part ht h1 hp
  · rw [if_neg h1] at hp
    by_cases h2 : t.head? = some 66
    · rw [if_pos h2, kidsR_of hd] at hp
      split at hp
      · rename_i k m hk
        split at hp
        · rename_i hkM
          simp at hp
          subst hp
          exact .opened ht h2 hk (hM k hkM)
        · cases hp
      · cases hp
    · rw [if_neg h2] at hp; cases hp
/-- what is being gathered as held: those heard, and what the first i of them give -/
structure Hg (H A M l : List Bs) (i : Nat) : Prop where
  nodup : l.Nodup
  inA : ∀ x ∈ l, x ∈ A
  held : ∀ x ∈ l, Hd (fun x => x ∈ H) x
  heard : ∀ x ∈ H, x ∈ l
  done : ∀ j (h : j < l.length), j < i → ∀ p ∈ partsR M l[j], p ∈ l
  le : i ≤ l.length
theorem Hg.few {H A M l : List Bs} {i : Nat} (h : Hg H A M l i) : l.length ≤ A.length := length_sub h.nodup h.inA
theorem Hg.start (H A M : List Bs) (hA : ∀ x ∈ H, x ∈ A) : Hg H A M (addL [] H) 0 :=
  ⟨addL_nodup List.nodup_nil H, fun x hx => by
      rcases (addL_mem [] H x).1 hx with g | g
      · cases g
      · exact hA x g,
    fun x hx => by
      rcases (addL_mem [] H x).1 hx with g | g
      · cases g
      · exact .heard g,
    fun x hx => (addL_mem [] H x).2 (Or.inr hx), fun j _ h => by omega, Nat.zero_le _⟩
theorem Hg.step {H A M l : List Bs} {i : Nat} (h : Hg H A M l i) (hA : ∀ x ∈ A, Tm.deep x ≠ 0) (hN : ∀ x ∈ A, ∀ y, Nx x y → y ∈ A) (hM : ∀ x ∈ M, Can (fun x => x ∈ H) x) (hi : i < l.length) : Hg H A M (addL l (partsR M l[i])) (i + 1) := by
  have hin : l[i] ∈ l := List.getElem_mem hi
  refine ⟨addL_nodup h.nodup _, fun x hx => ?_, fun x hx => ?_, fun x hx => (addL_mem _ _ x).2 (Or.inl (h.heard x hx)), fun j hj hji p hp => ?_, ?_⟩
  · rcases (addL_mem _ _ x).1 hx with g | g
    · exact h.inA x g
    · exact hN _ (h.inA _ hin) _ (parts_nx g)
  · rcases (addL_mem _ _ x).1 hx with g | g
    · exact h.held x g
    · exact parts_held hM (h.held _ hin) (hA _ (h.inA _ hin)) x g
  · obtain ⟨E, hE⟩ := addL_ext l (partsR M l[i])
    have hjl : j < l.length := by omega
    have e : (addL l (partsR M l[i]))[j] = l[j] := by
      simp only [hE]
      exact List.getElem_append_left hjl
    rw [e] at hp
    rw [addL_mem]
    by_cases hji2 : j = i
    · subst hji2; exact Or.inr hp
    · exact Or.inl (h.done j hjl (by omega) p hp)
  · obtain ⟨E, hE⟩ := addL_ext l (partsR M l[i])
    rw [hE]
    simp
    omega
/-- gathered to the end, it is just what is held -/
theorem Hg.all {H A M l : List Bs} (h : Hg H A M l l.length) (hA : ∀ x ∈ A, Tm.deep x ≠ 0) (hN : ∀ x ∈ A, ∀ y, Nx x y → y ∈ A) (hc : ∀ x ∈ A, Can (fun x => x ∈ H) x → x ∈ M) (x : Bs) : x ∈ l ↔ Hd (fun x => x ∈ H) x := by
  have cl : ∀ t ∈ l, ∀ p ∈ partsR M t, p ∈ l := fun t ht p hp => by
    obtain ⟨j, hj, rfl⟩ := List.getElem_of_mem ht
    exact h.done j hj hj p hp
  refine ⟨h.held x, fun g => ?_⟩
  induction g with
  | heard g => exact h.heard _ g
  | @part t k _ h1 h2 ih =>
    refine cl t ih k ?_
    unfold partsR
    rw [if_pos h1, kidsR_of (hA _ (h.inA _ ih))]
    exact h2
  | @opened t k m _ h1 h2 h3 ih =>
    have hd := hA _ (h.inA _ ih)
    refine cl t ih m ?_
    have hk : k ∈ M := hc k (hN _ (h.inA _ ih) _ (.kid (by rw [kidsR_of hd, h2]; simp))) h3
    unfold partsR
    rw [if_neg (by rw [h1]; decide), if_pos h1, kidsR_of hd, h2]
    simp [hk]
theorem Hg.fewM {H A M l : List Bs} {i : Nat} (h : Hg H A M l i) (hc : ∀ x ∈ A, Can (fun x => x ∈ H) x → x ∈ M) : l.length ≤ M.length := length_sub h.nodup (fun x hx => hc x (h.inA x hx) (h.held x hx).can)
/-- what Made has made is all of what can be made, among its terms -/
theorem MadeR.full {H M : List Bs} {t : Bs} (h : MadeR H t M) {U : List Bs} {w : World} {p : Nat} {o : Option Nat} {N : NM} {hd : List Bs} (hm : Mi U hd w p o N) (hH : ∀ x, x ∈ hd ↔ x ∈ H) : ∃ A : List Bs, (∀ x ∈ H, x ∈ A) ∧ (∀ x ∈ A, Tm.deep x ≠ 0) ∧ (∀ x ∈ A, ∀ y, Nx x y → y ∈ A) ∧ (∀ x ∈ M, Can (fun x => x ∈ H) x) ∧ ∀ x ∈ A, Can (fun x => x ∈ H) x → x ∈ M := by
  obtain ⟨A, h1, h2, _, h4, h5, h6⟩ := h.mg
  refine ⟨A, h2, h4, h5, h1.can, fun x hx g => ?_⟩
  exact hm.local (done_local h4 h5 h6) (fun x hx => ⟨h1.heard x ((hH x).1 hx), h2 x ((hH x).1 hx)⟩) hx ((hm.knows x).2 (g.mono (fun x hx => (hH x).2 hx)))
end Go.Proofs.YtfnnhekjeobicaaGreatDoor

/- Sorting by insertion, as the document's Held does it. -/
namespace Go.Proofs.YtfnnhekjeobicaaGreatDoor
open List

/-- where a text belongs in a row -/
structure Ins (out : List Bs) (x : Bs) (k : Nat) : Prop where
  le : k ≤ out.length
  below : ∀ j (h : j < out.length), j < k → out[j] ≤ x
  above : ∀ (h : k < out.length), x ≤ out[k]
theorem ins_sorted {out : List Bs} {x : Bs} {k : Nat} (h : Ins out x k) (hs : out.Pairwise (· ≤ ·)) : (out.take k ++ x :: out.drop k).Pairwise (· ≤ ·) := by
  have hb : ∀ a ∈ out.take k, a ≤ x := fun a ha => by
    obtain ⟨j, hj, rfl⟩ := List.getElem_of_mem ha
    rw [List.getElem_take]
    have := List.length_take_le k out
    exact h.below j (by simp at hj; omega) (by simp at hj; omega)
  have ha : ∀ a ∈ out.drop k, x ≤ a := fun a ha => by
    obtain ⟨j, hj, rfl⟩ := List.getElem_of_mem ha
    rw [List.getElem_drop]
    have hk : k < out.length := by simp at hj; omega
    by_cases e : j = 0
    · subst e; exact h.above hk
    · exact List.le_trans (h.above hk) (List.pairwise_iff_getElem.1 hs k (k + j) hk (by simp at hj; omega) (by omega))
  have hp := List.pairwise_append.1 (by rw [List.take_append_drop]; exact hs : (out.take k ++ out.drop k).Pairwise (· ≤ ·))
  refine List.pairwise_append.2 ⟨hp.1, List.pairwise_cons.2 ⟨ha, hp.2.1⟩, fun a h1 b h2 => ?_⟩
  rcases List.mem_cons.1 h2 with rfl | h2
  · exact hb a h1
  · exact hp.2.2 a h1 b h2
theorem ins_perm (out : List Bs) (x : Bs) (k : Nat) : out.take k ++ x :: out.drop k ~ x :: out := by
  refine List.perm_middle.trans ?_
  rw [List.take_append_drop]
/-- a row that is in order, and has just what another has, each once, is that one sorted -/
theorem sorted_of {l l' out : List Bs} (h1 : l.Nodup) (h2 : l'.Nodup) (hm : ∀ x, x ∈ l ↔ x ∈ l') (hp : out ~ l) (hs : out.Pairwise (· ≤ ·)) : out = sorted l' := by
  refine List.Perm.eq_of_pairwise (le := (· ≤ ·)) (fun a b _ _ x y => List.le_antisymm x y) hs ?_ ?_
  · have := List.pairwise_mergeSort (le := fun x y : Bs => decide (x ≤ y)) (fun a b c x y => by
      simp only [decide_eq_true_eq] at *
      exact List.le_trans x y) (fun a b => by
      simp only [Bool.or_eq_true, decide_eq_true_eq]
      exact List.le_total a b) l'
    unfold sorted
    exact this.imp (fun h => of_decide_eq_true h)
  · exact hp.trans (((List.perm_ext_iff_of_nodup h1 h2).2 hm).trans (List.mergeSort_perm l' _).symm)
end Go.Proofs.YtfnnhekjeobicaaGreatDoor

/- Texts appended to a row of one's own; parts of a row. -/
namespace Go.Proofs.YtfnnhekjeobicaaGreatDoor
open Go.RowKit Go.Maps Go.WideElems

theorem own_cap {w : World} {B : Nat} {a : Option Addr} {k : Nat} {l : List Bs} (h : w.ownsRow B 29 1 (.slice a l.length k) l.length (l.map St)) : l.length ≤ k ∧ (a = none → l = []) ∧ ∀ x, a = some x → ∃ g, x = ⟨g, 0, none⟩ := by
  rcases h.2 with ⟨h1, h2⟩ | ⟨g, cap, cur, hv, hb, hg, hc1, hc2, hc3, hc4⟩
  · have e : l = [] := List.length_eq_zero_iff.1 (by omega)
    subst e
    injection h1 with e1 _ _
    exact ⟨by simp, fun _ => rfl, fun x h => by rw [e1] at h; cases h⟩
  · cases hv
    exact ⟨by omega, (fun h => by cases h), fun x h => by cases h; exact ⟨g, rfl⟩⟩
theorem append_many (W : World) (B : Nat) (v kv : Value) (l ks : List Bs) (hown : W.ownsRow B 29 1 v l.length (l.map St)) (hk : Texts W kv ks) (hl : l.length + ks.length < 1000000000) (hB : B ≤ W.heap.size) :
    ∃ ao kc w', (∀ ty, (Builtin.append_ #[22, 22] ty #[v, kv]).run Tryz.prog W = .ok (.slice ao (l ++ ks).length kc) w') ∧ w'.ownsRow B 29 1 (.slice ao (l ++ ks).length kc) (l ++ ks).length ((l ++ ks).map St) ∧ Gw W w' v (.slice ao (l ++ ks).length kc) := by
  obtain ⟨i0, hi, hz0, hz1, hz2⟩ := info_parts Tryz.info29
  obtain ⟨ao, cap, rfl, hc⟩ := hk
  obtain ⟨a1, k1, rfl⟩ := own_shape hown
  by_cases h0 : ks = []
  · subst h0
    refine ⟨a1, k1, W, fun ty => ?_, by simpa using hown, by simpa using Gw.refl W _⟩
    have hcap := (own_cap hown).1
    cases a1 <;> cases ao <;> simp [hcap, Builtin.append_, Builtin.firstCells, run_underlying Tryz.underlying22, sizeOf, typeInfo, hi, Builtin.lenOf, go_sem]
  · obtain ⟨g, o, rfl, hlt, hcell⟩ := hc h0
    have hpos := List.length_pos_iff.2 h0
    obtain ⟨v', w', h1, h2, h3, _, h5⟩ := run_append_own_at (P := Tryz.prog) W B 22 22 29 i0 _ 1 16 Tryz.underlying22 hi hz0 hz1 hz2 rfl (by decide) (.slice a1 l.length k1) l.length (l.map St) hown ⟨g, o, none⟩ ks.length cap (ks.map St) (by simp) (fun j u hu => by
      have hj : j < ks.length := by have := (List.getElem?_eq_some_iff.1 hu).1; simpa using this
      rw [add_plain, hcell j hj, ← hu]; simp [hj]) (fun u hu => by obtain ⟨x, _, rfl⟩ := List.mem_map.1 hu; rfl) (by unfold maxLen; omega) (by omega) hB
    rw [← List.map_append] at h2
    have h4 : ∃ a k, v' = .slice a (l ++ ks).length k := by
      rcases h2.2 with ⟨_, e⟩ | ⟨g, cap, _, e, _⟩
      · omega
      · exact ⟨some ⟨g, 0, none⟩, cap, by rw [e]; simp⟩
    obtain ⟨a, k, rfl⟩ := h4
    refine ⟨a, k, w', fun ty => h1, by simpa using h2, ⟨h3.os, h3.tape, h3.output, h3.size, fun j hj hne => h3.block j hj (fun e => hne e.symm), fun j hj => ?_⟩⟩
    rcases h5 with e | e
    · exact Or.inl (e ▸ hj)
    · right; rw [e] at hj; cases hj; simp
theorem Texts.take {w : World} {g o n c : Nat} {l : List Bs} (h : Texts w (.slice (some ⟨g, o, none⟩) l.length n) l) (k : Nat) (hk : k ≤ l.length) : Texts w (.slice (some ⟨g, o, none⟩) k c) (l.take k) := by
  refine ⟨_, c, by rw [List.length_take, Nat.min_eq_left hk], fun hne => ?_⟩
  obtain ⟨a', n', e, hc⟩ := h
  cases e
  obtain ⟨g', o', e, hg, hc⟩ := hc (fun e => by subst e; simp at hne)
  cases e
  exact ⟨g, o, rfl, hg, fun i hi => by
    rw [List.length_take] at hi
    rw [hc i (by omega), List.getElem_take]⟩
theorem Texts.drop {w : World} {g o n c : Nat} {l : List Bs} (h : Texts w (.slice (some ⟨g, o, none⟩) l.length n) l) (k : Nat) (hk : k ≤ l.length) : Texts w (.slice (some ⟨g, o + k, none⟩) (l.length - k) c) (l.drop k) := by
  refine ⟨_, c, by rw [List.length_drop], fun hne => ?_⟩
  obtain ⟨a', n', e, hc⟩ := h
  cases e
  obtain ⟨g', o', e, hg, hc⟩ := hc (fun e => by subst e; simp at hne)
  cases e
  exact ⟨g, o + k, rfl, hg, fun i hi => by
    rw [List.length_drop] at hi
    rw [Nat.add_assoc, hc (k + i) (by omega), List.getElem_drop]⟩
end Go.Proofs.YtfnnhekjeobicaaGreatDoor

/- A text put into a row at its place: what three appends make. -/
namespace Go.Proofs.YtfnnhekjeobicaaGreatDoor
open Go.RowKit Go.Maps Go.WideElems

theorem terms_from (q : IntKind) (a : Option Addr) (n cap k : Nat) (h : k ≤ n) (W : World) : (Instr.sliceAt 22 (.slice a n cap) (some (.int q (k : Int))) none none).run Tryz.prog W = .ok (.slice (if cap = k then a else a.map (·.add k)) (n - k) (cap - k)) W := by
  obtain ⟨i, hi, _, hz, _⟩ := info_parts Tryz.info29
  have h1 : (k : Int) ≤ (n : Int) := by omega
  simp [Instr.sliceAt, Instr.slice, Instr.sliceBounds, Instr.sliceBound, asIntOf, run_underlying Tryz.underlying22, sizeOf, typeInfo, hi, hz, go_sem]
  intro h'; omega
theorem terms_to (q : IntKind) (a : Option Addr) (n cap k : Nat) (h : k ≤ cap) (W : World) : (Instr.sliceAt 22 (.slice a n cap) none (some (.int q (k : Int))) none).run Tryz.prog W = .ok (.slice a k cap) W := by
  obtain ⟨i, hi, _, hz, _⟩ := info_parts Tryz.info29
  have h1 : (k : Int) ≤ (cap : Int) := by omega
  have h0 : ∀ x : Addr, x.add 0 = x := fun x => by unfold Addr.add; split <;> simp_all
  simp [Instr.sliceAt, Instr.slice, Instr.sliceBounds, Instr.sliceBound, asIntOf, run_underlying Tryz.underlying22, sizeOf, typeInfo, hi, go_sem, h0]
  intro h'; omega
theorem texts_to {w : World} {a : Option Addr} {cap : Nat} {l : List Bs} (h : Texts w (.slice a l.length cap) l) (k c : Nat) (hk : k ≤ l.length) : Texts w (.slice a k c) (l.take k) := by
  refine ⟨a, c, by rw [List.length_take, Nat.min_eq_left hk], fun hne => ?_⟩
  obtain ⟨a', n', e, hc⟩ := h
  cases e
  obtain ⟨g', o', e, hg, hc⟩ := hc (fun e => by subst e; simp at hne)
  exact ⟨g', o', e, hg, fun i hi => by
    rw [List.length_take] at hi
    rw [hc i (by omega), List.getElem_take]⟩
theorem texts_from {w : World} {a : Option Addr} {cap : Nat} {l : List Bs} (h : Texts w (.slice a l.length cap) l) (hcap : l.length ≤ cap) (k c : Nat) : Texts w (.slice (if cap = k then a else a.map (·.add k)) (l.length - k) c) (l.drop k) := by
  refine ⟨_, c, by rw [List.length_drop], fun hne => ?_⟩
  obtain ⟨a', n', e, hc⟩ := h
  cases e
  obtain ⟨g', o', e, hg, hc⟩ := hc (fun e => by subst e; simp at hne)
  have hkl : k < l.length := by
    apply Nat.lt_of_not_le
    intro h
    exact hne (List.drop_eq_nil_of_le h)
  rw [if_neg (by omega), e]
  refine ⟨g', o' + k, by simp [Addr.add], hg, fun i hi => ?_⟩
  rw [List.length_drop] at hi
  rw [Nat.add_assoc, hc (k + i) (by omega), List.getElem_drop]
theorem own_weak {w : World} {B C : Nat} {v : Value} {n : Nat} {xs : List Value} (h : w.ownsRow B 29 1 v n xs) (hb : C ≤ B) : w.ownsRow C 29 1 v n xs :=
  ⟨h.1, h.2.imp id (fun ⟨g, cap, cur, e1, e2, e3⟩ => ⟨g, cap, cur, e1, by omega, e3⟩)⟩
/-- the runs that put x into a row behind its first k -/
theorem ins_run (W : World) (B : Nat) (hB : B ≤ W.heap.size) (a : Option Addr) (c : Nat) (out : List Bs) (x : Bs) (k : Nat) (hown : W.ownsRow B 29 1 (.slice a out.length c) out.length (out.map St)) (hk : k ≤ out.length) (hl : out.length ≤ 999999) :
    ∃ a1 c1 w6 a2 c2 w7 a0 c0 a3 c3 w8,
      (∀ q W, (Instr.sliceAt 22 (.slice a out.length c) none (some (.int q (k : Int))) none).run Tryz.prog W = .ok (.slice a k c) W) ∧
      (∀ ty, (Builtin.append_ #[22, 22] ty #[.slice none 0 0, .slice a k c]).run Tryz.prog W = .ok (.slice a1 k c1) w6) ∧
      (∀ ty, (Builtin.append_ #[22, 22] ty #[.slice a1 k c1, .slice (some ⟨w6.heap.size, 0, none⟩) 1 1]).run Tryz.prog (w6.alloc (.cells #[St x] 29)) = .ok (.slice a2 (k + 1) c2) w7) ∧
      (∀ q W, (Instr.sliceAt 22 (.slice a out.length c) (some (.int q (k : Int))) none none).run Tryz.prog W = .ok (.slice a0 (out.length - k) c0) W) ∧
      (∀ ty, (Builtin.append_ #[22, 22] ty #[.slice a2 (k + 1) c2, .slice a0 (out.length - k) c0]).run Tryz.prog w7 = .ok (.slice a3 (out.length + 1) c3) w8) ∧
      Below W.heap.size W w6 ∧ w8.ownsRow B 29 1 (.slice a3 (out.length + 1) c3) (out.length + 1) ((out.take k ++ x :: out.drop k).map St) ∧ Below W.heap.size W w8 := by
  have hcap := (own_cap hown).1
  have htx := own_texts hown
  have hlt : (out.take k).length = k := by rw [List.length_take, Nat.min_eq_left hk]
  obtain ⟨a1, c1, w6, hr1, ho1, hb1⟩ := append_all W (.slice a k c) (out.take k) (texts_to htx k c hk) (by rw [hlt]; omega)
  obtain ⟨a2, c2, w7, hr2, ho2, hg2⟩ := append_gw w6 W.heap.size (.slice a1 (out.take k).length c1) (out.take k) x ho1 (by rw [hlt]; omega) hb1.size
  have hown2 : ∀ g, (Value.slice a1 (out.take k).length c1).ownBlock = some g → W.heap.size ≤ g := fun g e => (own_ge ho1 e).1
  have hb2 : Below W.heap.size w6 w7 := hg2.low hown2 hb1.size
  have hb7 : Below W.heap.size W w7 := hb1.trans hb2
  have htx7 : Texts w7 (.slice (if c = k then a else a.map (·.add k)) (out.length - k) (c - k)) (out.drop k) := texts_from (texts_below htx hb7) hcap k (c - k)
  obtain ⟨a3, c3, w8, hr3, ho3, hg3⟩ := append_many w7 W.heap.size _ _ (out.take k ++ [x]) (out.drop k) (by simpa using ho2) htx7 (by simp; omega) hb7.size
  have hlen : (out.take k ++ [x] ++ out.drop k).length = out.length + 1 := by simp; omega
  have hb3 : Below W.heap.size w7 w8 := hg3.low (fun g e => by
    exact (own_ge (n := (out.take k ++ [x]).length) (xs := (out.take k ++ [x]).map St) (by simpa using ho2) e).1) hb7.size
  rw [hlt] at hr1 hr2
  refine ⟨a1, c1, w6, a2, c2, w7, _, _, a3, c3, w8, fun q W => terms_to q a _ c k (by omega) W, hr1, hr2, fun q W => terms_from q a _ c k hk W, ?_, hb1, ?_, hb7.trans hb3⟩
  · rw [hlen, Nat.min_eq_left hk] at hr3
    exact hr3
  · have h9 := own_weak ho3 hB
    rw [hlen] at h9
    simpa using h9
end Go.Proofs.YtfnnhekjeobicaaGreatDoor

/- ref03.Held. -/
namespace Go.Proofs.YtfnnhekjeobicaaGreatDoor
open Go.RowKit Go.Maps Go.WideElems

/-- a row of texts of one's own, above a mark -/
structure Hw (w1 : World) (v : Value) (l : List Bs) (wr : World) : Prop where
  row : wr.ownsRow w1.heap.size 29 1 v l.length (l.map St)
  bel : Below w1.heap.size w1 wr
theorem Hw.below {w1 : World} {v : Value} {l : List Bs} {wr w' : World} (h : Hw w1 v l wr) (hb : Below wr.heap.size wr w') : Hw w1 v l w' :=
  ⟨own_stays h.row (fun i e => hb.block i (own_ge h.row e).2), below_two h.bel (below_low hb h.bel.size)⟩
theorem Hw.gw {w1 : World} {v v' : Value} {l l' : List Bs} {wr w' : World} (h : Hw w1 v l wr) (hg : Gw wr w' v v') (ho : w'.ownsRow w1.heap.size 29 1 v' l'.length (l'.map St)) : Hw w1 v' l' w' :=
  ⟨ho, below_two h.bel (hg.low (fun _ hk => (own_ge h.row hk).1) h.bel.size)⟩
set_option maxRecDepth 100000 in
set_option maxHeartbeats 16000000 in
theorem dheld_any (w : World) (ah : Option Addr) (ch : Nat) (H V : List Bs) (hH : Texts w (.slice ah H.length ch) H) (hHl : H.length ≤ 1000) (hHr : ∀ x ∈ H, Tm.deep x ≠ 0) (hV : ∀ x ∈ V, ∀ y, Nx x y → y ∈ V) (hVl : V.length ≤ 400000) (hVr : ∀ x ∈ V, Tm.deep x ≠ 0) (hHV : ∀ x ∈ H, x ∈ V)
    (hF : ∀ M, MadeR H [] M → ∃ A : List Bs, (∀ x ∈ H, x ∈ A) ∧ (∀ x ∈ A, Tm.deep x ≠ 0) ∧ (∀ x ∈ A, ∀ y, Nx x y → y ∈ A) ∧ (∀ x ∈ M, Can (fun x => x ∈ H) x) ∧ ∀ x ∈ A, Can (fun x => x ∈ H) x → x ∈ M) :
    Calls Tryz.prog 48 #[.slice ah H.length ch] w fun e w' => ∃ ao kc l out, e = .returned (.slice ao (List.length out) kc) ∧ Texts w' (.slice ao out.length kc) out ∧ l.Nodup ∧ (∀ x, x ∈ l ↔ Hd (fun x => x ∈ H) x) ∧ out.Perm l ∧ out.Pairwise (· ≤ ·) ∧ Below w.heap.size w w' := by
  have HHC : Hid (∀ i (h : i < H.length), ∃ g o, ah = some ⟨g, o, none⟩ ∧ ∀ W, Below w.heap.size w W → W.cell? ⟨g, o + i, none⟩ = some (St H[i])) := hid (fun i h => by
    obtain ⟨ao', cap', he, ht⟩ := hH
    cases he
    obtain ⟨g, o, e, hg, hc⟩ := ht (fun e => by rw [e] at h; simp at h)
    exact ⟨g, o, e, fun W hb => by rw [← hc i h]; exact World.cell?_of_block (hb.block g hg)⟩)
  have HMA := hid (made_any w ah ch H V [] hH hHl hHr hV hVl hVr hHV (fun h => absurd rfl h))
  have HF := hid hF
  obtain ⟨q, hq⟩ : ∃ q, q = H.length := ⟨_, rfl⟩
  have HQ := hid hq
  rw [← hq] at hHl HMA ⊢
  clear hH hHr hV hVl hVr hHV hq hF
  go_enter Tryz.func48, Tryz.ntmps48
  go_wp2_with fail
  refine HMA.out.mono ?_
  rintro e w1 ⟨am, km, M, rfl, hM, hMR, hb1⟩
  have HTM := hid hM
  have HB1 := hid hb1
  have HMF : Hid (M.length ≤ 900000) := hid hMR.few
  have HFU := hid (HF.out M hMR)
  clear hM hb1 hMR HF HMA
  obtain ⟨A, hA1, hA2, hA3, hA4, hA5⟩ := HFU.out
  have HA1 := hid hA1
  have HA2 := hid hA2
  have HA3 := hid hA3
  have HA4 := hid hA4
  have HA5 := hid hA5
  clear hA1 hA2 hA3 hA4 hA5 HFU
  obtain ⟨m, hm⟩ : ∃ m, m = M.length := ⟨_, rfl⟩
  have HM := hid hm
  rw [← hm]
  clear hm
  have hmb : m ≤ 900000 := by have := HMF.out; have := HM.out; omega
  go_wp2_with fail
  go_loopg [4, 5] q (fun gg s4 s5 wr => ∃ (i : Nat) (a1 : Option Addr) (k1 : Nat), i ≤ q ∧ gg = q - i ∧ s4 = .slice a1 (addL [] (H.take i)).length k1 ∧ s5 = .int .i64 (i : Int) ∧ Hw w1 (.slice a1 (addL [] (H.take i)).length k1) (addL [] (H.take i)) wr)
  case atStart => exact ⟨0, none, 0, by omega, by omega, rfl, rfl, World.ownsRow_nil _ _ _ _, Below.refl _ _⟩
  case round =>
    obtain ⟨i, a1, k1, hi, rfl, rfl, rfl, hhw⟩ := hrel
    have HHW := hid hhw
    clear hhw
    by_cases hil : i < q
    · have hi1 : (i : Int) < (q : Int) := by omega
      have hik : i < H.length := by rw [← HQ.out]; exact hil
      obtain ⟨g, o, hao, hce⟩ := HHC.out i hik
      subst hao
      have hc := hce wr (below_two HB1.out (below_low HHW.out.bel HB1.out.size))
      have hlen : (addL [] (H.take i)).length ≤ 1000 := by
        have h1 := addL_len [] (H.take i)
        rw [List.length_take] at h1
        simp only [List.length_nil] at h1
        omega
      have HH := hid (has_any wr a1 k1 (addL [] (H.take i)) H[i] (own_texts HHW.out.row) (by omega))
      have HST : Hid (addL [] (H.take (i + 1)) = if H[i] ∈ addL [] (H.take i) then addL [] (H.take i) else addL [] (H.take i) ++ [H[i]]) := hid (by rw [List.take_succ_eq_append_getElem hik, addL_snoc])
      clear hce
      generalize H[i] = y at hc HH HST
      generalize addL [] (H.take i) = L1 at HH HST HHW hlen
      by_cases hin : y ∈ L1
      · rw [decide_eq_true hin] at HH
        rw [if_pos hin] at HST
        clear hin
        go_wp2_with (first | (go_at_call 65; refine HH.out.mono ?_; rintro e w3 ⟨rfl, hw3⟩; obtain rfl := hw3.symm))
        go_roundg (q - (i + 1))
        case measure => omega
        case rel => exact ⟨i + 1, a1, k1, by omega, rfl, by rw [HST.out], by go_num, by rw [HST.out]; exact HHW.out⟩
      · rw [decide_eq_false hin] at HH
        rw [if_neg hin] at HST
        obtain ⟨a2, k2, w4, hrun, hown4, hg4⟩ := append_gw wr w1.heap.size (.slice a1 L1.length k1) L1 y HHW.out.row (by omega) HHW.out.bel.size
        have HRUN := hid hrun
        have HH4 : Hid (Hw w1 (.slice a2 (L1.length + 1) k2) (L1 ++ [y]) w4) := hid (HHW.out.gw hg4 hown4)
        clear hin hrun hown4 hg4
        go_wp2_with (first | (go_at_call 65; refine HH.out.mono ?_; rintro e w3 ⟨rfl, hw3⟩; obtain rfl := hw3.symm) | (at_builtin; refine wpList_append_run rfl (.tmp 28) (.tmp 33) 22 rfl (.slice a1 L1.length k1) (.slice (some ⟨wr.heap.size, 0, none⟩) 1 1) (.slice a2 (L1.length + 1) k2) w4 rfl rfl HRUN.out ?_))
        go_roundg (q - (i + 1))
        case measure => omega
        case rel => exact ⟨i + 1, a2, k2, by omega, rfl, by rw [HST.out]; simp, by go_num, by rw [HST.out]; simpa using HH4.out⟩
    · have hi1 : ¬ (i : Int) < (q : Int) := by omega
      have HE : Hid (H.take i = H) := hid (List.take_of_length_le (by rw [← HQ.out]; omega))
      rw [HE.out] at HHW
      rw [HE.out]
      have HHG := hid (Hg.start H A M HA1.out)
      clear hi hil HE HHC
      generalize addL [] H = L0 at HHW HHG
      go_wp2_with fail
      go_loopg [4, 6, 7, 8] m (fun gg s4 s6 _s7 _s8 wr => ∃ (i : Nat) (a1 : Option Addr) (k1 : Nat) (L : List Bs), gg = m - i ∧ s4 = .slice a1 L.length k1 ∧ s6 = .int .i64 (i : Int) ∧ Hw w1 (.slice a1 L.length k1) L wr ∧ Hg H A M L i)
      case atStart => exact ⟨0, a1, k1, L0, by omega, rfl, rfl, HHW.out, HHG.out⟩
      case round =>
        clear HHW HHG
        obtain ⟨i2, a2, k2, L, rfl, rfl, rfl, hhw, hhg⟩ := hrel
        have HHW := hid hhw
        have HHG := hid hhg
        have hLb : L.length ≤ m := by rw [HM.out]; exact hhg.fewM HA5.out
        have hi2 : i2 ≤ L.length := hhg.le
        clear hhw hhg
        by_cases hil : i2 < L.length
        · have hi1' : (i2 : Int) < (L.length : Int) := by omega
          have HPT := hid (dparts_any wr am km M L[i2] (texts_below HTM.out HHW.out.bel) (by have := HM.out; omega) (HA2.out _ (HHG.out.inA _ (List.getElem_mem hil))))
          have HPF := hid (partsR_few M L[i2])
          have HSTP : Hid (Hg H A M (addL L (partsR M L[i2])) (i2 + 1)) := hid (HHG.out.step HA2.out HA3.out HA4.out hil)
          have HLE : Hid ((addL L (partsR M L[i2])).length ≤ m) := hid (by rw [HM.out]; exact HSTP.out.fewM HA5.out)
          obtain ⟨g, o, hao, hg, hc⟩ := (own_texts HHW.out.row).cells i2 hil
          subst hao
          rw [← HM.out] at HPT
          generalize partsR M L[i2] = ps at HPT HPF HSTP HLE
          generalize L[i2] = y at hc HPT
          obtain ⟨K, hK⟩ : ∃ K, K = ps.length := ⟨_, rfl⟩
          have HKK := hid hK
          have hKb : K ≤ 32 := by rw [hK]; exact HPF.out
          rw [← hK] at HPT
          clear hK
          go_wp2_with fail
          refine HPT.out.mono ?_
          rintro e w5 ⟨ao, kc, rfl, htx, hb, hlo⟩
          have HTX := hid htx
          have HB5 := hid hb
          have HLO := hid hlo
          rw [HKK.out] at HTX
          have HH5 := hid (HHW.out.below hb)
          clear htx hb hlo HPT hc hg
          go_wp2_with fail
          go_loopg [4, 8] K (fun gg s4 s8 wr => ∃ (j : Nat) (a3 : Option Addr) (k3 : Nat), j ≤ K ∧ gg = K - j ∧ s4 = .slice a3 (addL L (ps.take j)).length k3 ∧ s8 = .int .i64 (j : Int) ∧ Hw w1 (.slice a3 (addL L (ps.take j)).length k3) (addL L (ps.take j)) wr ∧ Texts wr (.slice ao ps.length kc) ps ∧ (∀ k, (Value.slice a3 (addL L (ps.take j)).length k3).ownBlock = some k → ∀ g o, ao = some ⟨g, o, none⟩ → k ≠ g))
          case atStart =>
            refine ⟨0, some ⟨g, o, none⟩, k2, by omega, by omega, rfl, rfl, HH5.out, HTX.out, fun k hk g' o' e => ?_⟩
            have := (own_ge HHW.out.row hk).2
            have := HLO.out g' o' e
            omega
          case round =>
            obtain ⟨j, a3, k3, hj, rfl, rfl, rfl, hhw, htx, hap⟩ := hrel
            have HHX := hid hhw
            have HT := hid htx
            have HAP := hid hap
            clear hhw htx hap
            by_cases hjl : j < K
            · have hj1 : (j : Int) < (K : Int) := by omega
              have hjk : j < ps.length := by rw [← HKK.out]; exact hjl
              obtain ⟨g2, o2, hao2, hg2, hc2⟩ := HT.out.cells j hjk
              subst hao2
              have hlen : (addL L (ps.take j)).length ≤ 900040 := by
                have h1 := addL_len L (ps.take j)
                rw [List.length_take] at h1
                omega
              have HH := hid (has_any wr a3 k3 (addL L (ps.take j)) ps[j] (own_texts HHX.out.row) (by omega))
              have HST : Hid (addL L (ps.take (j + 1)) = if ps[j] ∈ addL L (ps.take j) then addL L (ps.take j) else addL L (ps.take j) ++ [ps[j]]) := hid (by rw [List.take_succ_eq_append_getElem hjk, addL_snoc])
              generalize ps[j] = z at hc2 HH HST
              generalize addL L (ps.take j) = L1 at HH HST HHX HAP hlen
              by_cases hin : z ∈ L1
              · rw [decide_eq_true hin] at HH
                rw [if_pos hin] at HST
                clear hin
                go_wp2_with (first | (go_at_call 65; refine HH.out.mono ?_; rintro e w3 ⟨rfl, hw3⟩; obtain rfl := hw3.symm))
                go_roundg (K - (j + 1))
                case measure => omega
                case rel => exact ⟨j + 1, a3, k3, by omega, rfl, by rw [HST.out], by go_num, by rw [HST.out]; exact HHX.out, HT.out, by rw [HST.out]; exact HAP.out⟩
              · rw [decide_eq_false hin] at HH
                rw [if_neg hin] at HST
                obtain ⟨a4, k4, w6, hrun, hown4, hg4⟩ := append_gw wr w1.heap.size (.slice a3 L1.length k3) L1 z HHX.out.row (by omega) HHX.out.bel.size
                have HRUN := hid hrun
                have HH4 : Hid (Hw w1 (.slice a4 (L1.length + 1) k4) (L1 ++ [z]) w6) := hid (HHX.out.gw hg4 hown4)
                have HG4 := hid hg4
                clear hin hrun hown4 hg4
                go_wp2_with (first | (go_at_call 65; refine HH.out.mono ?_; rintro e w3 ⟨rfl, hw3⟩; obtain rfl := hw3.symm) | (at_builtin; refine wpList_append_run rfl (.tmp 60) (.tmp 65) 22 rfl (.slice a3 L1.length k3) (.slice (some ⟨wr.heap.size, 0, none⟩) 1 1) (.slice a4 (L1.length + 1) k4) w6 rfl rfl HRUN.out ?_))
                go_roundg (K - (j + 1))
                case measure => omega
                case rel =>
                  refine ⟨j + 1, a4, k4, by omega, rfl, by rw [HST.out]; simp, by go_num, by rw [HST.out]; simpa using HH4.out, HT.out.gw HG4.out (fun g' o' e e2 => HAP.out g' e2 g' o' e rfl), fun k hk g' o' e => ?_⟩
                  rcases HG4.out.own k (by rw [HST.out] at hk; simpa using hk) with e2 | e2
                  · exact HAP.out k e2 g' o' e
                  · cases e
                    omega
            · have hj1 : ¬ (j : Int) < (K : Int) := by omega
              have HE : Hid (ps.take j = ps) := hid (List.take_of_length_le (by rw [← HKK.out]; omega))
              rw [HE.out] at HHX
              rw [HE.out]
              go_wp2_with fail
              go_roundg (m - (i2 + 1))
              case measure => omega
              case rel => exact ⟨i2 + 1, a3, k3, addL L ps, rfl, rfl, by go_num, HHX.out, HSTP.out⟩
        · have hi1' : ¬ (i2 : Int) < (L.length : Int) := by omega
          have HEND : Hid (Hg H A M L L.length) := hid (by have e : i2 = L.length := by omega
                                                           rw [← e]; exact HHG.out)
          have HND := hid HHG.out.nodup
          have HAL := hid (HEND.out.all HA2.out HA3.out HA5.out)
          have HLC : Hid (∀ j (h : j < L.length), ∃ g, a2 = some ⟨g, 0, none⟩ ∧ ∀ W, Below wr.heap.size wr W → W.cell? ⟨g, j, none⟩ = some (St L[j])) := hid (fun j h => by
            obtain ⟨g, kc', hv, _, hg2, hcs⟩ := row_cells HHW.out.row (by omega)
            cases hv
            exact ⟨g, rfl, fun W hb => (hb.cell (p := ⟨g, j, none⟩) hg2).trans (hcs j h)⟩)
          have HBW : Hid (Below w.heap.size w wr) := hid (below_two HB1.out (below_low HHW.out.bel HB1.out.size))
          clear hil hi2 hi1 HHG HEND HHW
          obtain ⟨n, hn⟩ : ∃ n, n = L.length := ⟨_, rfl⟩
          have HN := hid hn
          rw [← hn] at hi1' hLb ⊢
          clear hn
          obtain ⟨w3, rfl⟩ : ∃ w3, w3 = wr := ⟨_, rfl⟩
          go_wp2_with fail
          go_loopg [9, 10, 11, 12] n (fun gg s9 s10 _s11 _s12 wr => ∃ (i : Nat) (a9 : Option Addr) (k9 : Nat) (out : List Bs), i ≤ n ∧ gg = n - i ∧ s9 = .slice a9 out.length k9 ∧ s10 = .int .i64 (i : Int) ∧ Hw w3 (.slice a9 out.length k9) out wr ∧ out.Perm (L.take i) ∧ out.Pairwise (· ≤ ·))
          case atStart => exact ⟨0, none, 0, [], by omega, by omega, rfl, rfl, ⟨World.ownsRow_nil _ _ _ _, Below.refl _ _⟩, by simp, List.Pairwise.nil⟩
          case round =>
            obtain ⟨i3, a9, k9, out, hi3, rfl, rfl, rfl, hhw, hpm, hps⟩ := hrel
            have HHX := hid hhw
            have HPM := hid hpm
            have HPS := hid hps
            have hol : out.length = i3 := by
              have := hpm.length_eq
              rw [List.length_take] at this
              have := HN.out
              omega
            have HOL := hid hol
            have HOB : Hid (out.length ≤ 999999) := hid (by omega)
            clear hhw hpm hps hol
            by_cases hil : i3 < n
            · have hi3' : (i3 : Int) < (n : Int) := by omega
              have hik : i3 < L.length := by rw [← HN.out]; exact hil
              obtain ⟨g, hao, hce⟩ := HLC.out i3 hik
              subst hao
              have HCE := hid hce
              have HST : Hid (L.take (i3 + 1) = L.take i3 ++ [L[i3]]) := hid (List.take_succ_eq_append_getElem hik)
              clear hce
              generalize L[i3] = x at HCE HST
              go_wp2_with fail
              go_loopg [11] out.length (fun gg s11 wr => ∃ (k : Nat), k ≤ out.length ∧ gg = out.length - k ∧ s11 = .int .i64 (k : Int) ∧ Hw w3 (.slice a9 out.length k9) out wr ∧ ∀ j (h : j < out.length), j < k → out[j] ≤ x)
              case atStart => exact ⟨0, by omega, by omega, rfl, HHX.out, fun j _ h => by omega⟩
              case round =>
                clear HHX
                obtain ⟨k, hk, rfl, rfl, hhw, hbl⟩ := hrel
                have HHX := hid hhw
                have HBL := hid hbl
                clear hhw hbl
                have hcx := HCE.out wr HHX.out.bel
                have hob := HOB.out
                by_cases hkl : k < out.length
                · have hk1 : (k : Int) < (out.length : Int) := by omega
                  obtain ⟨g9, o9, ha9, hg9, hc9⟩ := (own_texts HHX.out.row).cells k hkl
                  subst ha9
                  by_cases hlt : out[k] < x
                  · have HLT := hid hlt
                    have hbt : Op.bytesLess out[k] x = true := by rw [Go.Proofs.bytesLess_eq]; exact decide_eq_true hlt
                    clear hlt
                    go_wp2_with fail
                    go_quiet (fail)
                    go_wp2_with fail
                    go_roundg (out.length - (k + 1))
                    case measure => omega
                    case rel => exact ⟨k + 1, by omega, rfl, by go_num, HHX.out.below (below_drewN (Below.refl _ _) _), fun j h hj => by
                      by_cases e : j = k
                      · subst e; exact List.le_of_lt HLT.out
                      · exact HBL.out j h (by omega)⟩
                  · have HINS : Hid (Ins out x k) := hid ⟨by omega, HBL.out, fun _ => List.not_lt.1 hlt⟩
                    have hbt : Op.bytesLess out[k] x = false := by rw [Go.Proofs.bytesLess_eq]; exact decide_eq_false hlt
                    clear hlt
                    go_wp2_with fail
                    go_quiet (fail)
                    generalize hW : World.drewN wr _ = W
                    have hbW : Below wr.heap.size wr W := by rw [← hW]; exact below_drewN (Below.refl _ _) _
                    have HHY := hid (HHX.out.below hbW)
                    clear hW hbW
                    obtain ⟨a1, c1, w6, a2, c2, w7, a0, c0, a3, c3, w8, hs1, hr1, hr2, hs2, hr3, hb6, ho8, hb8⟩ := ins_run W w3.heap.size HHY.out.bel.size (some ⟨g9, o9, none⟩) k9 out x k HHY.out.row HINS.out.le HOB.out
                    have HR1 := hid hr1
                    have HR2 := hid hr2
                    have HR3 := hid hr3
                    have hc6 := HCE.out w6 (below_two HHY.out.bel (below_low hb6 HHY.out.bel.size))
                    have HLN : Hid ((out.take k ++ x :: out.drop k).length = out.length + 1) := hid (by have := HINS.out.le; simp; omega)
                    have H8 : Hid (Hw w3 (.slice a3 (out.length + 1) c3) (out.take k ++ x :: out.drop k) w8) := hid ⟨by rw [HLN.out]; exact ho8, below_two HHY.out.bel (below_low hb8 HHY.out.bel.size)⟩
                    clear hr1 hr2 hr3 hb6 ho8 hb8
                    go_wp2_with (first | (at_builtin; refine wpList_append_run rfl (.tmp 90) (.tmp 93) 22 rfl (.slice none 0 0) (.slice (some ⟨g9, o9, none⟩) k k9) (.slice a1 k c1) w6 rfl rfl HR1.out ?_) | (at_builtin; refine wpList_append_run rfl (.tmp 95) (.tmp 100) 22 rfl (.slice a1 k c1) (.slice (some ⟨w6.heap.size, 0, none⟩) 1 1) (.slice a2 (k + 1) c2) w7 rfl rfl HR2.out ?_) | (at_builtin; refine wpList_append_run rfl (.tmp 102) (.tmp 105) 22 rfl (.slice a2 (k + 1) c2) (.slice a0 (out.length - k) c0) (.slice a3 (out.length + 1) c3) w8 rfl rfl HR3.out ?_))
                    go_roundg (n - (i3 + 1))
                    case measure => omega
                    case rel =>
                      refine ⟨i3 + 1, a3, c3, out.take k ++ x :: out.drop k, by omega, rfl, by rw [HLN.out], by go_num, by rw [HLN.out]; exact H8.out, ?_, ins_sorted HINS.out HPS.out⟩
                      rw [HST.out]
                      exact (ins_perm out x k).trans ((HPM.out.cons x).trans (List.perm_append_singleton x _).symm)
                · have hk1 : ¬ (k : Int) < (out.length : Int) := by omega
                  have HINS : Hid (Ins out x k) := hid ⟨by omega, HBL.out, fun h => absurd h hkl⟩
                  go_wp2_with fail
                  go_quiet (fail)
                  generalize hW : World.drewN wr _ = W
                  have hbW : Below wr.heap.size wr W := by rw [← hW]; exact below_drewN (Below.refl _ _) _
                  have HHY := hid (HHX.out.below hbW)
                  clear hW hbW
                  obtain ⟨a1, c1, w6, a2, c2, w7, a0, c0, a3, c3, w8, hs1, hr1, hr2, hs2, hr3, hb6, ho8, hb8⟩ := ins_run W w3.heap.size HHY.out.bel.size a9 k9 out x k HHY.out.row HINS.out.le HOB.out
                  have HR1 := hid hr1
                  have HR2 := hid hr2
                  have HR3 := hid hr3
                  have hc6 := HCE.out w6 (below_two HHY.out.bel (below_low hb6 HHY.out.bel.size))
                  have HLN : Hid ((out.take k ++ x :: out.drop k).length = out.length + 1) := hid (by have := HINS.out.le; simp; omega)
                  have H8 : Hid (Hw w3 (.slice a3 (out.length + 1) c3) (out.take k ++ x :: out.drop k) w8) := hid ⟨by rw [HLN.out]; exact ho8, below_two HHY.out.bel (below_low hb8 HHY.out.bel.size)⟩
                  clear hr1 hr2 hr3 hb6 ho8 hb8
                  go_wp2_with (first | (at_builtin; refine wpList_append_run rfl (.tmp 90) (.tmp 93) 22 rfl (.slice none 0 0) (.slice a9 k k9) (.slice a1 k c1) w6 rfl rfl HR1.out ?_) | (at_builtin; refine wpList_append_run rfl (.tmp 95) (.tmp 100) 22 rfl (.slice a1 k c1) (.slice (some ⟨w6.heap.size, 0, none⟩) 1 1) (.slice a2 (k + 1) c2) w7 rfl rfl HR2.out ?_) | (at_builtin; refine wpList_append_run rfl (.tmp 102) (.tmp 105) 22 rfl (.slice a2 (k + 1) c2) (.slice a0 (out.length - k) c0) (.slice a3 (out.length + 1) c3) w8 rfl rfl HR3.out ?_))
                  go_roundg (n - (i3 + 1))
                  case measure => omega
                  case rel =>
                    refine ⟨i3 + 1, a3, c3, out.take k ++ x :: out.drop k, by omega, rfl, by rw [HLN.out], by go_num, by rw [HLN.out]; exact H8.out, ?_, ins_sorted HINS.out HPS.out⟩
                    rw [HST.out]
                    exact (ins_perm out x k).trans ((HPM.out.cons x).trans (List.perm_append_singleton x _).symm)
            · have hi3' : ¬ (i3 : Int) < (n : Int) := by omega
              go_wp2_with fail
              go_ret
              refine ⟨a9, k9, L, out, rfl, own_texts HHX.out.row, HND.out, HAL.out, ?_, HPS.out, below_two HBW.out (below_low HHX.out.bel HBW.out.size)⟩
              have h := HPM.out
              rw [List.take_of_length_le (by have := HN.out; omega)] at h
              exact h
end Go.Proofs.YtfnnhekjeobicaaGreatDoor

/- sluicewaykit.SameTerms. -/
namespace Go.Proofs.YtfnnhekjeobicaaGreatDoor
open Go.RowKit Go.Maps Go.WideElems

set_option maxRecDepth 100000 in
set_option maxHeartbeats 2000000 in
theorem sameT_any (w : World) (a1 a2 : Option Addr) (c1 c2 : Nat) (A B : List Bs) (hA : Texts w (.slice a1 A.length c1) A) (hB : Texts w (.slice a2 B.length c2) B) (hl : A.length ≤ 100000000) (hl2 : B.length ≤ 100000000) :
    Calls Tryz.prog 47 #[.slice a1 A.length c1, .slice a2 B.length c2] w fun e w' => e = .returned (.bool (decide (A = B))) ∧ Below w.heap.size w w' := by
  have HA : Hid (∀ wr, Below w.heap.size w wr → ∀ i (h : i < A.length), ∃ g o, a1 = some ⟨g, o, none⟩ ∧ g < wr.heap.size ∧ wr.cell? ⟨g, o + i, none⟩ = some (St A[i])) := hid (fun wr hb i h => (texts_below hA hb).cells i h)
  have HB : Hid (∀ wr, Below w.heap.size w wr → ∀ i (h : i < B.length), ∃ g o, a2 = some ⟨g, o, none⟩ ∧ g < wr.heap.size ∧ wr.cell? ⟨g, o + i, none⟩ = some (St B[i])) := hid (fun wr hb i h => (texts_below hB hb).cells i h)
  obtain ⟨q, hq⟩ : ∃ q, q = A.length := ⟨_, rfl⟩
  obtain ⟨m, hm⟩ : ∃ m, m = B.length := ⟨_, rfl⟩
  have HQ := hid hq
  have HM := hid hm
  rw [← hq, ← hm]
  rw [← hq] at hl
  rw [← hm] at hl2
  clear hA hB hq hm
  by_cases hqm : q = m
  · subst hqm
    go_enter Tryz.func47, Tryz.ntmps47
    go_wp2_with fail
    go_loopg [5] q (fun gg v wr => ∃ i : Nat, i ≤ q ∧ gg = q - i ∧ v = .int .i64 (i : Int) ∧ Below w.heap.size w wr ∧ ∀ j (h : j < A.length) (h2 : j < B.length), j < i → A[j] = B[j])
    case atStart => exact ⟨0, by omega, by omega, rfl, Below.refl _ _, fun j _ _ h => by omega⟩
    case round =>
      obtain ⟨i, hi, rfl, rfl, hwr, hall⟩ := hrel
      have HW := hid hwr
      have HL := hid hall
      clear hall hwr
      by_cases hil : i < q
      · have hi1 : (i : Int) < (q : Int) := by omega
        have hia : i < A.length := by rw [← HQ.out]; exact hil
        have hib : i < B.length := by rw [← HM.out]; exact hil
        obtain ⟨g1, o1, e1, _, hc1⟩ := HA.out _ HW.out i hia
        obtain ⟨g2, o2, e2, _, hc2⟩ := HB.out _ HW.out i hib
        subst e1
        subst e2
        by_cases he : A[i] = B[i]
        · have HE := hid he
          rw [he] at hc1
          clear he
          go_wp2_with fail
          go_quiet (fail)
          go_wp2_with fail
          go_roundg (q - (i + 1))
          case measure => omega
          case rel => exact ⟨i + 1, by omega, rfl, by go_num, below_drewN HW.out _, fun j h h2 hj => by
            by_cases e : j = i
            · subst e; exact HE.out
            · exact HL.out j h h2 (by omega)⟩
        · have HNE : Hid (A ≠ B) := hid (fun e => he (by subst e; rfl))
          have hne : (A[i] == B[i]) = false := by simpa using he
          clear he
          go_wp2_with fail
          go_quiet (fail)
          go_wp2_with fail
          go_ret
          exact ⟨by rw [decide_eq_false HNE.out]; rfl, below_drewN HW.out _⟩
      · have hi1 : ¬ (i : Int) < (q : Int) := by omega
        have HEQ : Hid (A = B) := hid (List.ext_getElem (by have := HQ.out; have := HM.out; omega) (fun j h h2 => HL.out j h h2 (by have := HQ.out; omega)))
        go_wp2_with fail
        go_ret
        exact ⟨by rw [decide_eq_true HEQ.out]; rfl, HW.out⟩
  · have hqm1 : ¬ (q : Int) = (m : Int) := by omega
    have hqm2 : ((q : Int) == (m : Int)) = false := by simpa using hqm1
    have HNE : Hid (A ≠ B) := hid (fun e => hqm (by rw [HQ.out, HM.out, e]))
    go_enter Tryz.func47, Tryz.ntmps47
    go_wp2_with fail
    go_ret
    exact ⟨by rw [decide_eq_false HNE.out]; rfl, Below.refl _ _⟩
end Go.Proofs.YtfnnhekjeobicaaGreatDoor
