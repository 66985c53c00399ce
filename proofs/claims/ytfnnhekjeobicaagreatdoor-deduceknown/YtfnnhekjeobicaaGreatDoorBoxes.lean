/- Which of the news are shut boxes. -/
import Derived.Test.YtfnnhekjeobicaaGreatDoorTakeAll
namespace Go.Proofs.YtfnnhekjeobicaaGreatDoor
open Go.RowKit Go.Maps Go.WideElems

def boxesF (N : NM) (l : List Bs) : List Bs := l.filter (fun t => (nget N t).key != [])
theorem boxesF_snoc (N : NM) (l : List Bs) (t : Bs) : boxesF N (l ++ [t]) = boxesF N l ++ (if (nget N t).key = [] then [] else [t]) := by
  unfold boxesF; by_cases h : (nget N t).key = [] <;> simp [h]
theorem boxesF_le (N : NM) (l : List Bs) : (boxesF N l).length ≤ l.length := List.length_filter_le _ _

set_option maxRecDepth 100000 in
set_option maxHeartbeats 4000000 in
theorem boxes_any (w : World) (p b : Nat) (N : NM) (v : Value) (l : List Bs) (h : Mn w p b N v l) (hl : l.length < 100000000000) (hs : ∀ t ∈ l, t.length ≤ 100000) :
    Calls Tryz.prog 55 #[.pointer (some ⟨p, 0, none⟩), v] w fun e w' => ∃ ao kc, e = .returned (.slice ao (boxesF N l).length kc) ∧ w'.ownsRow w.heap.size 29 1 (.slice ao (boxesF N l).length kc) (boxesF N l).length ((boxesF N l).map St) ∧ Below w.heap.size w w' := by
  obtain ⟨ao, kc, hv⟩ := own_shape h.row
  subst hv
  have HM := hid h
  have HLL := hid hl
  have HSL := hid hs
  clear h hs
  obtain ⟨m, hm⟩ : ∃ m, m = l.length := ⟨_, rfl⟩
  have HML := hid hm
  rw [← hm] at hl ⊢
  clear hm
  go_enter Tryz.func55, Tryz.ntmps55
  go_wp2_with fail
  go_loopg [5, 10] m (fun gg vl vi wr => ∃ (i : Nat) (ao' : Option Addr) (kc' : Nat), i ≤ m ∧ gg = m - i ∧ vi = .int .i64 (i : Int) ∧ vl = .slice ao' (boxesF N (l.take i)).length kc' ∧ wr.ownsRow w.heap.size 29 1 (.slice ao' (boxesF N (l.take i)).length kc') (boxesF N (l.take i)).length ((boxesF N (l.take i)).map St) ∧ Below w.heap.size w wr)
  case atStart => exact ⟨0, none, 0, by omega, by omega, rfl, rfl, World.ownsRow_nil _ _ _ _, Below.refl _ _⟩
  case round =>
    obtain ⟨i, ao1, kc1, hi, rfl, rfl, rfl, hown, hbel⟩ := hrel
    have HOW := hid hown
    have HBE := hid hbel
    clear hown hbel
    by_cases hil : i < m
    · have hik : i < l.length := by rw [← HML.out]; exact hil
      have hrow := HM.out.row
      obtain ⟨g, kc', hv, hg1, hg2, hcs⟩ := row_cells hrow (by omega)
      rw [← HML.out] at hv
      cases hv
      have hcell := (HBE.out.cell (p := ⟨g, i, none⟩) hg2).trans (hcs i hik)
      have HTS : Hid (l.take (i + 1) = l.take i ++ [l[i]]) := hid (List.take_succ_eq_append_getElem hik)
      have HBX := hid (boxesF_snoc N (l.take i) l[i])
      have hkl := HSL.out l[i] (List.getElem_mem hik)
      have HMW := hid (HM.out.md.below HBE.out)
      have HBL : Hid ((boxesF N (l.take i)).length < 100000000000) := by apply hid; have h1 := boxesF_le N (l.take i); have h2 := HLL.out; simp at h1; omega
      generalize l[i] = t at hcell HTS HBX hkl
      have hmp := HMW.out.rm.cell
      have hlk := HMW.out.rm.one t hkl
      generalize nget N t = nt at hlk HBX
      clear hrow hcs hkl
      obtain ⟨nh, nd, nk⟩ := nt
      simp only at HBX
      have hfd : ∀ W, Sem.run Tryz.prog (Instr.field 51 (.agg #[.bool nh, .bool nd, .string ⟨nk.toArray⟩]) 2) W = .ok (.string ⟨nk.toArray⟩) W := fun _ => rfl
      by_cases hk : nk = []
      · subst hk
        go_wp2_with go_in
        go_roundg (m - (i + 1))
        case measure => omega
        case rel =>
          refine ⟨i + 1, ao1, kc1, by omega, rfl, by go_num, ?_, ?_, HBE.out⟩
          · rw [HTS.out, HBX.out]; simp
          · rw [HTS.out, HBX.out]; simpa using HOW.out
      · have hne : (nk == []) = false := by simpa using hk
        have hne2 : nk.isEmpty = false := by simpa using hk
        have HKN := hid hk
        obtain ⟨ao2, kc2, w2, hrun, hown2, hg2'⟩ := append_text wr w.heap.size (.slice ao1 (boxesF N (l.take i)).length kc1) (boxesF N (l.take i)) t HOW.out (by have := HBL.out; omega) HBE.out.size
        have HRUN := hid hrun
        have HO2 := hid hown2
        have HB2 : Hid (Below w.heap.size w w2) := hid ⟨hg2'.os.trans HBE.out.os, hg2'.tape.trans HBE.out.tape, hg2'.output.trans HBE.out.output, Nat.le_trans HBE.out.size hg2'.size, fun k hk => (hg2'.block k (Nat.lt_of_lt_of_le hk HBE.out.size) (fun e => by have := (own_ge HOW.out e.symm).1; omega)).trans (HBE.out.block k hk)⟩
        clear hrun hown2 hg2' hk
        go_wp2_with (first | (at_builtin; refine wpList_append_run rfl (.tmp 22) (.tmp 24) 22 rfl (.slice ao1 (boxesF N (l.take i)).length kc1) (.slice (some ⟨wr.heap.size, 0, none⟩) 1 1) (.slice ao2 ((boxesF N (l.take i)).length + 1) kc2) w2 rfl rfl HRUN.out ?_) | go_in)
        go_roundg (m - (i + 1))
        case measure => omega
        case rel =>
          refine ⟨i + 1, ao2, kc2, by omega, rfl, by go_num, ?_, ?_, HB2.out⟩
          · rw [HTS.out, HBX.out, if_neg HKN.out, List.length_append]; rfl
          · rw [HTS.out, HBX.out, if_neg HKN.out, List.length_append]; simpa using HO2.out
    · obtain rfl : i = m := by omega
      go_wp2_with fail
      go_ret
      have e : l.take i = l := List.take_of_length_le (by rw [← HML.out]; exact Nat.le_refl _)
      have ho := HOW.out
      rw [e] at ho ⊢
      exact ⟨_, _, rfl, ho, HBE.out⟩
end Go.Proofs.YtfnnhekjeobicaaGreatDoor
