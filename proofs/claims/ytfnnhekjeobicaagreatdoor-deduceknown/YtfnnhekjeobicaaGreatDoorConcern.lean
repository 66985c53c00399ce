/- Whether a box concerns the news. -/
import Derived.Test.YtfnnhekjeobicaaGreatDoorCont
namespace Go.Proofs.YtfnnhekjeobicaaGreatDoor
open Go.RowKit Go.Maps Go.WideElems

/-- a public key's secret, else the term itself -/
def bare (x : Bs) : Bs := if x.head? = some 80 then x.tail else x
def concernF (l : List Bs) (box : Bs) : Bool := decide (16 < l.length) || l.any (fun x => Lib.contains box (bare x))

set_option maxRecDepth 100000 in
set_option maxHeartbeats 4000000 in
theorem concern_any (w : World) (v : Value) (l : List Bs) (h : w.ownsRow 0 29 1 v l.length (l.map St)) (hl : l.length < 100000000000) (hne : ∀ x ∈ l, x ≠ []) (box : Bs) (hb : box.length ≤ 100000) (m : Int) (hm : w.cell? ⟨1, 0, none⟩ = some (.int .i64 m)) :
    Calls Tryz.prog 56 #[v, St box] w fun e w' => e = .returned (.bool (concernF l box)) ∧ w' = w := by
  obtain ⟨ao, kc, hv⟩ := own_shape h
  subst hv
  have HRW := hid h
  have HNE := hid hne
  have HCT := hid (fun (x : Bs) => Tryz.strings_Contains ⟨box.toArray⟩ ⟨x.toArray⟩ m w (by show box.length < _; omega) hm)
  clear h hne hm hb
  by_cases h16 : 16 < l.length
  · have HE : Hid (concernF l box = true) := by apply hid; simp [concernF, h16]
    have h16' : (16 : Int) < (l.length : Int) := by omega
    generalize l.length = n at hl h16' ⊢
    clear h16
    go_enter Tryz.func56, Tryz.ntmps56
    go_wp2_with fail
    go_ret
    exact ⟨by rw [HE.out]; rfl, rfl⟩
  · have HE : Hid (concernF l box = l.any (fun x => Lib.contains box (bare x))) := by apply hid; simp [concernF, h16]
    obtain ⟨n, hn⟩ : ∃ n, n = l.length := ⟨_, rfl⟩
    have HN := hid hn
    have hn16 : n ≤ 16 := by omega
    rw [← hn]
    clear hn h16 hl
    go_enter Tryz.func56, Tryz.ntmps56
    go_wp2_with fail
    go_loop [12] (fun vi => ∃ i : Nat, i ≤ n ∧ vi = .int .i64 (i : Int) ∧ ∀ j (hj : j < l.length), j < i → Lib.contains box (bare l[j]) = false) (fun vi => n - (intOf vi).toNat)
    case atStart => exact ⟨0, by omega, rfl, fun j hj h => by omega⟩
    case round =>
      obtain ⟨i, hi, rfl, hall⟩ := hrel
      have HAL := hid hall
      clear hall
      by_cases hil : i < n
      · have hik : i < l.length := by rw [← HN.out]; exact hil
        obtain ⟨g, kc', hv, hg1, hg2, hcs⟩ := row_cells HRW.out (by omega)
        rw [← HN.out] at hv
        cases hv
        have hcell := hcs i hik
        have hxn := HNE.out l[i] (List.getElem_mem hik)
        have HX : Hid (l[i] = l[i]) := hid rfl
        generalize hxi : l[i] = x at hcell hxn
        have HXI := hid hxi
        obtain ⟨c, xs, hx⟩ : ∃ c xs, x = c :: xs := by cases x with | nil => exact absurd rfl hxn | cons c xs => exact ⟨c, xs, rfl⟩
        have hpos : 0 < (⟨x.toArray⟩ : ByteArray).size := by rw [st_size, hx]; simp
        have hidx : (⟨x.toArray⟩ : ByteArray)[0] = c := st_idx hx hpos
        have hxl : 0 < x.length := by rw [hx]; simp
        clear hcs hxi hxn HX
        have HBR : Hid (bare x = if c = 80 then xs else x) := by apply hid; rw [hx]; unfold bare; simp
        have HCB := hid (HCT.out (bare x))
        have hT : (⟨x.toArray⟩ : ByteArray).extract 1 (⟨x.toArray⟩ : ByteArray).size = ⟨xs.toArray⟩ := by rw [hx]; exact st_tail c xs
        have hcell' : w.cell? ⟨g, 0 + i, none⟩ = some (.string ⟨x.toArray⟩) := by rw [Nat.zero_add]; exact hcell
        clear hx hcell'
        by_cases hc : c = 80
        · rw [HBR.out, if_pos hc] at HCB
          have hc' : ((c.toNat : Int) == 80) = true := by rw [hc]; rfl
          have HBX : Hid (bare x = xs) := by apply hid; rw [HBR.out, if_pos hc]
          clear hc HBR
          change Hid (Calls Tryz.prog 77 #[.string ⟨box.toArray⟩, .string ⟨xs.toArray⟩] w fun e w' => e = .returned (.bool (Lib.contains box xs)) ∧ w' = w) at HCB
          unfold St at hcell
          generalize (⟨x.toArray⟩ : ByteArray) = X at hcell hpos hidx hT
          cases hct : Lib.contains box xs
          · rw [hct] at HCB
            go_wp2_with (first | (go_at_call 77; refine HCB.out.mono ?_; rintro e w' ⟨rfl, rfl⟩) | fail)
            go_round
            case rel =>
              refine ⟨i + 1, by omega, by go_num, fun j hj hji => ?_⟩
              by_cases e : j = i
              · subst e; rw [HXI.out, HBX.out, hct]
              · exact HAL.out j hj (by omega)
            case measure => simp [intOf]; omega
          · rw [hct] at HCB
            go_wp2_with (first | (go_at_call 77; refine HCB.out.mono ?_; rintro e w' ⟨rfl, rfl⟩) | fail)
            go_ret
            have e1 : l.any (fun x => Lib.contains box (bare x)) = true := by
              rw [List.any_eq_true]; exact ⟨l[i], List.getElem_mem hik, by rw [HXI.out, HBX.out, hct]⟩
            exact ⟨by rw [HE.out, e1]; rfl, rfl⟩
        · rw [HBR.out, if_neg hc] at HCB
          have hc' : ((c.toNat : Int) == 80) = false := by
            rw [beq_eq_false_iff_ne]; intro e; exact hc (UInt8.toNat_inj.1 (by show c.toNat = 80; omega))
          have HBX : Hid (bare x = x) := by apply hid; rw [HBR.out, if_neg hc]
          clear hc HBR hT
          change Hid (Calls Tryz.prog 77 #[.string ⟨box.toArray⟩, .string ⟨x.toArray⟩] w fun e w' => e = .returned (.bool (Lib.contains box x)) ∧ w' = w) at HCB
          unfold St at hcell
          generalize (⟨x.toArray⟩ : ByteArray) = X at hcell hpos hidx HCB
          cases hct : Lib.contains box x
          · rw [hct] at HCB
            go_wp2_with (first | (go_at_call 77; refine HCB.out.mono ?_; rintro e w' ⟨rfl, rfl⟩) | fail)
            go_round
            case rel =>
              refine ⟨i + 1, by omega, by go_num, fun j hj hji => ?_⟩
              by_cases e : j = i
              · subst e; rw [HXI.out, HBX.out, hct]
              · exact HAL.out j hj (by omega)
            case measure => simp [intOf]; omega
          · rw [hct] at HCB
            go_wp2_with (first | (go_at_call 77; refine HCB.out.mono ?_; rintro e w' ⟨rfl, rfl⟩) | fail)
            go_ret
            have e1 : l.any (fun x => Lib.contains box (bare x)) = true := by
              rw [List.any_eq_true]; exact ⟨l[i], List.getElem_mem hik, by rw [HXI.out, HBX.out, hct]⟩
            exact ⟨by rw [HE.out, e1]; rfl, rfl⟩
      · go_wp2_with fail
        go_ret
        have e1 : l.any (fun x => Lib.contains box (bare x)) = false := by
          rw [List.any_eq_false]; intro k hk; obtain ⟨j, hj, rfl⟩ := List.getElem_of_mem hk; simp [HAL.out j hj (by have := HN.out; omega)]
        exact ⟨by rw [HE.out, e1]; rfl, rfl⟩
end Go.Proofs.YtfnnhekjeobicaaGreatDoor
