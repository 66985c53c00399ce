/- Whether a name stands in a term. -/
import Derived.Test.YtfnnhekjeobicaaGreatDoorSmallL
namespace Go.Proofs.YtfnnhekjeobicaaGreatDoor
open Go.RowKit

/-- the parts of a right term, none of a wrong one -/
def kidsR (t : Bs) : List Bs := if Tm.deep t = 0 then [] else Tm.kidsOf 63 t
def standsF (x : Bs) : Nat → Bs → Bool
  | 0, t => t == x
  | n + 1, t => t == x || (kidsR t).any (standsF x n)
theorem kopen_any (t : Bs) (w : World) : Calls Tryz.prog 44 #[St t] w fun en w' => ∃ c tn tx kids ok, en = .returned (.tuple #[.agg #[.int .u8 c, .int .i64 tn, .string tx, kids], .bool ok]) ∧
    w'.ownsRow w.heap.size 29 1 kids (kidsR t).length ((kidsR t).map St) ∧ Below w.heap.size w w' := by
  unfold kidsR
  by_cases hd : Tm.deep t = 0
  · rw [if_pos hd]
    refine (open_no t w hd).mono ?_
    rintro e w1 ⟨rfl, hb⟩
    exact ⟨_, _, _, _, _, rfl, World.ownsRow_nil _ _ _ _, hb⟩
  · rw [if_neg hd]
    match t, hd with
    | [], hd => exact absurd rfl hd
    | c :: l, hd =>
      refine (open_yes c l w hd).mono ?_
      rintro e w1 ⟨kids, rfl, hr, hb⟩
      exact ⟨_, _, _, _, _, rfl, hr, hb⟩
def StC (n : Nat) : Prop := ∀ (w : World) (t x : Bs), Tm.deep t ≤ n → Calls Tryz.prog 15 #[St t, St x] w fun e w' => e = .returned (.bool (standsF x n t)) ∧ Below w.heap.size w w'
theorem kidsR_right {t k : Bs} (h : k ∈ kidsR t) : Tm.deep k < Tm.deep t := by
  unfold kidsR at h
  split at h
  · cases h
  · rename_i hd; exact (Tm.kids_right hd h).2.1
theorem kidsR_count (t : Bs) : (kidsR t).length ≤ 32 := by
  unfold kidsR
  split
  · simp
  · rename_i hd; exact Tm.kids_count hd

set_option maxRecDepth 100000 in
set_option maxHeartbeats 2000000 in
theorem stands_step {n : Nat} (w : World) (t x : Bs) (hS : ∀ (W : World) (k : Bs), k ∈ kidsR t → Calls Tryz.prog 15 #[St k, St x] W fun e w' => e = .returned (.bool (standsF x n k)) ∧ Below W.heap.size W w') :
    Calls Tryz.prog 15 #[St t, St x] w fun e w' => e = .returned (.bool (standsF x (n + 1) t)) ∧ Below w.heap.size w w' := by
  have HO := hid (fun W => kopen_any t W)
  have HKC := hid (kidsR_count t)
  have HA : Hid (∀ (W : World) (i : Nat) (hi : i < (kidsR t).length), Calls Tryz.prog 15 #[St (kidsR t)[i], St x] W fun e w' => e = .returned (.bool (standsF x n (kidsR t)[i])) ∧ Below W.heap.size W w') := hid (fun W i hi => hS W _ (List.getElem_mem hi))
  have HER : Hid (standsF x (n + 1) t = (t == x || (kidsR t).any (standsF x n))) := hid rfl
  clear hS
  generalize hks : kidsR t = ks at HO HKC HA HER
  clear hks
  go_enter Tryz.func15, Tryz.ntmps15
  go_wp2_with fail
  refine (HO.out _).mono ?_
  rintro e w1 ⟨c, tn, tx, kids, ok, rfl, hown, hb1⟩
  have HOW := hid hown
  have HB1 := hid hb1
  obtain ⟨ao, kc, rfl⟩ := own_shape hown
  clear hb1 hown HO
  by_cases htx : t = x
  · subst htx
    go_wp2_with fail
    go_ret
    exact ⟨by rw [HER.out]; simp, HB1.out.alloc HB1.out.size _⟩
  · have hne : (t == x) = false := by simpa using htx
    have HNE := hid hne
    go_wp2_with fail
    have HWX : Hid (Below w.heap.size w (w1.alloc (.cells #[.int .u8 c, .int .i64 tn, .string tx, .slice ao ks.length kc] 66))) := hid (HB1.out.alloc HB1.out.size _)
    have HOX := hid (HOW.out.alloc (.cells #[.int .u8 c, .int .i64 tn, .string tx, .slice ao ks.length kc] 66))
    have HCX : Hid (∀ W, Below (w1.heap.size + 1) (w1.alloc (.cells #[.int .u8 c, .int .i64 tn, .string tx, .slice ao ks.length kc] 66)) W → W.cell? ⟨w1.heap.size, 3, none⟩ = some (.slice ao ks.length kc)) := hid (fun W hb => by
      rw [cell_of_heap ((hb.block w1.heap.size (by omega)).trans (heap_alloc_new w1 _)) 3]; rfl)
    have HSX : Hid ((w1.alloc (.cells #[.int .u8 c, .int .i64 tn, .string tx, .slice ao ks.length kc] 66)).heap.size = w1.heap.size + 1) := by apply hid; simp
    generalize w1.alloc (.cells #[.int .u8 c, .int .i64 tn, .string tx, .slice ao ks.length kc] 66) = wX at HWX HOX HCX HSX ⊢
    clear HOW HB1
    obtain ⟨m, hm⟩ : ∃ m, m = ks.length := ⟨_, rfl⟩
    rw [← hm] at HCX ⊢
    have HML := hid hm
    have hmb : m ≤ 100000 := by have := HKC.out; omega
    clear hm
    go_loopg [7] m (fun gg v wr => ∃ i : Nat, i ≤ m ∧ gg = m - i ∧ v = .int .i64 (i : Int) ∧ Below wX.heap.size wX wr ∧ ∀ j (hj : j < ks.length), j < i → standsF x n ks[j] = false)
    case atStart => exact ⟨0, by omega, by omega, rfl, Below.refl _ _, fun j hj h => by omega⟩
    case round =>
      obtain ⟨i, hi, rfl, rfl, hbel, hall⟩ := hrel
      have HBE := hid hbel
      have HAL := hid hall
      have hpc := HCX.out wr (by rw [← HSX.out]; exact hbel)
      clear hbel hall
      by_cases hil : i < m
      · have hik : i < ks.length := by rw [← HML.out]; exact hil
        obtain ⟨g, kc', hv, hg1, hg2, hcs⟩ := row_cells HOX.out (by omega)
        cases hv
        have hcell := (HBE.out.cell (p := ⟨g, i, none⟩) hg2).trans (hcs i hik)
        have HCI := hid (HA.out wr i hik)
        generalize hki : ks[i] = ki at hcell HCI
        have HKI := hid hki
        clear hcs hki
        cases hmk : standsF x n ki
        · rw [hmk] at HCI
          go_wp2_with fail
          refine HCI.out.mono ?_
          rintro e w2 ⟨rfl, hb2⟩
          have HB2 := hid (two_below HBE.out hb2)
          clear hb2
          go_wp2_with fail
          go_roundg (m - (i + 1))
          case measure => omega
          case rel =>
            refine ⟨i + 1, by omega, rfl, by go_num, HB2.out, fun j hj hji => ?_⟩
            by_cases e : j = i
            · subst e; rw [HKI.out, hmk]
            · exact HAL.out j hj (by omega)
        · rw [hmk] at HCI
          go_wp2_with fail
          refine HCI.out.mono ?_
          rintro e w2 ⟨rfl, hb2⟩
          have HB2 := hid (two_below HBE.out hb2)
          clear hb2
          go_wp2_with fail
          go_ret
          refine ⟨?_, two_below HWX.out HB2.out⟩
          have e1 : ks.any (standsF x n) = true := by
            rw [List.any_eq_true]; exact ⟨ks[i], List.getElem_mem hik, by rw [HKI.out, hmk]⟩
          rw [HER.out, HNE.out, e1]; rfl
      · go_wp2_with fail
        go_ret
        refine ⟨?_, two_below HWX.out HBE.out⟩
        have e1 : ks.any (standsF x n) = false := by
          rw [List.any_eq_false]; intro k hk; obtain ⟨j, hj, rfl⟩ := List.getElem_of_mem hk; rw [HAL.out j hj (by have := HML.out; omega)]; simp
        rw [HER.out, HNE.out, e1]; rfl
theorem stands_all : ∀ n, StC n
  | 0 => fun w t x hd => by
    have hk : kidsR t = [] := by unfold kidsR; rw [if_pos (by omega)]
    have := stands_step (n := 0) w t x (fun W k h => by rw [hk] at h; cases h)
    have e : standsF x (0 + 1) t = standsF x 0 t := by simp [standsF, hk]
    rw [e] at this
    exact this
  | n + 1 => fun w t x hd => stands_step w t x (fun W k h => stands_all n W k x (by have := kidsR_right h; omega))
/-- what that answer means -/
theorem stands_iff {x : Bs} : ∀ (n : Nat) (t : Bs), Tm.deep t ≠ 0 → Tm.deep t ≤ n → (standsF x n t = true ↔ Stands x t)
  | 0, t, h, h0 => absurd (Nat.le_zero.1 h0) h
  | n + 1, t, h, hn => by
    have hk : kidsR t = Tm.kidsOf 63 t := by unfold kidsR; rw [if_neg h]
    have hik : ∀ k ∈ Tm.kidsOf 63 t, (standsF x n k = true ↔ Stands x k) := fun k hk => by
      have := Tm.kids_right h hk
      exact stands_iff n k this.1 (by omega)
    rw [standsF, hk, Bool.or_eq_true, List.any_eq_true]
    constructor
    · rintro (a | ⟨k, hk, a⟩)
      · rw [show t = x by simpa using a]; exact .here
      · exact .kid hk ((hik k hk).1 a)
    · intro a
      cases a with
      | here => left; simp
      | kid hk a => exact Or.inr ⟨_, hk, (hik _ hk).2 a⟩
end Go.Proofs.YtfnnhekjeobicaaGreatDoor
