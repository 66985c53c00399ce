/- Scanning: a letter, a number, bytes. -/
import Derived.Test.YtdllpklecdmghaaDoorScM
import Derived.Test.YtdllpklecdmghaaDoorAskAll
import Derived.Test.YtdllpklecdmghaaDoorFmt
namespace Go.Proofs.YtdllpklecdmghaaDoor
open Go.RowKit

theorem ex_text (x : Bs) (i j : Nat) : (⟨x.toArray⟩ : ByteArray).extract i j = ⟨((x.drop i).take (j - i)).toArray⟩ := by
  rw [extract_eq]
theorem ex_drop (x : Bs) (i : Nat) : (⟨x.toArray⟩ : ByteArray).extract i x.length = ⟨(x.drop i).toArray⟩ := by
  rw [ex_text, List.take_of_length_le (by rw [List.length_drop]; omega)]
theorem ex_take (x : Bs) (j : Nat) : (⟨x.toArray⟩ : ByteArray).extract 0 j = ⟨(x.take j).toArray⟩ := by
  rw [ex_text, List.drop_zero, Nat.sub_zero]
theorem letter_nil (tb : Nat) (w : World) (h : w.cell? ⟨tb, 0, none⟩ = some (St [])) : Calls Tryd.prog 34 #[.pointer (some ⟨tb, 0, none⟩)] w fun e w' => e = .returned (.int .u8 0) ∧ w' = w := by
  go_enter Tryd.func34, Tryd.ntmps34
  go_wp2_with fail
  go_ret
  exact ⟨rfl, rfl⟩
set_option maxHeartbeats 4000000 in
theorem letter_cons (tb : Nat) (c : UInt8) (r : Bs) (w : World) (h : w.cell? ⟨tb, 0, none⟩ = some (St (c :: r))) (hf : w.frozen? ⟨tb, 0, none⟩ = false) : Calls Tryd.prog 34 #[.pointer (some ⟨tb, 0, none⟩)] w fun e w' => e = .returned (.int .u8 (c.toNat : Int)) ∧ w' = w.setCell ⟨tb, 0, none⟩ (St r) := by
  obtain ⟨l, hl⟩ : ∃ l, l = c :: r := ⟨_, rfl⟩
  rw [← hl] at h
  have hsz : 0 < (⟨l.toArray⟩ : ByteArray).size := by rw [st_size, hl]; simp
  have hix := st_idx hl hsz
  have hne : (l == []) = false := by rw [hl]; rfl
  have hem : List.isEmpty l = false := by rw [hl]; rfl
  have htl : (⟨l.toArray⟩ : ByteArray).extract 1 l.length = ⟨r.toArray⟩ := by rw [ex_drop, hl]; rfl
  have HL := hid hl
  clear hl
  go_enter Tryd.func34, Tryd.ntmps34
  go_wp2_with fail
  go_ret
  exact ⟨rfl, rfl⟩
theorem st_at {s : Bs} {i : Nat} (hi : i < s.length) (h2 : i < (⟨s.toArray⟩ : ByteArray).size) : (⟨s.toArray⟩ : ByteArray)[i] = s[i]'hi := by
  show s.toArray[i]'h2 = s[i]
  simp
/-- what Number tells and leaves -/
def NmE (w : World) (tb : Nat) (r : Option (Nat × Bs)) (e : Ending) (w' : World) : Prop := match r with
  | none => e = .returned (.int .i64 (-1)) ∧ w' = w
  | some (n, x) => e = .returned (.int .i64 (n : Int)) ∧ w' = w.setCell ⟨tb, 0, none⟩ (St x)
theorem NmE.no {w : World} {tb : Nat} {r : Option (Nat × Bs)} (h : r = none) : NmE w tb r (.returned (.int .i64 (-1))) w := by subst h; exact ⟨rfl, rfl⟩
theorem NmE.yes {w : World} {tb n : Nat} {x : Bs} {r : Option (Nat × Bs)} (h : r = some (n, x)) : NmE w tb r (.returned (.int .i64 (n : Int))) (w.setCell ⟨tb, 0, none⟩ (St x)) := by subst h; exact ⟨rfl, rfl⟩
theorem wrap_small {x : Int} (h0 : -9223372036854775808 ≤ x) (h1 : x ≤ 9223372036854775807) : wrap64 x = x := by unfold wrap64; omega
theorem wrap_nat {x : Int} {k : Nat} (h : x = (k : Int)) (h1 : k ≤ 9223372036854775807) : wrap64 x = (k : Int) := by rw [h]; exact wrap_small (by omega) (by omega)
theorem nmA {most n dd : Nat} (hm : most ≤ 9223372036854775807) (h1 : ¬ most / 10 < n) (hd : dd ≤ 9) : wrap64 (10 * (n : Int)) = 10 * (n : Int) ∧ wrap64 (dd : Int) = (dd : Int) ∧ wrap64 ((most : Int) - 10 * (n : Int)) = ((most - 10 * n : Nat) : Int) :=
  ⟨wrap_small (by omega) (by omega), wrap_small (by omega) (by omega), wrap_nat (by omega) (by omega)⟩
theorem nmB {most n dd : Nat} (hm : most ≤ 9223372036854775807) (h2 : ¬ most < 10 * n + dd) : wrap64 (10 * (n : Int) + (dd : Int)) = ((10 * n + dd : Nat) : Int) := wrap_nat (by omega) (by omega)
theorem nmC {i L : Nat} (h : i < L) (hL : L ≤ 140737488355328) : wrap64 ((i : Int) + 1) = ((i + 1 : Nat) : Int) := wrap_nat (by omega) (by omega)
theorem nmD {c : UInt8} {dd : Nat} (h : dd = c.toNat - 48) (h1 : ¬ c.toNat < 48) (h2 : ¬ 57 < c.toNat) : IntKind.u8.wrap ((c.toNat : Int) - 48) = (dd : Int) ∧ dd ≤ 9 := by
  rw [IntKind.wrap_u8]
  omega
theorem nmE {most n : Nat} : (most / 10 < n → ((most / 10 : Nat) : Int) < (n : Int)) ∧ (¬ most / 10 < n → ¬ ((most / 10 : Nat) : Int) < (n : Int)) := ⟨fun h => by omega, fun h => by omega⟩
theorem nmF {most n dd : Nat} (h1 : ¬ most / 10 < n) : (most < 10 * n + dd → ((most - 10 * n : Nat) : Int) < (dd : Int)) ∧ (¬ most < 10 * n + dd → ¬ ((most - 10 * n : Nat) : Int) < (dd : Int)) := ⟨fun h => by omega, fun h => by omega⟩
theorem nmG {most n dd : Nat} (h : most / 10 < n) : most < 10 * n + dd := by omega
theorem nmH (n dd : Nat) : 10 * (n : Int) + (dd : Int) = ((10 * n + dd : Nat) : Int) := by simp
def NmR (r : Option (Nat × Bs)) (e : UInt8) (most n i : Nat) (s : Bs) : Prop := r = Sc.nmGo e most n i (s.drop i)
set_option maxHeartbeats 8000000 in
theorem scnum_any (tb : Nat) (e : UInt8) (he : 57 < e.toNat) (most : Nat) (hm : most ≤ 9223372036854775807) (s : Bs) (hs : s.length ≤ 140737488355328) (w : World) (h : w.cell? ⟨tb, 0, none⟩ = some (St s)) (hf : w.frozen? ⟨tb, 0, none⟩ = false) : Calls Tryd.prog 36 #[.pointer (some ⟨tb, 0, none⟩), .int .u8 (e.toNat : Int), .int .i64 (most : Int)] w (NmE w tb (Sc.nm e most s)) := by
  have hsz : (⟨s.toArray⟩ : ByteArray).size = s.length := st_size s
  obtain ⟨L, hL⟩ : ∃ L, L = s.length := ⟨_, rfl⟩
  have HRES : Hid (Sc.nm e most s = Sc.nmGo e most 0 0 (s.drop 0)) := hid rfl
  have HL := hid hL
  have HS := hid hs
  have HM := hid hm
  have HE57 := hid he
  have HIW : Hid (∀ i, i < s.length → IntKind.i64.wrap ((i : Int) + 1) = ((i + 1 : Nat) : Int)) := hid (fun i hi => by rw [IntKind.wrap_i64]; omega)
  have hmq : wrap64 ((most : Int) / 10) = ((most / 10 : Nat) : Int) := by unfold wrap64; omega
  clear hs hm he
  generalize Sc.nm e most s = RES at *
  go_enter Tryd.func36, Tryd.ntmps36
  go_wp2_with fail
  go_loopg [7, 16] s.length (fun gg v7 v16 wr => ∃ i n : Nat, gg = s.length - i ∧ i ≤ s.length ∧ v7 = .int .i64 (n : Int) ∧ v16 = .int .i64 (i : Int) ∧ n ≤ most ∧ NmR RES e most n i s ∧ wr = w)
  case atStart => exact ⟨0, 0, rfl, Nat.zero_le _, rfl, rfl, Nat.zero_le _, HRES.out, rfl⟩
  case round =>
    obtain ⟨i, n, rfl, hi, rfl, rfl, hn, hres0, hw⟩ := hrel
    have hres : RES = Sc.nmGo e most n i (s.drop i) := hres0
    clear hres0
    have hw := hw.symm
    subst hw
    by_cases him : i < s.length
    · have hi0 : (0 : Int) ≤ (i : Int) := Int.natCast_nonneg _
      have hi1 : (i : Int) < (s.length : Int) := by omega
      obtain ⟨c, hc⟩ : ∃ c, c = s[i] := ⟨_, rfl⟩
      have hat : ∀ h2 : i < (⟨s.toArray⟩ : ByteArray).size, (⟨s.toArray⟩ : ByteArray)[i] = c := fun h2 => by rw [hc]; exact st_at him h2
      have hlt2 : i < (⟨s.toArray⟩ : ByteArray).size := by rw [hsz]; exact him
      rw [List.drop_eq_getElem_cons him, ← hc, Sc.nmGo] at hres
      clear hc
      by_cases hA : c = e ∧ 0 < i
      · rw [if_pos hA] at hres
        obtain ⟨rfl, hip⟩ := hA
        have hip' : (0 : Int) < (i : Int) := by omega
        have hiw : IntKind.i64.wrap ((i : Int) + 1) = ((i + 1 : Nat) : Int) := by rw [IntKind.wrap_i64]; have := HS.out; omega
        have hex : (⟨s.toArray⟩ : ByteArray).extract (i + 1) s.length = ⟨(s.drop (i + 1)).toArray⟩ := ex_drop s (i + 1)
        have hb1 : ((i + 1 : Nat) : Int) ≤ (s.length : Int) := by omega
        have HRS := hid hres
        clear hres hi him hn hip HRES hL HL
        go_wp2_with fail
        go_ret
        exact NmE.yes HRS.out
      · rw [if_neg hA] at hres
        by_cases hip : 0 < i
        · have hce : ¬ c = e := fun h => hA ⟨h, hip⟩
          have bce : ¬ (c.toNat : Int) = (e.toNat : Int) := fun h => hce (UInt8.toNat_inj.1 (by omega))
          have bip : (0 : Int) < (i : Int) := by omega
          clear hce
          by_cases h48 : c.toNat < 48
          · rw [if_pos (.inl h48)] at hres
            have b48 : (c.toNat : Int) < 48 := by omega
            have HE : Hid (RES = none) := hid hres
            clear hres hi him hn HRES hL HL hA
            go_wp2_with fail
            go_ret
            exact NmE.no HE.out
          · have b48 : ¬ (c.toNat : Int) < 48 := by omega
            by_cases h57 : 57 < c.toNat
            · rw [if_pos (.inr (.inl h57))] at hres
              have b57 : (57 : Int) < (c.toNat : Int) := by omega
              have HE : Hid (RES = none) := hid hres
              clear hres hi him hn HRES hL HL hA
              go_wp2_with fail
              go_ret
              exact NmE.no HE.out
            · have b57 : ¬ (57 : Int) < (c.toNat : Int) := by omega
              by_cases hn0 : n = 0
              · rw [if_pos (.inr (.inr ⟨by omega, hn0⟩))] at hres
                subst hn0
                have HE : Hid (RES = none) := hid hres
                clear hres hi him hn HRES hL HL hA
                go_wp2_with fail
                go_ret
                exact NmE.no HE.out
              · have bn0 : ¬ (n : Int) = 0 := by omega
                rw [if_neg (by omega)] at hres
                obtain ⟨dd, hdd⟩ : ∃ dd, dd = c.toNat - 48 := ⟨_, rfl⟩
                rw [← hdd] at hres
                obtain ⟨hs1, hd9⟩ := nmD hdd h48 h57
                clear hdd h48 h57
                by_cases hC1 : most / 10 < n
                · rw [if_pos (nmG hC1)] at hres
                  have bC1 := nmE.1 hC1
                  clear hd9 hC1
                  have HE : Hid (RES = none) := hid hres
                  clear hres hi him hn HRES hL HL hA
                  go_wp2_with fail
                  go_ret
                  exact NmE.no HE.out
                · have bC1 := nmE.2 hC1
                  obtain ⟨hmu, hdw, hsu⟩ := nmA HM.out hC1 hd9
                  by_cases hC2 : most < 10 * n + dd
                  · rw [if_pos hC2] at hres
                    have bC2 := (nmF hC1).1 hC2
                    clear hd9 hC1 hC2
                    have HE : Hid (RES = none) := hid hres
                    clear hres hi him hn HRES hL HL hA
                    go_wp2_with fail
                    go_ret
                    exact NmE.no HE.out
                  · rw [if_neg hC2] at hres
                    have bC2 := (nmF hC1).2 hC2
                    have had := nmB HM.out hC2
                    have hiv := nmC him HS.out
                    have hiw : IntKind.i64.wrap ((i : Int) + 1) = ((i + 1 : Nat) : Int) := HIW.out i him
                    have HRS : Hid (NmR RES e most (10 * n + dd) (i + 1) s) := hid hres
                    have HI := hid him
                    have HNM : Hid (10 * n + dd ≤ most) := hid (Nat.le_of_not_lt hC2)
                    clear hres hi him hn HRES hL HL hA hd9 hC1 hC2
                    go_wp2_with fail
                    go_roundg (s.length - (i + 1))
                    case measure => exact Nat.sub_lt_sub_left HI.out (Nat.lt_succ_self i)
                    case rel => exact ⟨i + 1, 10 * n + dd, rfl, HI.out, congrArg (Value.int .i64) (nmH n dd), rfl, HNM.out, HRS.out, rfl⟩
        · have bip : ¬ (0 : Int) < (i : Int) := by omega
          by_cases hce : c = e
          · have bce : (c.toNat : Int) = (e.toNat : Int) := by rw [hce]
            have h57 : 57 < c.toNat := by rw [hce]; exact HE57.out
            rw [if_pos (.inr (.inl h57))] at hres
            have b48 : ¬ (e.toNat : Int) < 48 := by have := HE57.out; omega
            have b57 : (57 : Int) < (e.toNat : Int) := by have := HE57.out; omega
            clear hce h57
            have HE : Hid (RES = none) := hid hres
            clear hres hi him hn HRES hL HL hA
            go_wp2_with fail
            go_ret
            exact NmE.no HE.out
          · have bce : ¬ (c.toNat : Int) = (e.toNat : Int) := fun h => hce (UInt8.toNat_inj.1 (by omega))
            clear hce
            by_cases h48 : c.toNat < 48
            · rw [if_pos (.inl h48)] at hres
              have b48 : (c.toNat : Int) < 48 := by omega
              have HE : Hid (RES = none) := hid hres
              clear hres hi him hn HRES hL HL hA
              go_wp2_with fail
              go_ret
              exact NmE.no HE.out
            · have b48 : ¬ (c.toNat : Int) < 48 := by omega
              by_cases h57 : 57 < c.toNat
              · rw [if_pos (.inr (.inl h57))] at hres
                have b57 : (57 : Int) < (c.toNat : Int) := by omega
                have HE : Hid (RES = none) := hid hres
                clear hres hi him hn HRES hL HL hA
                go_wp2_with fail
                go_ret
                exact NmE.no HE.out
              · have b57 : ¬ (57 : Int) < (c.toNat : Int) := by omega
                rw [if_neg (by omega)] at hres
                obtain ⟨dd, hdd⟩ : ∃ dd, dd = c.toNat - 48 := ⟨_, rfl⟩
                rw [← hdd] at hres
                obtain ⟨hs1, hd9⟩ := nmD hdd h48 h57
                clear hdd h48 h57
                by_cases hC1 : most / 10 < n
                · rw [if_pos (nmG hC1)] at hres
                  have bC1 := nmE.1 hC1
                  clear hd9 hC1
                  have HE : Hid (RES = none) := hid hres
                  clear hres hi him hn HRES hL HL hA
                  go_wp2_with fail
                  go_ret
                  exact NmE.no HE.out
                · have bC1 := nmE.2 hC1
                  obtain ⟨hmu, hdw, hsu⟩ := nmA HM.out hC1 hd9
                  by_cases hC2 : most < 10 * n + dd
                  · rw [if_pos hC2] at hres
                    have bC2 := (nmF hC1).1 hC2
                    clear hd9 hC1 hC2
                    have HE : Hid (RES = none) := hid hres
                    clear hres hi him hn HRES hL HL hA
                    go_wp2_with fail
                    go_ret
                    exact NmE.no HE.out
                  · rw [if_neg hC2] at hres
                    have bC2 := (nmF hC1).2 hC2
                    have had := nmB HM.out hC2
                    have hiv := nmC him HS.out
                    have hiw : IntKind.i64.wrap ((i : Int) + 1) = ((i + 1 : Nat) : Int) := HIW.out i him
                    have HRS : Hid (NmR RES e most (10 * n + dd) (i + 1) s) := hid hres
                    have HI := hid him
                    have HNM : Hid (10 * n + dd ≤ most) := hid (Nat.le_of_not_lt hC2)
                    clear hres hi him hn HRES hL HL hA hd9 hC1 hC2
                    go_wp2_with fail
                    go_roundg (s.length - (i + 1))
                    case measure => exact Nat.sub_lt_sub_left HI.out (Nat.lt_succ_self i)
                    case rel => exact ⟨i + 1, 10 * n + dd, rfl, HI.out, congrArg (Value.int .i64) (nmH n dd), rfl, HNM.out, HRS.out, rfl⟩
    · have hie : i = s.length := by omega
      subst hie
      have hin : ¬ (s.length : Int) < (s.length : Int) := by omega
      have HE : Hid (RES = none) := hid (by rw [hres, List.drop_length, Sc.nmGo])
      clear hres hn hi him HRES
      go_wp2_with fail
      go_ret
      exact NmE.no HE.out
end Go.Proofs.YtdllpklecdmghaaDoor
