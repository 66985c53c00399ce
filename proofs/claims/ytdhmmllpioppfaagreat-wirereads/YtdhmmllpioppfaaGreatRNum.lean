/- What the document's number does. -/
import Derived.Test.YtdhmmllpioppfaaGreatNum
namespace Go.Proofs.YtdhmmllpioppfaaGreat
open Go.RowKit

theorem lead_zero {e y : UInt8} {l : Bs} (h1 : (48 : UInt8) ≠ e) (h2 : y ≠ e) : Tm.num e (48 :: y :: l) = none := by
  unfold Tm.num
  rw [Tm.numGo, if_neg h1, if_pos (by decide), Tm.numGo, if_neg h2]
  split
  · rfl
  · rename_i n r hg
    split at hg
    · have := Tm.numGo_len hg
      rw [if_pos]
      right
      exact ⟨by simp; omega, rfl⟩
    · cases hg

/-- the state of the digits -/
def Dig (s : ByteArray) (a k m : Nat) : Prop := ∀ ha : a < s.size, (k = a → m = 0) ∧ (m = 0 → a < k → k = a + 1 ∧ s[a] = 48) ∧ (m ≠ 0 → s[a] ≠ 48)

set_option maxHeartbeats 2000000 in
theorem rnumber_any (s : ByteArray) (a : Nat) (ei : Int) (e : UInt8) (he : ei = e.toNat) (h57 : 57 < e.toNat) (hs : s.size ≤ 20000) (w : World) :
    Calls Tryz.prog 74 #[.string s, .int .i64 (a : Int), .int .u8 ei] w fun en w' => w' = w ∧
      Ends (Tm.num e (rest s a)) (fun x => en = .returned (.tuple #[.int .u64 (x.1 : Int), .int .i64 ((s.size - x.2.length : Nat) : Int)])) (en = .returned (.tuple #[.int .u64 0, .int .i64 (-1)])) := by
  subst he
  have h57' : (57 : Int) < (e.toNat : Int) := by omega
  by_cases has : a < s.size
  · go_enter Tryz.func74, Tryz.ntmps74
    go_wp2_with fail
    go_loop [8, 9] (fun nv iv => ∃ k m : Nat, a ≤ k ∧ k ≤ s.size ∧ iv = .int .i64 k ∧ nv = .int .u64 m ∧ m ≤ 9223372036854775807 ∧ Dig s a k m ∧ Tm.numGo e 0 (rest s a) = Tm.numGo e m (rest s k)) (fun _ iv => s.size - (intOf iv).toNat)
    case atStart => exact ⟨a, 0, Nat.le_refl _, by omega, rfl, rfl, by omega, fun _ => ⟨fun _ => rfl, fun _ h => by omega, fun h => absurd rfl h⟩, rfl⟩
    case round =>
      obtain ⟨k, m, hak, hk, rfl, rfl, hm, hD, hN⟩ := hrel
      have HD := hid hD
      have HN := hid hN
      clear hD hN
      by_cases hlt : k < s.size
      · have hlt' : (k : Int) < (s.size : Int) := by omega
        have hc256 := s[k].toNat_lt
        by_cases hc : s[k] = e
        · have hE := hid (num_end hlt hak hc HN.out)
          have hceq : ((s[k].toNat : Int) == (e.toNat : Int)) = true := by simp [hc]
          have hcv : (57 : Int) < (s[k].toNat : Int) := by rw [hc]; omega
          clear hc
          by_cases hka : a < k
          · have hka' : (a : Int) < (k : Int) := by omega
            have hd := HD.out has
            have HE : Hid (Tm.num e (rest s a) = some (m, rest s (k + 1))) := by
              apply hid
              rw [hE.out, if_neg]
              rintro (h | ⟨h1, h2⟩)
              · omega
              · by_cases hm0 : m = 0
                · have := (hd.2.1 hm0 hka).1; omega
                · exact hd.2.2 hm0 h2
            clear hd
            go_wp2_with fail
            go_ret2
            refine ⟨rfl, ends_some HE.out ?_⟩
            simp only [rest_len]
            rw [show s.size - (s.size - (k + 1)) = k + 1 by omega]
            simp
          · have hka' : ¬ (a : Int) < (k : Int) := by omega
            have HE : Hid (Tm.num e (rest s a) = none) := by apply hid; rw [hE.out, if_pos (Or.inl (by omega))]
            have hlo : ¬ (s[k].toNat : Int) < 48 := by omega
            go_wp2_with fail
            go_ret2
            exact ⟨rfl, ends_none HE.out rfl⟩
        · have hceq : ((s[k].toNat : Int) == (e.toNat : Int)) = false := by simp; intro h; exact hc (UInt8.toNat_inj.1 (by omega))
          have HC := hid hc
          clear hc
          by_cases hlo : s[k].toNat < 48
          · have hlo' : (s[k].toNat : Int) < 48 := by omega
            have HE : Hid (Tm.num e (rest s a) = none) := by
              apply hid
              refine num_none HN.out ?_
              rw [rest_cons hlt, Tm.numGo, if_neg HC.out, if_neg (by omega)]
            go_wp2_with fail
            go_ret2
            exact ⟨rfl, ends_none HE.out rfl⟩
          · have hlo' : ¬ (s[k].toNat : Int) < 48 := by omega
            by_cases hhi : 57 < s[k].toNat
            · have hhi' : (57 : Int) < (s[k].toNat : Int) := by omega
              have HE : Hid (Tm.num e (rest s a) = none) := by
                apply hid
                refine num_none HN.out ?_
                rw [rest_cons hlt, Tm.numGo, if_neg HC.out, if_neg (by omega)]
              go_wp2_with fail
              go_ret2
              exact ⟨rfl, ends_none HE.out rfl⟩
            · have hhi' : ¬ (57 : Int) < (s[k].toNat : Int) := by omega
              by_cases hz : m = 0 ∧ a < k
              · have hz1 : ((m : Int) == 0) = true := by simp [hz.1]
                have hz2 : (a : Int) < (k : Int) := by omega
                have HE : Hid (Tm.num e (rest s a) = none) := by
                  apply hid
                  obtain ⟨h1, h2⟩ := (HD.out has).2.1 hz.1 hz.2
                  subst h1
                  rw [rest_cons has, h2, rest_cons hlt]
                  refine lead_zero (fun h => ?_) HC.out
                  rw [← h] at h57
                  simp at h57
                clear hz
                go_wp2_with fail
                go_ret2
                exact ⟨rfl, ends_none HE.out rfl⟩
              · have hguard : ((m : Int) == 0) = false ∨ ¬ (a : Int) < (k : Int) := by
                  by_cases h : m = 0
                  · right; have : ¬ a < k := fun h2 => hz ⟨h, h2⟩; omega
                  · left; simpa using h
                have hdd : ∀ x : Nat, x = 10 * m + (s[k].toNat - 48) → Dig s a (k + 1) x := by
                  intro x hx ha
                  have hd := HD.out ha
                  refine ⟨fun h => by omega, fun h0 _ => ?_, fun hn hs48 => ?_⟩
                  · have hm0 : m = 0 := by omega
                    have hka : k = a := by
                      apply Classical.byContradiction
                      intro hne
                      exact hz ⟨hm0, by omega⟩
                    subst hka
                    refine ⟨rfl, ?_⟩
                    apply UInt8.toNat_inj.1
                    simp
                    omega
                  · by_cases hm0 : m = 0
                    · have hka : k = a := by
                        apply Classical.byContradiction
                        intro hne
                        exact hz ⟨hm0, by omega⟩
                      subst hka
                      rw [hs48] at hx
                      simp at hx
                      omega
                    · exact hd.2.2 hm0 hs48
                have HDD := hid hdd
                clear hdd hz
                rcases hguard with hg | hg
                · go_wp2_with fail
                  · have hov : (9223372036854775807 - ((s[k].toNat : Int) - 48)) / 10 < (m : Int) := by assumption
                    go_ret2
                    refine ⟨rfl, ends_none (num_none HN.out ?_) rfl⟩
                    rw [rest_cons hlt, Tm.numGo, if_neg HC.out, if_neg (by omega)]
                  · have hov : (m : Int) ≤ (9223372036854775807 - ((s[k].toNat : Int) - 48)) / 10 := by assumption
                    have hgo : Tm.numGo e m (rest s k) = Tm.numGo e (10 * m + (s[k].toNat - 48)) (rest s (k + 1)) := by rw [rest_cons hlt, Tm.numGo, if_neg HC.out, if_pos (by omega)]
                    go_round
                    case rel => exact ⟨k + 1, 10 * m + (s[k].toNat - 48), by omega, by omega, by go_num, congrArg (Value.int .u64) (by omega), by omega, HDD.out _ rfl, HN.out.trans hgo⟩
                    case measure => simp [intOf]; omega
                · have hz1 : ((m : Int) == 0) = true := by have := (HD.out has).1 (by omega); simp [this]
                  go_wp2_with fail
                  · have hov : (9223372036854775807 - ((s[k].toNat : Int) - 48)) / 10 < (m : Int) := by assumption
                    go_ret2
                    refine ⟨rfl, ends_none (num_none HN.out ?_) rfl⟩
                    rw [rest_cons hlt, Tm.numGo, if_neg HC.out, if_neg (by omega)]
                  · have hov : (m : Int) ≤ (9223372036854775807 - ((s[k].toNat : Int) - 48)) / 10 := by assumption
                    have hgo : Tm.numGo e m (rest s k) = Tm.numGo e (10 * m + (s[k].toNat - 48)) (rest s (k + 1)) := by rw [rest_cons hlt, Tm.numGo, if_neg HC.out, if_pos (by omega)]
                    go_round
                    case rel => exact ⟨k + 1, 10 * m + (s[k].toNat - 48), by omega, by omega, by go_num, congrArg (Value.int .u64) (by omega), by omega, HDD.out _ rfl, HN.out.trans hgo⟩
                    case measure => simp [intOf]; omega
      · have hlt' : ¬ (k : Int) < (s.size : Int) := by omega
        have HE : Hid (Tm.num e (rest s a) = none) := num_out (by omega) HN.out
        go_wp2_with fail
        go_ret2
        exact ⟨rfl, ends_none HE.out rfl⟩
  · have hlt' : ¬ (a : Int) < (s.size : Int) := by omega
    have HE : Hid (Tm.num e (rest s a) = none) := by apply hid; rw [rest_nil (by omega)]; rfl
    go_enter Tryz.func74, Tryz.ntmps74
    go_wp2_with fail
    refine wp_loop_rounds 1 ?_
    rw [rounds_succ]
    go_wp2_with fail
    go_ret2
    exact ⟨rfl, ends_none HE.out rfl⟩
end Go.Proofs.YtdhmmllpioppfaaGreat
