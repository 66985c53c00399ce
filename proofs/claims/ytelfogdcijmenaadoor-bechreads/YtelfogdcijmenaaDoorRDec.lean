/- The document's letters and small texts. -/
import Derived.Test.YtelfogdcijmenaaDoorREnc
import Derived.Test.YtelfogdcijmenaaDoorMathB
namespace Go.Proofs.YtelfogdcijmenaaDoor
open Go.RowKit

/-- the word of a letter; 99: none -/
def rword (c : UInt8) : UInt8 := if idx c < 32 then UInt8.ofNat (idx c) else 99
theorem rword_lt (c : UInt8) : (idx c < 32 → rword c = wordOf c) ∧ (¬ idx c < 32 → rword c = 99 ∧ wordOf c = 255) := by
  unfold rword wordOf
  exact ⟨fun h => by rw [if_pos h, if_pos h], fun h => by rw [if_neg h, if_neg h]; exact ⟨rfl, rfl⟩⟩
theorem idx_hit {c : UInt8} {k : Nat} (hk : k < 32) (h : letters.getD k 0 = c) : idx c = k := by
  subst h
  have : ∀ k : Fin 32, idx (letters.getD k.val 0) = k.val := by decide +kernel
  exact this ⟨k, hk⟩
theorem idx_miss {c : UInt8} (h : ∀ k, k < 32 → letters.getD k 0 ≠ c) : ¬ idx c < 32 := by
  intro hi
  have : ∀ c : Fin 256, idx (UInt8.ofNat c.val) < 32 → letters.getD (idx (UInt8.ofNat c.val)) 0 = UInt8.ofNat c.val := by decide +kernel
  have h2 := this ⟨c.toNat, c.toNat_lt⟩
  simp only [UInt8.ofNat_toNat] at h2
  exact h _ hi (h2 hi)
set_option maxRecDepth 100000 in
set_option maxHeartbeats 2000000 in
theorem rword_any (c : UInt8) (w : World) : Calls Tryd.prog 44 #[By c] w fun e w' => e = .returned (By (rword c)) ∧ w' = w := by
  go_enter Tryd.func44, Tryd.ntmps44
  go_wp2_with fail
  go_loop [3] (fun v3 => ∃ k : Nat, k ≤ 32 ∧ v3 = .int .i64 (k : Int) ∧ Hid (∀ j, j < k → letters.getD j 0 ≠ c)) (fun v3 => 32 - (intOf v3).toNat)
  case atStart => exact ⟨0, by omega, rfl, hid (fun j hj => by omega)⟩
  case round =>
    obtain ⟨k, hk, rfl, hf⟩ := hrel
    by_cases hkn : k < 32
    · have hk1 : (k : Int) < 32 := by omega
      have hkl : k < letters.length := hkn
      have HIX := hid (text_index letters .i64 k hkl)
      have hgd : letters.getD k 0 = letters[k] := by simp [List.getD, hkl]
      generalize letters[k] = x at *
      by_cases hxc : x = c
      · have hq : ((x.toNat : Int) == (c.toNat : Int)) = true := by rw [hxc]; simp
        have HI := hid (idx_hit hkn (hgd.trans hxc))
        have HR : Hid (By (rword c) = .int .u8 (k : Int)) := hid (by
          unfold By rword
          rw [HI.out, if_pos hkn, UInt8.toNat_ofNat']
          congr 1
          omega)
        have hwk : IntKind.u8.wrap (k : Int) = (k : Int) := by rw [IntKind.wrap_u8]; omega
        clear hf hgd
        go_wp2_with (first | (refine wpList_index_run rfl _ (.tmp 8) 9 rfl (St letters) _ (By x) rfl rfl HIX.out ?_) | fail)
        go_ret
        rw [HR.out]
        exact ⟨rfl, rfl⟩
      · have hq : ((x.toNat : Int) == (c.toNat : Int)) = false := by
          simp
          intro e
          exact hxc (UInt8.toNat_inj.1 (by omega))
        have HX : Hid (∀ j, j < k + 1 → letters.getD j 0 ≠ c) := hid (fun j hj => by
          by_cases e : j = k
          · rw [e, hgd]; exact hxc
          · exact hf.out j (by omega))
        clear hf hgd
        go_wp2_with (first | (refine wpList_index_run rfl _ (.tmp 8) 9 rfl (St letters) _ (By x) rfl rfl HIX.out ?_) | fail)
        go_round
        case rel => exact ⟨k + 1, by omega, by go_num, HX⟩
        case measure => simp [intOf]; omega
    · have hk1 : ¬ (k : Int) < 32 := by omega
      have hke : k = 32 := by omega
      subst hke
      have HI := hid ((rword_lt c).2 (idx_miss hf.out)).1
      clear hf
      go_wp2_with fail
      go_ret
      rw [HI.out]
      exact ⟨rfl, rfl⟩
end Go.Proofs.YtelfogdcijmenaaDoor
