/- What the document's small readings do: none, how many parts, a public key, whether the parts fit. -/
import Derived.Test.YtdhmmllpioppfaaGreatRNum
import Derived.Test.YtdhmmllpioppfaaGreatRMath
import Derived.Test.YtdhmmllpioppfaaGreatInnerB
namespace Go.Proofs.YtdhmmllpioppfaaGreat
open Go.RowKit

/-- a term that was read, as a value -/
abbrev cutV (E D N F : Int) (kids : Value) : Value := .agg #[.int .i64 E, .int .i64 D, .int .u64 N, .int .i64 F, kids]

set_option maxHeartbeats 1000000 in
theorem rnone_any (w : World) : Calls Tryz.prog 73 #[] w fun en w' => en = .returned (cutV (-1) 0 0 0 (.slice none 0 0)) ∧ Below w.heap.size w w' := by
  go_enter Tryz.func73, Tryz.ntmps73
  go_wp2_with fail
  refine bodyPost_ret (v := cutV (-1) 0 0 0 (.slice none 0 0)) (by simp [results, Tryz.results73, go_sem]) rfl ⟨rfl, ?_⟩
  exact (Below.refl _ _).alloc (Nat.le_refl _) _

/-- how many parts, as a number -/
def partsI (c : UInt8) : Int := match Tm.partsN c with | none => -1 | some k => k

theorem byte_ne {c k : UInt8} (h : c ≠ k) : ((c.toNat : Int) == (k.toNat : Int)) = false := by simp; intro e; exact h (UInt8.toNat_inj.1 (by omega))

set_option maxHeartbeats 2000000 in
theorem rparts_any (c : UInt8) (w : World) : Calls Tryz.prog 75 #[.int .u8 (c.toNat : Int)] w fun en w' => en = .returned (.int .i64 (partsI c)) ∧ w' = w := by
  by_cases h80 : c = 80
  · subst h80
    go_enter Tryz.func75, Tryz.ntmps75
    go_wp2
    go_ret
    exact ⟨rfl, rfl⟩
  by_cases h72 : c = 72
  · subst h72
    go_enter Tryz.func75, Tryz.ntmps75
    go_wp2
    go_ret
    exact ⟨rfl, rfl⟩
  by_cases h83 : c = 83
  · subst h83
    go_enter Tryz.func75, Tryz.ntmps75
    go_wp2
    go_ret
    exact ⟨rfl, rfl⟩
  by_cases h66 : c = 66
  · subst h66
    go_enter Tryz.func75, Tryz.ntmps75
    go_wp2
    go_ret
    exact ⟨rfl, rfl⟩
  by_cases h88 : c = 88
  · subst h88
    go_enter Tryz.func75, Tryz.ntmps75
    go_wp2
    go_ret
    exact ⟨rfl, rfl⟩
  by_cases h68 : c = 68
  · subst h68
    go_enter Tryz.func75, Tryz.ntmps75
    go_wp2
    go_ret
    exact ⟨rfl, rfl⟩
  by_cases h86 : c = 86
  · subst h86
    go_enter Tryz.func75, Tryz.ntmps75
    go_wp2
    go_ret
    exact ⟨rfl, rfl⟩
  by_cases h87 : c = 87
  · subst h87
    go_enter Tryz.func75, Tryz.ntmps75
    go_wp2
    go_ret
    exact ⟨rfl, rfl⟩
  by_cases h75 : c = 75
  · subst h75
    go_enter Tryz.func75, Tryz.ntmps75
    go_wp2
    go_ret
    exact ⟨rfl, rfl⟩
  by_cases h76 : c = 76
  · subst h76
    go_enter Tryz.func75, Tryz.ntmps75
    go_wp2
    go_ret
    exact ⟨rfl, rfl⟩
  have e80 : ((c.toNat : Int) == 80) = false := byte_ne (k := 80) h80
  have e72 : ((c.toNat : Int) == 72) = false := byte_ne (k := 72) h72
  have e83 : ((c.toNat : Int) == 83) = false := byte_ne (k := 83) h83
  have e66 : ((c.toNat : Int) == 66) = false := byte_ne (k := 66) h66
  have e88 : ((c.toNat : Int) == 88) = false := byte_ne (k := 88) h88
  have e68 : ((c.toNat : Int) == 68) = false := byte_ne (k := 68) h68
  have e86 : ((c.toNat : Int) == 86) = false := byte_ne (k := 86) h86
  have e87 : ((c.toNat : Int) == 87) = false := byte_ne (k := 87) h87
  have e75 : ((c.toNat : Int) == 75) = false := byte_ne (k := 75) h75
  have e76 : ((c.toNat : Int) == 76) = false := byte_ne (k := 76) h76
  have HP : Hid (partsI c = -1) := by
    apply hid; unfold partsI Tm.partsN
    rw [if_neg (by simp [h80, h72]), if_neg (by simp [h83, h66, h88, h68, h86, h87, h75, h76])]
  clear h80 h72 h83 h66 h88 h68 h86 h87 h75 h76
  go_enter Tryz.func75, Tryz.ntmps75
  go_wp2
  go_ret
  exact ⟨by rw [HP.out]; rfl, rfl⟩

set_option maxHeartbeats 1000000 in
theorem rpublic_any (c : UInt8) (w : World) : Calls Tryz.prog 86 #[.int .u8 (c.toNat : Int)] w fun e w' => e = .returned (.bool (Tm.isPk (some c))) ∧ w' = w := by
  by_cases h1 : c = 80
  · subst h1
    go_enter Tryz.func86, Tryz.ntmps86
    go_wp2
    go_ret
    exact ⟨rfl, rfl⟩
  · by_cases h2 : c = 87
    · subst h2
      go_enter Tryz.func86, Tryz.ntmps86
      go_wp2
      go_ret
      exact ⟨rfl, rfl⟩
    · by_cases h3 : c = 76
      · subst h3
        go_enter Tryz.func86, Tryz.ntmps86
        go_wp2
        go_ret
        exact ⟨rfl, rfl⟩
      · have e1 : ((c.toNat : Int) == 80) = false := byte_ne (k := 80) h1
        have e2 : ((c.toNat : Int) == 87) = false := byte_ne (k := 87) h2
        have e3 : ((c.toNat : Int) == 76) = false := byte_ne (k := 76) h3
        have HE : Hid (Tm.isPk (some c) = false) := by show _ = _; simp [Tm.isPk, h1, h2, h3]
        clear h1 h2 h3
        go_enter Tryz.func86, Tryz.ntmps86
        go_wp2
        go_ret
        exact ⟨by rw [HE.out]; rfl, rfl⟩

set_option maxHeartbeats 2000000 in
theorem fits_80 (s : ByteArray) (a : Nat) (ha : a < s.size) (E D N F : Int) (g m cap : Nat) (p0 : Nat) (w : World) (hc : s[a] = 80) (hm : 1 ≤ m) (h0 : p0 < s.size) (_hs : s.size ≤ 20000) (hg : g < w.heap.size)
    (c0 : w.cell? ⟨g, 0, none⟩ = some (.int .i64 (p0 : Int))) :
    Calls Tryz.prog 76 #[.string s, .int .i64 (a : Int), cutV E D N F (.slice (some ⟨g, 0, none⟩) m cap)] w fun en w' => en = .returned (.bool (!(s[p0] == 86 || s[p0] == 75))) ∧ Below w.heap.size w w' := by
  have e80 : ((s[a].toNat : Int) == 80) = true := by simp [hc]
  have e88 : ((s[a].toNat : Int) == 88) = false := by simp [hc]
  have e87 : ((s[a].toNat : Int) == 87) = false := by simp [hc]
  have e76 : ((s[a].toNat : Int) == 76) = false := by simp [hc]
  clear hc
  by_cases h86 : s[p0] = 86
  · have b1 : ((s[p0].toNat : Int) != 86) = false := by simp [h86]
    have HR : Hid ((!(s[p0] == 86 || s[p0] == 75)) = false) := by apply hid; rw [h86]; rfl
    clear h86
    go_enter Tryz.func76, Tryz.ntmps76
    go_wp2_with fail
    go_ret
    exact ⟨by rw [HR.out]; rfl, (Below.refl _ _).alloc (Nat.le_refl _) _⟩
  · have b1 : ((s[p0].toNat : Int) != 86) = true := by simp; intro h; exact h86 (UInt8.toNat_inj.1 (by simp; omega))
    by_cases h75 : s[p0] = 75
    · have b2 : ((s[p0].toNat : Int) != 75) = false := by simp [h75]
      have HR : Hid ((!(s[p0] == 86 || s[p0] == 75)) = false) := by apply hid; rw [h75]; rfl
      clear h86 h75
      go_enter Tryz.func76, Tryz.ntmps76
      go_wp2_with fail
      go_ret
      exact ⟨by rw [HR.out]; rfl, (Below.refl _ _).alloc (Nat.le_refl _) _⟩
    · have b2 : ((s[p0].toNat : Int) != 75) = true := by simp; intro h; exact h75 (UInt8.toNat_inj.1 (by simp; omega))
      have HR : Hid ((!(s[p0] == 86 || s[p0] == 75)) = true) := by apply hid; simp [h86, h75]
      clear h86 h75
      go_enter Tryz.func76, Tryz.ntmps76
      go_wp2_with fail
      go_ret
      exact ⟨by rw [HR.out]; rfl, (Below.refl _ _).alloc (Nat.le_refl _) _⟩

set_option maxHeartbeats 2000000 in
theorem fits_88 (s : ByteArray) (a : Nat) (ha : a < s.size) (E D N F : Int) (g m cap : Nat) (p0 p1 p2 : Nat) (w : World) (hc : s[a] = 88) (hm : 3 ≤ m) (h0 : p0 ≤ p1) (h1 : p1 ≤ p2) (h2 : p2 ≤ s.size) (_hs : s.size ≤ 20000) (hg : g < w.heap.size)
    (c0 : w.cell? ⟨g, 0, none⟩ = some (.int .i64 (p0 : Int))) (c1 : w.cell? ⟨g, 1, none⟩ = some (.int .i64 (p1 : Int))) (c2 : w.cell? ⟨g, 2, none⟩ = some (.int .i64 (p2 : Int))) :
    Calls Tryz.prog 76 #[.string s, .int .i64 (a : Int), cutV E D N F (.slice (some ⟨g, 0, none⟩) m cap)] w fun en w' => en = .returned (.bool (Tm.leB ((rest s p0).take (p1 - p0)) ((rest s p1).take (p2 - p1)))) ∧ Below w.heap.size w w' := by
  have e80 : ((s[a].toNat : Int) == 80) = false := by simp [hc]
  have e88 : ((s[a].toNat : Int) == 88) = true := by simp [hc]
  have e87 : ((s[a].toNat : Int) == 87) = false := by simp [hc]
  have e76 : ((s[a].toNat : Int) == 76) = false := by simp [hc]
  clear hc
  have HL : Hid ((Op.bytesLess (s.extract p0 p1).toList (s.extract p1 p2).toList || (s.extract p0 p1).toList == (s.extract p1 p2).toList) = Tm.leB ((rest s p0).take (p1 - p0)) ((rest s p1).take (p2 - p1))) := by
    apply hid; rw [Lib.extract_toList, Lib.extract_toList, bytesLess_blt]; rfl
  go_enter Tryz.func76, Tryz.ntmps76
  go_wp2_with fail
  go_quiet (fail)
  go_wp2_with fail
  go_ret
  exact ⟨by rw [← HL.out]; rfl, below_drewN ((Below.refl _ _).alloc (Nat.le_refl _) _) _⟩

set_option maxHeartbeats 2000000 in
theorem fits_87 (s : ByteArray) (a : Nat) (ha : a < s.size) (E D N F : Int) (g m cap : Nat) (p0 p1 : Nat) (w : World) (hc : s[a] = 87) (hm : 2 ≤ m) (h0 : p0 < s.size) (h1 : p1 < s.size) (_hs : s.size ≤ 20000) (hg : g < w.heap.size)
    (c0 : w.cell? ⟨g, 0, none⟩ = some (.int .i64 (p0 : Int))) (c1 : w.cell? ⟨g, 1, none⟩ = some (.int .i64 (p1 : Int))) :
    Calls Tryz.prog 76 #[.string s, .int .i64 (a : Int), cutV E D N F (.slice (some ⟨g, 0, none⟩) m cap)] w fun en w' => en = .returned (.bool (Tm.isPk (some s[p0]) && Tm.isPk (some s[p1]))) ∧ Below w.heap.size w w' := by
  have e80 : ((s[a].toNat : Int) == 80) = false := by simp [hc]
  have e88 : ((s[a].toNat : Int) == 88) = false := by simp [hc]
  have e87 : ((s[a].toNat : Int) == 87) = true := by simp [hc]
  have e76 : ((s[a].toNat : Int) == 76) = false := by simp [hc]
  clear hc
  cases hk : Tm.isPk (some s[p0])
  · have HK := hid hk
    clear hk
    go_enter Tryz.func76, Tryz.ntmps76
    go_wp2_with fail
    refine (rpublic_any _ _).mono ?_
    rintro e w1 ⟨rfl, rfl⟩
    rw [HK.out]
    go_wp2_with fail
    go_ret
    exact ⟨rfl, (Below.refl _ _).alloc (Nat.le_refl _) _⟩
  · have HK := hid hk
    clear hk
    go_enter Tryz.func76, Tryz.ntmps76
    go_wp2_with fail
    refine (rpublic_any _ _).mono ?_
    rintro e w1 ⟨rfl, rfl⟩
    rw [HK.out]
    go_wp2_with fail
    refine (rpublic_any _ _).mono ?_
    rintro e w1 ⟨rfl, rfl⟩
    go_wp2_with fail
    go_ret
    exact ⟨by simp, (Below.refl _ _).alloc (Nat.le_refl _) _⟩

set_option maxHeartbeats 2000000 in
theorem fits_76 (s : ByteArray) (a : Nat) (ha : a < s.size) (E D N F : Int) (g m cap : Nat) (p0 : Nat) (w : World) (hc : s[a] = 76) (hm : 1 ≤ m) (h0 : p0 < s.size) (_hs : s.size ≤ 20000) (hg : g < w.heap.size)
    (c0 : w.cell? ⟨g, 0, none⟩ = some (.int .i64 (p0 : Int))) :
    Calls Tryz.prog 76 #[.string s, .int .i64 (a : Int), cutV E D N F (.slice (some ⟨g, 0, none⟩) m cap)] w fun en w' => en = .returned (.bool (Tm.isPk (some s[p0]))) ∧ Below w.heap.size w w' := by
  have e80 : ((s[a].toNat : Int) == 80) = false := by simp [hc]
  have e88 : ((s[a].toNat : Int) == 88) = false := by simp [hc]
  have e87 : ((s[a].toNat : Int) == 87) = false := by simp [hc]
  have e76 : ((s[a].toNat : Int) == 76) = true := by simp [hc]
  clear hc
  go_enter Tryz.func76, Tryz.ntmps76
  go_wp2_with fail
  refine (rpublic_any _ _).mono ?_
  rintro e w1 ⟨rfl, rfl⟩
  go_wp2_with fail
  go_ret
  exact ⟨rfl, (Below.refl _ _).alloc (Nat.le_refl _) _⟩

set_option maxHeartbeats 2000000 in
theorem fits_else (s : ByteArray) (a : Nat) (ha : a < s.size) (E D N F : Int) (g m cap : Nat) (w : World) (h80 : s[a] ≠ 80) (h88 : s[a] ≠ 88) (h87 : s[a] ≠ 87) (h76 : s[a] ≠ 76) (_hs : s.size ≤ 20000) :
    Calls Tryz.prog 76 #[.string s, .int .i64 (a : Int), cutV E D N F (.slice (some ⟨g, 0, none⟩) m cap)] w fun en w' => en = .returned (.bool true) ∧ Below w.heap.size w w' := by
  have e80 : ((s[a].toNat : Int) == 80) = false := byte_ne (k := 80) h80
  have e88 : ((s[a].toNat : Int) == 88) = false := byte_ne (k := 88) h88
  have e87 : ((s[a].toNat : Int) == 87) = false := byte_ne (k := 87) h87
  have e76 : ((s[a].toNat : Int) == 76) = false := byte_ne (k := 76) h76
  clear h80 h88 h87 h76
  go_enter Tryz.func76, Tryz.ntmps76
  go_wp2_with fail
  go_ret
  exact ⟨rfl, (Below.refl _ _).alloc (Nat.le_refl _) _⟩
end Go.Proofs.YtdhmmllpioppfaaGreat
