/- Heads, words and checks: the document's words. -/
namespace Go.Proofs.YtelfogdcijmenaaDoor

abbrev Bs := List UInt8
/-- the letters of the words -/
def letters : Bs := [113, 112, 122, 114, 121, 57, 120, 56, 103, 102, 50, 116, 118, 100, 119, 48, 115, 51, 106, 110, 53, 52, 107, 104, 99, 101, 54, 109, 117, 97, 55, 108]
def outB (c : UInt8) : Bool := decide (c.toNat < 33) || decide (126 < c.toNat)
def capB (c : UInt8) : Bool := decide (65 ≤ c.toNat) && decide (c.toNat ≤ 90)
def smlB (c : UInt8) : Bool := decide (97 ≤ c.toNat) && decide (c.toNat ≤ 122)
def nwB (c : UInt8) : Bool := decide (32 ≤ c.toNat)
def fitB (h : Bs) : Bool := decide (1 ≤ h.length) && decide (h.length ≤ 83)
/-- what goes into a check -/
def mx : Nat → Nat
  | 0 => 996825010
  | 1 => 642813549
  | 2 => 513874426
  | 3 => 1027748829
  | 4 => 705979059
  | _ => 0
def mixUp (t : Nat) : Nat → Nat
  | 0 => 0
  | k + 1 => if t / 2 ^ k % 2 = 1 then mixUp t k ^^^ mx k else mixUp t k
def step (c w : Nat) : Nat := (c % 33554432 * 32 ^^^ w) ^^^ mixUp (c / 33554432) 5
/-- the check of words, from c on -/
def chk (c : Nat) : Bs → Nat
  | [] => c
  | w :: l => chk (step c w.toNat) l
def hiC (c : UInt8) : UInt8 := UInt8.ofNat (c.toNat / 32)
def loC (c : UInt8) : UInt8 := UInt8.ofNat (c.toNat % 32)
/-- the words of a head -/
def headW (h : Bs) : Bs := h.map hiC ++ 0 :: h.map loC
/-- the digit of a check at a place -/
def dig (c i : Nat) : UInt8 := UInt8.ofNat (c / 2 ^ (5 * (5 - i)) % 32)
def closeW (c : Nat) : Bs := [dig c 0, dig c 1, dig c 2, dig c 3, dig c 4, dig c 5]
def zeros : Bs := [0, 0, 0, 0, 0, 0]
def encW (h ws : Bs) : Bs := closeW (chk 1 (headW h ++ (ws ++ zeros)) ^^^ 1)
def letterOf (w : UInt8) : UInt8 := letters.getD w.toNat 0
def textB (h ws : Bs) : Bs := h ++ 49 :: (ws ++ encW h ws).map letterOf
/-- what Encode tells -/
def encB (h ws : Bs) : Bs × Nat :=
  if (!fitB h || h.any outB || h.any capB || ws.any nwB) = true then ([], 60) else if 32768 < h.length + ws.length + 7 then ([], 3) else (textB h ws, 0)
def lowC (c : UInt8) : UInt8 := if capB c then c + 32 else c
def low (l : Bs) : Bs := l.map lowC
/-- the place of a letter; 32: none -/
def idx (c : UInt8) : Nat := letters.findIdx (· == c)
def wordOf (c : UInt8) : UInt8 := if idx c < 32 then UInt8.ofNat (idx c) else 255
def tailB (s : Bs) : Bs := (s.reverse.takeWhile (fun c => c != 49)).reverse
def headB (s : Bs) : Bs := s.take (s.length - (tailB s).length - 1)
/-- what Decode tells -/
def decB (s : Bs) : Bs × Bs × Nat :=
  if 32768 < s.length then ([], [], 3)
  else if s.any outB = true then ([], [], 60)
  else if (s.any smlB && s.any capB) = true then ([], [], 60)
  else if (!fitB (headB s)) = true then ([], [], 60)
  else if (tailB s).length < 6 then ([], [], 60)
  else if ((low (tailB s)).map wordOf).any nwB = true then ([], [], 60)
  else if chk 1 (headW (low (headB s)) ++ (low (tailB s)).map wordOf) ≠ 1 then ([], [], 61)
  else (low (headB s), ((low (tailB s)).map wordOf).take ((tailB s).length - 6), 0)

/-! checks -/
theorem chk_append (c : Nat) (a b : Bs) : chk c (a ++ b) = chk (chk c a) b := by
  induction a generalizing c with
  | nil => rfl
  | cons x a ih => exact ih _
theorem mixUp5 (t : Nat) : mixUp t 5 = mixUp (t % 32) 5 := by
  have h : ∀ k, k < 5 → t / 2 ^ k % 2 = t % 32 / 2 ^ k % 2 := by
    intro k hk
    have : k = 0 ∨ k = 1 ∨ k = 2 ∨ k = 3 ∨ k = 4 := by omega
    rcases this with rfl | rfl | rfl | rfl | rfl <;> omega
  simp only [mixUp, h 0 (by omega), h 1 (by omega), h 2 (by omega), h 3 (by omega), h 4 (by omega)]
theorem mix_lt : ∀ t : Fin 32, mixUp t.val 5 < 1073741824 := by decide +kernel
theorem mix_xor : ∀ t u : Fin 32, mixUp (t.val ^^^ u.val) 5 = mixUp t.val 5 ^^^ mixUp u.val 5 := by decide +kernel
theorem mix_inj : ∀ t u : Fin 32, mixUp t.val 5 % 32 = mixUp u.val 5 % 32 → t = u := by decide +kernel
theorem mix_lt' (t : Nat) : mixUp t 5 < 1073741824 := by rw [mixUp5]; exact mix_lt ⟨t % 32, by omega⟩
theorem step_lt (c w : Nat) (hw : w < 256) : step c w < 1073741824 := by
  have h1 : c % 33554432 * 32 < 2 ^ 30 := by omega
  have h2 : w < 2 ^ 30 := by omega
  have h3 : mixUp (c / 33554432) 5 < 2 ^ 30 := mix_lt' _
  exact Nat.xor_lt_two_pow (Nat.xor_lt_two_pow h1 h2) h3
theorem chk_lt (l : Bs) : ∀ c, c < 1073741824 → chk c l < 1073741824 := by
  induction l with
  | nil => exact fun _ h => h
  | cons w l ih => exact fun c _ => ih _ (step_lt c _ w.toNat_lt)

/-- the move of a check, without a word -/
def T (c : Nat) : Nat := step c 0
theorem step_T (c w : Nat) : step c w = T c ^^^ w := by
  unfold T step
  rw [Nat.xor_zero, Nat.xor_assoc, Nat.xor_assoc, Nat.xor_comm w]
theorem T_xor {c d : Nat} (hc : c < 1073741824) (hd : d < 1073741824) : T (c ^^^ d) = T c ^^^ T d := by
  have e1 : (c ^^^ d) % 33554432 = c % 33554432 ^^^ d % 33554432 := Nat.xor_mod_two_pow (n := 25)
  have e2 : (c ^^^ d) / 33554432 = c / 33554432 ^^^ d / 33554432 := Nat.xor_div_two_pow (n := 25)
  have e3 : (c % 33554432 ^^^ d % 33554432) * 32 = c % 33554432 * 32 ^^^ d % 33554432 * 32 := by
    have := Nat.shiftLeft_xor_distrib (a := c % 33554432) (b := d % 33554432) (i := 5)
    simpa [Nat.shiftLeft_eq] using this
  have e4 := mix_xor ⟨c / 33554432, by omega⟩ ⟨d / 33554432, by omega⟩
  simp only at e4
  unfold T step
  rw [e1, e2, e3, e4]
  simp only [Nat.xor_zero]
  rw [Nat.xor_assoc, Nat.xor_assoc]
  congr 1
  rw [← Nat.xor_assoc, ← Nat.xor_assoc, Nat.xor_comm (d % 33554432 * 32)]
theorem T_small {c : Nat} (hc : c < 33554432) : T c = c * 32 := by
  unfold T step
  rw [Nat.mod_eq_of_lt hc, Nat.div_eq_of_lt hc]
  simp [mixUp]
theorem xor_cancel {a b c : Nat} (h : a ^^^ b = a ^^^ c) : b = c := by
  have : a ^^^ (a ^^^ b) = a ^^^ (a ^^^ c) := by rw [h]
  rwa [← Nat.xor_assoc, ← Nat.xor_assoc, Nat.xor_self, Nat.zero_xor, Nat.zero_xor] at this
theorem T_inj {c d : Nat} (hc : c < 1073741824) (hd : d < 1073741824) (h : T c = T d) : c = d := by
  have hm : ∀ x, T x % 32 = mixUp (x / 33554432) 5 % 32 := by
    intro x
    unfold T step
    have e1 : (x % 33554432 * 32 ^^^ 0 ^^^ mixUp (x / 33554432) 5) % 2 ^ 5 = (x % 33554432 * 32) % 2 ^ 5 ^^^ mixUp (x / 33554432) 5 % 2 ^ 5 := by
      rw [Nat.xor_zero]
      exact Nat.xor_mod_two_pow
    have e2 : x % 33554432 * 32 % 2 ^ 5 = 0 := by omega
    rw [e2, Nat.zero_xor] at e1
    exact e1
  have h1 : mixUp (c / 33554432) 5 % 32 = mixUp (d / 33554432) 5 % 32 := by rw [← hm, ← hm, h]
  have h2 : (⟨c / 33554432, by omega⟩ : Fin 32) = ⟨d / 33554432, by omega⟩ := mix_inj _ _ h1
  have h3 : c / 33554432 = d / 33554432 := congrArg Fin.val h2
  have h4 : c % 33554432 * 32 = d % 33554432 * 32 := by
    unfold T step at h
    rw [h3, Nat.xor_zero, Nat.xor_zero, Nat.xor_comm, Nat.xor_comm (d % 33554432 * 32)] at h
    exact xor_cancel h
  omega
theorem step_inj {c d w : Nat} (hc : c < 1073741824) (hd : d < 1073741824) (h : step c w = step d w) : c = d := by
  rw [step_T, step_T, Nat.xor_comm, Nat.xor_comm (T d)] at h
  exact T_inj hc hd (xor_cancel h)
theorem chk_inj (l : Bs) : ∀ c d, c < 1073741824 → d < 1073741824 → chk c l = chk d l → c = d := by
  induction l with
  | nil => exact fun _ _ _ _ h => h
  | cons w l ih =>
    intro c d hc hd h
    exact step_inj hc hd (ih _ _ (step_lt c _ w.toNat_lt) (step_lt d _ w.toNat_lt) h)
/-- one other word makes another check -/
theorem chk_one (a b : Bs) (x y : UInt8) (c : Nat) (h : x ≠ y) : chk c (a ++ x :: b) ≠ chk c (a ++ y :: b) := by
  rw [chk_append, chk_append]
  intro e
  have e1 := chk_inj b _ _ (step_lt (chk c a) _ x.toNat_lt) (step_lt (chk c a) _ y.toNat_lt) e
  rw [step_T, step_T] at e1
  exact h (UInt8.toNat_inj.1 (xor_cancel e1))

theorem dig_toNat (c i : Nat) : (dig c i).toNat = c / 2 ^ (5 * (5 - i)) % 32 := by
  unfold dig
  rw [UInt8.toNat_ofNat']
  omega
theorem xor_self_cancel (a b : Nat) : a ^^^ (a ^^^ b) = b := by rw [← Nat.xor_assoc, Nat.xor_self, Nat.zero_xor]
/-- six words behind: the check moves by them -/
theorem step_up {a x w : Nat} (ha : a < 1073741824) (hx : x < 33554432) (hw : w < 32) : step (a ^^^ x) w = step a 0 ^^^ (32 * x + w) := by
  rw [step_T, T_xor ha (by omega), T_small hx, Nat.xor_assoc]
  have : x * 32 ^^^ w = 32 * x + w := by
    have h1 := Nat.two_pow_add_eq_or_of_lt (i := 5) (b := w) (by omega) x
    have h2 : (2 ^ 5 * x) ^^^ w = 2 ^ 5 * x ||| w := by
      apply Nat.eq_of_testBit_eq
      intro i
      rw [Nat.testBit_xor, Nat.testBit_or, Nat.testBit_two_pow_mul]
      by_cases hi : 5 ≤ i
      · have : w.testBit i = false := Nat.testBit_lt_two_pow (Nat.lt_of_lt_of_le (show w < 2 ^ 5 by omega) (Nat.pow_le_pow_right (by omega) hi))
        rw [this]
        simp
      · have : decide (i ≥ 5) = false := by simpa using hi
        rw [this]
        simp
    rw [Nat.mul_comm]
    have h3 : (2 : Nat) ^ 5 = 32 := rfl
    rw [h3] at h1 h2
    rw [h2, ← h1]
  rw [this]
  rfl
theorem close_any {s : Nat} (hs : s < 1073741824) : chk s (closeW (chk s zeros ^^^ 1)) = 1 := by
  obtain ⟨c, hc⟩ : ∃ c, c = chk s zeros ^^^ 1 := ⟨_, rfl⟩
  have hcl : c < 1073741824 := by
    rw [hc]
    have h1 := chk_lt zeros s hs
    exact Nat.xor_lt_two_pow (n := 30) h1 (by omega)
  have e1 : chk s zeros ^^^ c = 1 := by rw [hc]; exact xor_self_cancel _ _
  rw [← hc, ← e1]
  show step (step (step (step (step (step s (dig c 0).toNat) (dig c 1).toNat) (dig c 2).toNat) (dig c 3).toNat) (dig c 4).toNat) (dig c 5).toNat = step (step (step (step (step (step s 0) 0) 0) 0) 0) 0 ^^^ c
  simp only [dig_toNat]
  have f0 := step_up (a := s) (x := 0) (w := c / 2 ^ (5 * (5 - 0)) % 32) hs (by omega) (by omega)
  rw [Nat.xor_zero] at f0
  have b1 := step_lt s 0 (by omega)
  have b2 := step_lt (step s 0) 0 (by omega)
  have b3 := step_lt (step (step s 0) 0) 0 (by omega)
  have b4 := step_lt (step (step (step s 0) 0) 0) 0 (by omega)
  have b5 := step_lt (step (step (step (step s 0) 0) 0) 0) 0 (by omega)
  rw [f0, step_up b1 (by omega) (by omega), step_up b2 (by omega) (by omega), step_up b3 (by omega) (by omega), step_up b4 (by omega) (by omega), step_up b5 (by omega) (by omega)]
  congr 1
  omega
theorem close_text (h ws : Bs) : chk 1 (headW h ++ (ws ++ encW h ws)) = 1 := by
  rw [← List.append_assoc, chk_append]
  unfold encW
  rw [← List.append_assoc, chk_append 1 (headW h ++ ws) zeros]
  exact close_any (chk_lt _ 1 (by omega))
end Go.Proofs.YtelfogdcijmenaaDoor
