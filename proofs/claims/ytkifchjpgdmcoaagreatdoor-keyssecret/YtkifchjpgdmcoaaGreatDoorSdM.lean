/- A row of secrets, told from its end: the mathematics of the store. -/
import Derived.Test.YtkifchjpgdmcoaaGreatDoorFrameAll
namespace Go.Proofs.YtkifchjpgdmcoaaGreatDoor
namespace Sd
variable (st : Bs → Nat → Bs × Nat)

/-- from a secret on, by the lowest k bits of a place -/
def fr : Nat → Nat → Bs → Bs × Nat
  | 0, _, x => (x, 0)
  | k + 1, i, x => if i.testBit k then (if (st x k).2 = 0 then fr k i (st x k).1 else ([], (st x k).2)) else fr k i x

theorem fr_congr {i j : Nat} : ∀ (k : Nat) (x : Bs), (∀ b, b < k → i.testBit b = j.testBit b) → fr st k i x = fr st k j x
  | 0, _, _ => rfl
  | k + 1, x, h => by
    have ih := fun x => fr_congr k x (fun b hb => h b (by omega))
    simp only [fr, h k (by omega), ih]

theorem fr_mod (k i : Nat) (x : Bs) : fr st k (i % 2 ^ k) x = fr st k i x :=
  fr_congr st k x (fun b hb => by rw [Nat.testBit_mod_two_pow]; simp [hb])

theorem fr_zero : ∀ (k : Nat) (x : Bs), fr st k 0 x = (x, 0)
  | 0, _ => rfl
  | k + 1, x => by simp [fr, fr_zero k x]

theorem fr_split {b e : Nat} (he : e < 2 ^ b) (x : Bs) : ∀ k, b < k → fr st k (2 ^ b + e) x = if (st x b).2 = 0 then fr st b e (st x b).1 else ([], (st x b).2)
  | 0, h => by omega
  | k + 1, h => by
    by_cases hk : k = b
    · subst hk
      have hb : (2 ^ k + e).testBit k = true := by rw [Nat.testBit_two_pow_add_eq]; simp [Nat.testBit_lt_two_pow he]
      simp only [fr, hb, if_true]
      congr 1
      exact fr_congr st k _ (fun b hb => by rw [Nat.testBit_two_pow_add_gt hb])
    · have hb : (2 ^ b + e).testBit k = false := by
        apply Nat.testBit_lt_two_pow
        have h1 : 2 ^ (b + 1) ≤ 2 ^ k := Nat.pow_le_pow_right (by omega) (by omega)
        rw [Nat.pow_succ] at h1; omega
      simp only [fr, hb]
      exact fr_split he x k (by omega)

theorem fr_pow {b k : Nat} (h : b < k) (x : Bs) : fr st k (2 ^ b) x = if (st x b).2 = 0 then ((st x b).1, 0) else ([], (st x b).2) := by
  have := fr_split st (Nat.two_pow_pos b) x k h
  rw [Nat.add_zero, fr_zero] at this; exact this

/-- the lowest k bits are 1, and the next is 0 -/
def Ones (c k : Nat) : Prop := (∀ b, b < k → c.testBit b = true) ∧ c.testBit k = false

theorem Ones.mod {c k : Nat} (h : Ones c k) : c % 2 ^ (k + 1) = 2 ^ k - 1 := by
  apply Nat.eq_of_testBit_eq
  intro b
  rw [Nat.testBit_mod_two_pow, Nat.testBit_two_pow_sub_one]
  by_cases h1 : b < k
  · simp [h1, h.1 b h1]; omega
  · by_cases h2 : b = k
    · subst h2; simp [h.2]
    · have : ¬ b < k + 1 := by omega
      simp [h1, this]
theorem Ones.modLow {c k b : Nat} (h : Ones c k) (hb : b ≤ k) : c % 2 ^ b = 2 ^ b - 1 := by
  apply Nat.eq_of_testBit_eq
  intro d
  rw [Nat.testBit_mod_two_pow, Nat.testBit_two_pow_sub_one]
  by_cases h1 : d < b
  · simp [h1, h.1 d (by omega)]
  · simp [h1]
theorem Ones.succMod {c k : Nat} (h : Ones c k) : (c + 1) % 2 ^ (k + 1) = 2 ^ k := by
  have h1 := h.mod
  have hp : 0 < 2 ^ k := Nat.two_pow_pos k
  have hd := Nat.div_add_mod c (2 ^ (k + 1))
  have e : c + 1 = 2 ^ k + 2 ^ (k + 1) * (c / 2 ^ (k + 1)) := by omega
  rw [e, Nat.add_mul_mod_self_left, Nat.mod_eq_of_lt (by rw [Nat.pow_succ]; omega)]
theorem Ones.succDiv {c k : Nat} (h : Ones c k) : (c + 1) / 2 ^ (k + 1) = c / 2 ^ (k + 1) := by
  have h1 := h.mod
  have hp : 0 < 2 ^ k := Nat.two_pow_pos k
  have hd := Nat.div_add_mod c (2 ^ (k + 1))
  have e : c + 1 = 2 ^ k + 2 ^ (k + 1) * (c / 2 ^ (k + 1)) := by omega
  have h2 : (2 ^ k + 2 ^ (k + 1) * (c / 2 ^ (k + 1))) / 2 ^ (k + 1) = c / 2 ^ (k + 1) := by
    rw [Nat.add_mul_div_left _ _ (Nat.two_pow_pos _), Nat.div_eq_of_lt (by rw [Nat.pow_succ]; omega), Nat.zero_add]
  rw [← e] at h2; exact h2
theorem Ones.high {c k j : Nat} (h : Ones c k) (hj : k < j) : (c + 1).testBit j = c.testBit j := by
  have e2 : j - (k + 1) + (k + 1) = j := by omega
  have a : ((c + 1) / 2 ^ (k + 1)).testBit (j - (k + 1)) = (c + 1).testBit (j - (k + 1) + (k + 1)) := Nat.testBit_div_two_pow (c + 1) (j - (k + 1))
  have b : (c / 2 ^ (k + 1)).testBit (j - (k + 1)) = c.testBit (j - (k + 1) + (k + 1)) := Nat.testBit_div_two_pow c (j - (k + 1))
  rw [h.succDiv] at a
  rw [e2] at a b
  rw [← a, ← b]
theorem mod_succ (x b : Nat) : x % 2 ^ (b + 1) = x % 2 ^ b + (if x.testBit b = true then 2 ^ b else 0) := by
  rw [Nat.pow_succ, Nat.mod_mul]
  have h := Nat.toNat_testBit x b
  have h2 := Nat.mod_lt (x / 2 ^ b) (show 2 > 0 by omega)
  cases hb : x.testBit b <;> rw [hb] at h <;> simp at h <;> simp <;> rw [← h] <;> simp
theorem Ones.here {c k : Nat} (h : Ones c k) : (c + 1).testBit k = true := by
  have := Nat.testBit_mod_two_pow (c + 1) (k + 1) k
  rw [h.succMod] at this; simpa using this.symm
theorem Ones.low {c k j : Nat} (h : Ones c k) (hj : j < k) : (c + 1).testBit j = false := by
  have := Nat.testBit_mod_two_pow (c + 1) (k + 1) j
  rw [h.succMod, Nat.testBit_two_pow_of_ne (by omega)] at this
  have h2 : j < k + 1 := by omega
  simpa [h2] using this.symm
theorem Ones.highMod {c k j : Nat} (h : Ones c k) (hj : k < j) : (c + 1) % 2 ^ j = c % 2 ^ j + 1 := by
  obtain ⟨d, rfl⟩ : ∃ d, j = (k + 1) + d := ⟨j - (k + 1), by omega⟩
  rw [Nat.pow_add, Nat.mod_mul, Nat.mod_mul, h.succDiv, h.succMod, h.mod]
  have hp : 0 < 2 ^ k := Nat.two_pow_pos k
  omega

/-- what is kept, by the number of bits that are 0, and all that was heard -/
structure Inv (H : List Bs) (R : Nat → Bs) : Prop where
  le : H.length ≤ 2 ^ 20
  bit : ∀ k, k ≤ 20 → (R k ≠ [] ↔ H.length.testBit k = true)
  row : ∀ k, k ≤ 20 → H.length.testBit k = true → ∀ e, e < 2 ^ k → fr st k e (R k) = (H.getD (H.length - 1 - H.length % 2 ^ k - e) [], 0)

theorem inv_nil : Inv st [] (fun _ => []) := ⟨by simp, by simp, by simp⟩

theorem Inv.add {H : List Bs} {R : Nat → Bs} {t : Bs} {k : Nat} (h : Inv st H R) (hc : H.length < 2 ^ 20) (hk : Ones H.length k) (ht : t ≠ [])
    (hall : ∀ b, b < k → fr st k (2 ^ b) t = (H.getD (H.length - 2 ^ b) [], 0)) :
    Inv st (H ++ [t]) (fun j => if j < k then [] else if j = k then t else R j) := by
  have hk20 : k ≤ 20 := by
    apply Nat.le_of_not_lt; intro hh
    have := hk.1 20 hh
    rw [Nat.testBit_lt_two_pow hc] at this; cases this
  have hl : (H ++ [t]).length = H.length + 1 := by simp
  refine ⟨by rw [hl]; omega, fun j hj => ?_, fun j hj hb e he => ?_⟩
  · rw [hl]
    by_cases h1 : j < k
    · simp [h1, hk.low h1]
    · by_cases h2 : j = k
      · subst h2; simp [hk.here, ht]
      · simp only [h1, h2, if_false]; rw [hk.high (by omega)]; exact h.bit j hj
  · rw [hl] at hb ⊢
    by_cases h1 : j < k
    · rw [hk.low h1] at hb; cases hb
    · by_cases h2 : j = k
      · subst h2
        simp only [Nat.lt_irrefl, if_false, if_true]
        have hm : (H.length + 1) % 2 ^ j = 0 := by
          have h3 : (H.length + 1) % 2 ^ (j + 1) % 2 ^ j = (H.length + 1) % 2 ^ j := Nat.mod_mod_of_dvd _ (Nat.pow_dvd_pow 2 (by omega))
          rw [← h3, hk.succMod, Nat.mod_self]
        rw [hm]
        by_cases he0 : e = 0
        · subst he0; rw [fr_zero]
          simp
        · obtain ⟨b, e', rfl, he', hbj⟩ : ∃ b e', e = 2 ^ b + e' ∧ e' < 2 ^ b ∧ b < j := by
            refine ⟨Nat.log2 e, e - 2 ^ Nat.log2 e, ?_, ?_, ?_⟩
            · have := Nat.log2_self_le he0; omega
            · have h4 : e < 2 ^ (e.log2 + 1) := Nat.lt_log2_self
              have h5 := Nat.log2_self_le he0
              rw [Nat.pow_succ] at h4; omega
            · exact (Nat.log2_lt he0).2 he
          rw [fr_split st he' t j hbj]
          have ha := hall b hbj
          rw [fr_pow st hbj] at ha
          have hle : 2 ^ b ≤ H.length := by
            have h6 := hk.modLow (b := b + 1) (by omega)
            have h7 := Nat.mod_le H.length (2 ^ (b + 1))
            rw [h6, Nat.pow_succ] at h7
            have := Nat.two_pow_pos b
            omega
          by_cases hs : (st t b).2 = 0
          · rw [if_pos hs] at ha ⊢
            have hx : (st t b).1 = R b := by
              have h8 := h.row b (by omega) (hk.1 b hbj) 0 (Nat.two_pow_pos b)
              rw [fr_zero, hk.modLow (by omega)] at h8
              have h9 := congrArg Prod.fst h8
              have h10 := congrArg Prod.fst ha
              have := Nat.two_pow_pos b
              rw [h10]; simp only at h9 ⊢; rw [h9]; congr 1; omega
            rw [hx, h.row b (by omega) (hk.1 b hbj) e' he', hk.modLow (by omega)]
            have := Nat.two_pow_pos b
            have hle2 : 2 ^ b + e' ≤ H.length := by
              have h6 := hk.modLow (b := j) (Nat.le_refl _)
              have h7 := Nat.mod_le H.length (2 ^ j)
              rw [h6] at h7
              omega
            have e1 : H.length - 1 - (2 ^ b - 1) - e' = H.length - (2 ^ b + e') := by omega
            have e2 : H.length + 1 - 1 - 0 - (2 ^ b + e') = H.length - (2 ^ b + e') := by omega
            rw [e1, e2]
            congr 1
            rw [List.getD_eq_getElem?_getD, List.getD_eq_getElem?_getD, List.getElem?_append_left (by omega)]
          · rw [if_neg hs] at ha
            exact absurd (congrArg Prod.snd ha) hs
      · have hjk : k < j := by omega
        have hb' : H.length.testBit j = true := by rw [← hk.high hjk]; exact hb
        simp only [h1, h2, if_false]
        rw [h.row j hj hb' e he, hk.highMod hjk]
        have hpos : H.length % 2 ^ j + 2 ^ j ≤ H.length := by
          have h5 := mod_succ H.length j
          rw [hb'] at h5
          have h6 := Nat.mod_le H.length (2 ^ (j + 1))
          simp at h5; omega
        have e2 : H.length + 1 - 1 - (H.length % 2 ^ j + 1) - e = H.length - 1 - H.length % 2 ^ j - e := by omega
        rw [e2]
        congr 1
        rw [List.getD_eq_getElem?_getD, List.getD_eq_getElem?_getD, List.getElem?_append_left (by omega)]

/-- what is kept that makes the secret so far above the last one -/
def mkr (R : Nat → Bs) : Nat → Nat → Nat → Bs × Nat
  | 0, _, _ => ([], 0)
  | n + 1, k, a => if R k = [] then mkr R n (k + 1) a else if a < 2 ^ k then (R k, k) else mkr R n (k + 1) (a - 2 ^ k)

theorem Inv.mkr_is {H : List Bs} {R : Nat → Bs} (h : Inv st H R) {a : Nat} (ha : a < H.length) : ∀ n k, n + k = 21 → H.length % 2 ^ k ≤ a →
    ∃ j, mkr R n k (a - H.length % 2 ^ k) = (R j, j) ∧ j ≤ 20 ∧ H.length.testBit j = true ∧ H.length % 2 ^ j ≤ a ∧ a < H.length % 2 ^ j + 2 ^ j
  | 0, k, hk, hm => by
    obtain rfl : k = 21 := by omega
    rw [Nat.mod_eq_of_lt (by have := h.le; omega)] at hm; omega
  | n + 1, k, hk, hm => by
    have h5 := mod_succ H.length k
    unfold mkr
    by_cases hb : H.length.testBit k = true
    · have hR := (h.bit k (by omega)).2 hb
      rw [hb] at h5; simp at h5
      rw [if_neg hR]
      by_cases hlt : a - H.length % 2 ^ k < 2 ^ k
      · rw [if_pos hlt]
        exact ⟨k, rfl, by omega, hb, hm, by omega⟩
      · rw [if_neg hlt]
        have e : a - H.length % 2 ^ k - 2 ^ k = a - H.length % 2 ^ (k + 1) := by omega
        rw [e]
        exact h.mkr_is ha n (k + 1) (by omega) (by omega)
    · have hR : R k = [] := by
        by_cases hR : R k = []
        · exact hR
        · exact absurd ((h.bit k (by omega)).1 hR) hb
      have hb' : H.length.testBit k = false := by simpa using hb
      rw [hb'] at h5; simp at h5
      rw [if_pos hR, ← h5]
      exact h.mkr_is ha n (k + 1) (by omega) (by omega)

/-- what is told of a place -/
theorem Inv.get {H : List Bs} {R : Nat → Bs} (h : Inv st H R) {i : Nat} (h1 : 2 ^ 20 - H.length ≤ i) (h2 : i < 2 ^ 20) :
    fr st (mkr R 21 0 (i - (2 ^ 20 - H.length))).2 i (mkr R 21 0 (i - (2 ^ 20 - H.length))).1 = (H.getD (2 ^ 20 - 1 - i) [], 0) := by
  have hle := h.le
  obtain ⟨j, e, hj, hb, ha, hb2⟩ := h.mkr_is st (a := i - (2 ^ 20 - H.length)) (by omega) 21 0 rfl (by simp; omega)
  rw [show H.length % 2 ^ 0 = 0 from by simp [Nat.mod_one], Nat.sub_zero] at e
  rw [e]
  show fr st j i (R j) = _
  have hp : 0 < 2 ^ j := Nat.two_pow_pos j
  have hd : i % 2 ^ j = i - (2 ^ 20 - H.length) - H.length % 2 ^ j := by
    have e1 : (2 : Nat) ^ 20 = 2 ^ j * 2 ^ (20 - j) := by rw [← Nat.pow_add]; congr 1; omega
    have e2 := Nat.div_add_mod H.length (2 ^ j)
    have hle3 : H.length / 2 ^ j ≤ 2 ^ (20 - j) := by
      apply Nat.div_le_of_le_mul
      rw [← e1]; exact hle
    have e3 : i = (i - (2 ^ 20 - H.length) - H.length % 2 ^ j) + 2 ^ j * (2 ^ (20 - j) - H.length / 2 ^ j) := by
      rw [Nat.mul_sub, ← e1]
      have : 2 ^ j * (H.length / 2 ^ j) ≤ 2 ^ 20 := by rw [e1]; exact Nat.mul_le_mul_left _ hle3
      omega
    have e4 := Nat.add_mul_mod_self_left (i - (2 ^ 20 - H.length) - H.length % 2 ^ j) (2 ^ j) (2 ^ (20 - j) - H.length / 2 ^ j)
    rw [← e3, Nat.mod_eq_of_lt (by omega : i - (2 ^ 20 - H.length) - H.length % 2 ^ j < 2 ^ j)] at e4
    exact e4
  rw [← fr_mod, hd, h.row j hj hb _ (by omega)]
  congr 2
  omega
/-- the entry that is met when the secret at i comes: what was heard at i + 2^b -/
theorem Inv.low {H : List Bs} {R : Nat → Bs} {k b : Nat} (h : Inv st H R) (hk : Ones H.length k) (hb : b < k) (hb20 : b ≤ 20) : R b = H.getD (H.length - 2 ^ b) [] := by
  have h8 := h.row b hb20 (hk.1 b hb) 0 (Nat.two_pow_pos b)
  rw [fr_zero, hk.modLow (by omega)] at h8
  have h9 := congrArg Prod.fst h8
  have := Nat.two_pow_pos b
  simp only at h9
  rw [h9]; congr 1; omega

/-- how many bits are 0 from the lowest one on -/
def lowF : Nat → Nat → Nat → Nat
  | 0, k, _ => k
  | n + 1, k, i => if i.testBit k then k else lowF n (k + 1) i
def low (i : Nat) : Nat := lowF 20 0 i
theorem lowF_is (i : Nat) : ∀ n k, n + k = 20 → (∀ b, b < k → i.testBit b = false) → lowF n k i ≤ 20 ∧ (∀ b, b < lowF n k i → i.testBit b = false) ∧ (lowF n k i < 20 → i.testBit (lowF n k i) = true)
  | 0, k, hk, h => by simp only [lowF]; exact ⟨by omega, h, by omega⟩
  | n + 1, k, hk, h => by
    unfold lowF
    by_cases hb : i.testBit k = true
    · rw [if_pos hb]; exact ⟨by omega, h, fun _ => hb⟩
    · rw [if_neg hb]
      exact lowF_is i n (k + 1) (by omega) (fun b hb2 => by
        by_cases e : b = k
        · subst e; simpa using hb
        · exact h b (by omega))
theorem low_is (i : Nat) : low i ≤ 20 ∧ (∀ b, b < low i → i.testBit b = false) ∧ (low i < 20 → i.testBit (low i) = true) := lowF_is i 20 0 rfl (by omega)
theorem low_ones {c : Nat} (hc : c < 2 ^ 20) : Ones c (low (2 ^ 20 - 1 - c)) := by
  obtain ⟨h1, h2, h3⟩ := low_is (2 ^ 20 - 1 - c)
  have hb : ∀ b, (2 ^ 20 - 1 - c).testBit b = (decide (b < 20) && !c.testBit b) := fun b => by
    rw [show 2 ^ 20 - 1 - c = 2 ^ 20 - (c + 1) from by omega]
    exact Nat.testBit_two_pow_sub_succ hc b
  refine ⟨fun b hb2 => ?_, ?_⟩
  · have := h2 b hb2
    rw [hb] at this
    have hd : b < 20 := by omega
    simpa [hd] using this
  · by_cases h20 : low (2 ^ 20 - 1 - c) < 20
    · have := h3 h20
      rw [hb] at this
      simpa [h20] using this
    · have e : low (2 ^ 20 - 1 - c) = 20 := by omega
      rw [e]; exact Nat.testBit_lt_two_pow hc
theorem low_mod (i : Nat) : i % 2 ^ low i = 0 := by
  apply Nat.eq_of_testBit_eq
  intro b
  rw [Nat.testBit_mod_two_pow, Nat.zero_testBit]
  by_cases h : b < low i
  · simp [(low_is i).2.1 b h]
  · simp [h]

/-- is a place's secret kept: the document's asking, from a place downward -/
def kpF (p : Nat) : Nat → Nat → Bool
  | 0, _ => true
  | n + 1, j => if p >>> low j = j >>> low j then false else kpF p n (j - 1)
def kp (p c : Nat) : Bool := kpF p (p - (2 ^ 20 - c)) (p - 1)
def cntF (c : Nat) : Nat → Nat → Nat
  | 0, _ => 0
  | n + 1, i => (if kp (2 ^ 20 - 1 - i) c then 1 else 0) + cntF c n (i + 1)
def popF (c : Nat) : Nat → Nat → Nat
  | 0, _ => 0
  | n + 1, k => (if c.testBit k then 1 else 0) + popF c n (k + 1)
def cntOk : Nat → Bool
  | 0 => true
  | n + 1 => (cntF n n 0 == popF n 21 0) && cntOk n
set_option maxRecDepth 100000 in
theorem cnt_all : cntOk 90 = true := by decide +kernel
theorem cnt_le : ∀ (n c : Nat), cntOk n = true → c < n → cntF c c 0 = popF c 21 0
  | 0, _, _, h => by omega
  | n + 1, c, hn, h => by
    simp only [cntOk, Bool.and_eq_true, beq_iff_eq] at hn
    by_cases e : c = n
    · subst e; exact hn.1
    · exact cnt_le n c hn.2 (by omega)
theorem cnt_is {c : Nat} (h : c < 90) : cntF c c 0 = popF c 21 0 := cnt_le 90 c cnt_all h
/-- of the places behind i that have its high bits, just those at i + 2^b are kept -/
def kpOkF (c : Nat) : Nat → Bool
  | 0 => true
  | m + 1 => (m == 0 || kp (2 ^ 20 - 1 - c + m) c == decide (2 ^ Nat.log2 m = m)) && kpOkF c m
def kpOk : Nat → Bool
  | 0 => true
  | n + 1 => kpOkF n (2 ^ low (2 ^ 20 - 1 - n)) && kpOk n
set_option maxRecDepth 100000 in
theorem kp_all : kpOk 90 = true := by decide +kernel
end Sd
end Go.Proofs.YtkifchjpgdmcoaaGreatDoor
