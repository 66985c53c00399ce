/- Rows of bits: the document's words. -/
import Derived.Test.YtelfogdcijmenaaDoorMath
namespace Go.Proofs.YtelfogdcijmenaaDoor

/-- k bits of a number, the highest first -/
def bitsOf : Nat → Nat → Bs
  | 0, _ => []
  | k + 1, n => UInt8.ofNat (n / 2 ^ k % 2) :: bitsOf k n
def numFrom (a : Nat) : Bs → Nat
  | [] => a
  | x :: l => numFrom (2 * a + x.toNat) l
/-- the number of bits -/
def numB (l : Bs) : Nat := numFrom 0 l
/-- numbers as one row of bits -/
def rowB (f : Nat) (b : Bs) : Bs := b.flatMap (fun c => bitsOf f c.toNat)
def cutN (t : Nat) : Nat → Bs → Bs
  | 0, _ => []
  | k + 1, R => UInt8.ofNat (numB (R.take t)) :: cutN t k (R.drop t)
/-- pieces of t bits -/
def cutB (t : Nat) (R : Bs) : Bs := cutN t (R.length / t) R
/-- what is left -/
def restB (t : Nat) (R : Bs) : Bs := R.drop (R.length / t * t)
def overB (f : Nat) (c : UInt8) : Bool := decide (2 ^ f ≤ c.toNat)
/-- what Bits tells, where the numbers of bits may be -/
def bitsB (b : Bs) (f t : Nat) (pad : Bool) : Bs × Nat :=
  if b.any (overB f) = true then ([], 50)
  else if pad = true then (if restB t (rowB f b) = [] then (cutB t (rowB f b), 0) else (cutB t (rowB f b) ++ [UInt8.ofNat (numB (restB t (rowB f b)) * 2 ^ (t - (restB t (rowB f b)).length))], 0))
  else if f ≤ (restB t (rowB f b)).length ∨ numB (restB t (rowB f b)) ≠ 0 then ([], 50) else (cutB t (rowB f b), 0)
/-- what Bits tells -/
def bitsR (b : Bs) (f t : Int) (pad : Bool) : Bs × Nat :=
  if f < 1 ∨ 8 < f ∨ t < 1 ∨ 8 < t then ([], 2) else bitsB b f.toNat t.toNat pad

def Bit (l : Bs) : Prop := ∀ x ∈ l, x.toNat ≤ 1
theorem bits_len (k n : Nat) : (bitsOf k n).length = k := by
  induction k with
  | zero => rfl
  | succ k ih => simp [bitsOf, ih]
theorem bits_bit (k n : Nat) : Bit (bitsOf k n) := by
  induction k with
  | zero => intro x hx; cases hx
  | succ k ih =>
    intro x hx
    rcases List.mem_cons.1 hx with rfl | h
    · rw [UInt8.toNat_ofNat']; omega
    · exact ih x h
theorem numFrom_eq (l : Bs) : ∀ a, numFrom a l = a * 2 ^ l.length + numB l := by
  unfold numB
  induction l with
  | nil => intro a; simp [numFrom]
  | cons x l ih =>
    intro a
    simp only [numFrom, List.length_cons]
    rw [ih, ih (2 * 0 + x.toNat), Nat.pow_succ, Nat.add_mul, Nat.mul_comm 2 a, Nat.mul_assoc, Nat.mul_comm 2 (2 ^ l.length)]
    simp
    omega
theorem num_cons (x : UInt8) (l : Bs) : numB (x :: l) = x.toNat * 2 ^ l.length + numB l := by
  unfold numB
  simp only [numFrom]
  rw [numFrom_eq]
  simp [numB]
theorem numFrom_app (a b : Bs) : ∀ c, numFrom c (a ++ b) = numFrom (numFrom c a) b := by
  induction a with
  | nil => intro c; rfl
  | cons x a ih => intro c; exact ih _
theorem num_app (a b : Bs) : numB (a ++ b) = numB a * 2 ^ b.length + numB b := by
  unfold numB
  rw [numFrom_app, numFrom_eq]
  rfl
theorem num_lt {l : Bs} (h : Bit l) : numB l < 2 ^ l.length := by
  induction l with
  | nil => simp [numB, numFrom]
  | cons x l ih =>
    have h1 := h x (by simp)
    have h2 := ih (fun y hy => h y (by simp [hy]))
    rw [num_cons, List.length_cons, Nat.pow_succ]
    have : x.toNat * 2 ^ l.length ≤ 1 * 2 ^ l.length := Nat.mul_le_mul_right _ h1
    omega
theorem num_bits (k n : Nat) : numB (bitsOf k n) = n % 2 ^ k := by
  induction k with
  | zero => simp [bitsOf, numB, numFrom, Nat.mod_one]
  | succ k ih =>
    rw [bitsOf, num_cons, bits_len, ih, UInt8.toNat_ofNat']
    have h2 : n / 2 ^ k % 2 % 2 ^ 8 = n / 2 ^ k % 2 := Nat.mod_eq_of_lt (by omega)
    rw [h2, Nat.mod_pow_succ, Nat.mul_comm (2 ^ k)]
    omega
theorem bits_num {l : Bs} (h : Bit l) : bitsOf l.length (numB l) = l := by
  have key : ∀ (l : Bs), Bit l → ∀ n, n % 2 ^ l.length = numB l → bitsOf l.length n = l := by
    intro l
    induction l with
    | nil => intro _ n _; rfl
    | cons x l ih =>
      intro h n hn
      have h1 := h x (by simp)
      have hb : Bit l := fun y hy => h y (by simp [hy])
      have hl := num_lt hb
      rw [num_cons, List.length_cons] at hn
      have e1 : n / 2 ^ l.length % 2 = x.toNat := by
        rw [Nat.mod_pow_succ] at hn
        have h3 : n % 2 ^ l.length < 2 ^ l.length := Nat.mod_lt _ (Nat.two_pow_pos _)
        have h4 : (n % 2 ^ l.length + 2 ^ l.length * (n / 2 ^ l.length % 2)) / 2 ^ l.length = n / 2 ^ l.length % 2 := by
          rw [Nat.add_mul_div_left _ _ (Nat.two_pow_pos _), Nat.div_eq_of_lt h3, Nat.zero_add]
        rw [← h4, hn, Nat.add_comm, Nat.add_mul_div_right _ _ (Nat.two_pow_pos _), Nat.div_eq_of_lt hl, Nat.zero_add]
      have e2 : n % 2 ^ l.length = numB l := by
        have h3 : n % 2 ^ (l.length + 1) % 2 ^ l.length = n % 2 ^ l.length := Nat.mod_mod_of_dvd _ (Nat.pow_dvd_pow 2 (by omega))
        rw [← h3, hn, Nat.add_comm, Nat.add_mul_mod_self_right, Nat.mod_eq_of_lt hl]
      rw [List.length_cons, bitsOf, ih hb n e2, e1]
      congr 1
      apply UInt8.toNat_inj.1
      rw [UInt8.toNat_ofNat']
      omega
  exact key l h (numB l) (Nat.mod_eq_of_lt (num_lt h))
theorem cut_lt {t : Nat} {L : Bs} (h : L.length < t) : cutB t L = [] ∧ restB t L = L := by
  unfold cutB restB
  rw [Nat.div_eq_of_lt h, Nat.zero_mul]
  exact ⟨rfl, rfl⟩
theorem cut_ge {t : Nat} {L : Bs} (ht : 0 < t) (h : t ≤ L.length) : cutB t L = UInt8.ofNat (numB (L.take t)) :: cutB t (L.drop t) ∧ restB t L = restB t (L.drop t) := by
  have e : L.length / t = (L.drop t).length / t + 1 := by
    rw [List.length_drop, ← Nat.div_eq_sub_div ht h]
  unfold cutB restB
  rw [e]
  refine ⟨rfl, ?_⟩
  rw [List.drop_drop]
  congr 1
  rw [Nat.add_mul, Nat.one_mul, Nat.add_comm]
theorem cut_app {t : Nat} (ht : 0 < t) (X : Bs) : ∀ (n : Nat) (R : Bs), R.length ≤ n → cutB t (R ++ X) = cutB t R ++ cutB t (restB t R ++ X) ∧ restB t (R ++ X) = restB t (restB t R ++ X) := by
  intro n
  induction n with
  | zero =>
    intro R hR
    have : R = [] := List.length_eq_zero_iff.1 (by omega)
    subst this
    have := cut_lt (t := t) (L := []) (by simpa using ht)
    rw [this.1, this.2]
    exact ⟨rfl, rfl⟩
  | succ n ih =>
    intro R hR
    by_cases h : R.length < t
    · have := cut_lt h
      rw [this.1, this.2]
      exact ⟨rfl, rfl⟩
    · have h1 := cut_ge ht (by omega : t ≤ R.length)
      have h2 := cut_ge (L := R ++ X) ht (by rw [List.length_append]; omega)
      have e1 : (R ++ X).take t = R.take t := List.take_append_of_le_length (by omega)
      have e2 : (R ++ X).drop t = R.drop t ++ X := List.drop_append_of_le_length (by omega)
      rw [e1, e2] at h2
      have h3 := ih (R.drop t) (by rw [List.length_drop]; omega)
      rw [h1.1, h1.2, h2.1, h2.2, h3.1, h3.2]
      exact ⟨rfl, rfl⟩
theorem rest_lt {t : Nat} (ht : 0 < t) (R : Bs) : (restB t R).length < t := by
  unfold restB
  rw [List.length_drop]
  have := Nat.div_add_mod R.length t
  have h2 := Nat.mod_lt R.length ht
  rw [Nat.mul_comm] at this
  omega
theorem rest_bit {t : Nat} {R : Bs} (h : Bit R) : Bit (restB t R) := fun x hx => h x (List.mem_of_mem_drop hx)
theorem row_bit (f : Nat) (b : Bs) : Bit (rowB f b) := by
  intro x hx
  unfold rowB at hx
  obtain ⟨c, _, h⟩ := List.mem_flatMap.1 hx
  exact bits_bit f _ x h
theorem row_app (f : Nat) (a b : Bs) : rowB f (a ++ b) = rowB f a ++ rowB f b := by unfold rowB; rw [List.flatMap_append]
theorem row_len (f : Nat) (b : Bs) : (rowB f b).length = f * b.length := by
  induction b with
  | nil => rfl
  | cons c b ih =>
    have : rowB f (c :: b) = bitsOf f c.toNat ++ rowB f b := rfl
    rw [this, List.length_append, bits_len, ih, List.length_cons, Nat.mul_succ, Nat.add_comm]
/-- pieces, as a row again -/
theorem row_cut {t : Nat} (ht : 0 < t) (h8 : t ≤ 8) : ∀ (n : Nat) (R : Bs), R.length ≤ n → Bit R → rowB t (cutB t R) ++ restB t R = R ∧ ∀ c ∈ cutB t R, c.toNat < 2 ^ t := by
  intro n
  induction n with
  | zero =>
    intro R hR _
    have : R = [] := List.length_eq_zero_iff.1 (by omega)
    subst this
    have := cut_lt (t := t) (L := []) (by simpa using ht)
    rw [this.1, this.2]
    exact ⟨rfl, fun c hc => by cases hc⟩
  | succ n ih =>
    intro R hR hb
    by_cases h : R.length < t
    · have := cut_lt h
      rw [this.1, this.2]
      exact ⟨rfl, fun c hc => by cases hc⟩
    · have h1 := cut_ge ht (by omega : t ≤ R.length)
      have hbt : Bit (R.take t) := fun x hx => hb x (List.mem_of_mem_take hx)
      have h3 := ih (R.drop t) (by rw [List.length_drop]; omega) (fun x hx => hb x (List.mem_of_mem_drop hx))
      have hl : (R.take t).length = t := by rw [List.length_take]; omega
      have hn := num_lt hbt
      rw [hl] at hn
      have h256 : numB (R.take t) < 256 := Nat.lt_of_lt_of_le hn (by
        have := Nat.pow_le_pow_right (n := 2) (by omega) h8
        simpa using this)
      have en : (UInt8.ofNat (numB (R.take t))).toNat = numB (R.take t) := by
        rw [UInt8.toNat_ofNat']
        exact Nat.mod_eq_of_lt h256
      have hbn := bits_num hbt
      rw [hl] at hbn
      refine ⟨?_, fun c hc => ?_⟩
      · rw [h1.1, h1.2]
        have e : rowB t (UInt8.ofNat (numB (R.take t)) :: cutB t (R.drop t)) = bitsOf t (UInt8.ofNat (numB (R.take t))).toNat ++ rowB t (cutB t (R.drop t)) := rfl
        rw [e, en, hbn, List.append_assoc, h3.1, List.take_append_drop]
      · rw [h1.1] at hc
        rcases List.mem_cons.1 hc with rfl | hc
        · rw [en]; exact hn
        · exact h3.2 c hc
/-- numbers, cut of their own row -/
theorem cut_row {f : Nat} (hf : 0 < f) (_h8 : f ≤ 8) (X : Bs) : ∀ (b : Bs), (∀ c ∈ b, c.toNat < 2 ^ f) → cutB f (rowB f b ++ X) = b ++ cutB f X ∧ restB f (rowB f b ++ X) = restB f X := by
  intro b
  induction b with
  | nil => intro _; exact ⟨rfl, rfl⟩
  | cons c b ih =>
    intro h
    have e : rowB f (c :: b) ++ X = bitsOf f c.toNat ++ (rowB f b ++ X) := by
      have : rowB f (c :: b) = bitsOf f c.toNat ++ rowB f b := rfl
      rw [this, List.append_assoc]
    have h1 := cut_ge (L := bitsOf f c.toNat ++ (rowB f b ++ X)) hf (by rw [List.length_append, bits_len]; omega)
    have e1 : (bitsOf f c.toNat ++ (rowB f b ++ X)).take f = bitsOf f c.toNat := by
      have := List.take_left' (l₁ := bitsOf f c.toNat) (l₂ := rowB f b ++ X) (bits_len f c.toNat)
      exact this
    have e2 : (bitsOf f c.toNat ++ (rowB f b ++ X)).drop f = rowB f b ++ X := List.drop_left' (bits_len f c.toNat)
    have h2 := ih (fun y hy => h y (by simp [hy]))
    have hc := h c (by simp)
    rw [e1, e2, num_bits, Nat.mod_eq_of_lt hc] at h1
    rw [e, h1.1, h1.2, h2.1, h2.2]
    refine ⟨?_, rfl⟩
    rw [UInt8.ofNat_toNat]
    rfl
theorem num_zeros (k : Nat) : numB (List.replicate k 0) = 0 := by
  induction k with
  | zero => rfl
  | succ k ih => rw [List.replicate_succ, num_cons, ih]; simp
theorem over_no {f : Nat} {b : Bs} (h : ∀ c ∈ b, c.toNat < 2 ^ f) : b.any (overB f) = false := by
  rw [List.any_eq_false]
  intro c hc
  have := h c hc
  simp [overB]
  omega
/-- bytes as words of five bits, and back -/
theorem bits_back (ws : Bs) : ∃ five, bitsB ws 8 5 true = (five, 0) ∧ bitsB five 5 8 false = (ws, 0) := by
  have hw : ∀ c ∈ ws, c.toNat < 2 ^ 8 := fun c _ => c.toNat_lt
  have hR := row_bit 8 ws
  obtain ⟨hrow, hlt⟩ := row_cut (t := 5) (by omega) (by omega) _ (rowB 8 ws) (Nat.le_refl _) hR
  have hrl := rest_lt (t := 5) (by omega) (rowB 8 ws)
  have hrb := rest_bit (t := 5) hR
  obtain ⟨r, hr⟩ : ∃ r, r = restB 5 (rowB 8 ws) := ⟨_, rfl⟩
  rw [← hr] at hrow hrl hrb
  have back : ∀ (five Z : Bs), rowB 5 five = rowB 8 ws ++ Z → (∀ c ∈ five, c.toNat < 2 ^ 5) → Z.length < 5 → numB Z = 0 → bitsB five 5 8 false = (ws, 0) := by
    intro five Z h1 h2 h3 h4
    have h5 := cut_row (f := 8) (by omega) (by omega) Z ws hw
    have h6 := cut_lt (t := 8) (L := Z) (by omega)
    rw [h6.1, h6.2] at h5
    unfold bitsB
    rw [if_neg (by rw [over_no h2]; decide), if_neg (by decide), h1, h5.1, h5.2, if_neg (by rw [h4]; omega), List.append_nil]
  by_cases h0 : r = []
  · refine ⟨cutB 5 (rowB 8 ws), ?_, back _ [] ?_ hlt (by simp) rfl⟩
    · unfold bitsB
      rw [if_neg (by rw [over_no hw]; decide), if_pos rfl, ← hr, if_pos h0]
    · rw [List.append_nil]
      rw [h0, List.append_nil] at hrow
      exact hrow
  · obtain ⟨x, hx⟩ : ∃ x, x = UInt8.ofNat (numB r * 2 ^ (5 - r.length)) := ⟨_, rfl⟩
    have hn := num_lt hrb
    have hz : numB (r ++ List.replicate (5 - r.length) 0) = numB r * 2 ^ (5 - r.length) := by rw [num_app, num_zeros, List.length_replicate, Nat.add_zero]
    have hzb : Bit (r ++ List.replicate (5 - r.length) 0) := fun y hy => by
      rcases List.mem_append.1 hy with h | h
      · exact hrb y h
      · rw [List.eq_of_mem_replicate h]; decide
    have hzl : (r ++ List.replicate (5 - r.length) 0).length = 5 := by rw [List.length_append, List.length_replicate]; omega
    have hzn := num_lt hzb
    rw [hzl, hz] at hzn
    have hxn : x.toNat = numB r * 2 ^ (5 - r.length) := by
      rw [hx, UInt8.toNat_ofNat']
      exact Nat.mod_eq_of_lt (by omega)
    have hbx := bits_num hzb
    rw [hzl, hz, ← hxn] at hbx
    refine ⟨cutB 5 (rowB 8 ws) ++ [x], ?_, back _ (List.replicate (5 - r.length) 0) ?_ ?_ ?_ (num_zeros _)⟩
    · unfold bitsB
      rw [if_neg (by rw [over_no hw]; decide), if_pos rfl, ← hr, if_neg h0, ← hx]
    · rw [row_app]
      have e : rowB 5 [x] = bitsOf 5 x.toNat := by unfold rowB; simp
      rw [e, hbx, ← List.append_assoc, hrow]
    · intro c hc
      rcases List.mem_append.1 hc with h | h
      · exact hlt c h
      · rw [List.mem_singleton.1 h, hxn]; exact hzn
    · rw [List.length_replicate]
      have : 0 < r.length := List.length_pos_iff.2 h0
      omega
end Go.Proofs.YtelfogdcijmenaaDoor
