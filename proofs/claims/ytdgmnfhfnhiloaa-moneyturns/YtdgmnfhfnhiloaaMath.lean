/- The mathematics of amounts. -/
namespace Go.Proofs.Ytdgmnfhfnhiloaa

/-- an amount -/
def rt (a : Int) : Bool := decide (0 ≤ a) && decide (a ≤ 2100000000000000000)
/-- coins -/
def rc (a : Int) : Bool := decide (0 ≤ a) && decide (a ≤ 2100000000000000)
theorem rt_iff {a : Int} : rt a = true ↔ 0 ≤ a ∧ a ≤ 2100000000000000000 := by simp [rt]
theorem rt_not {a : Int} : rt a = false ↔ a < 0 ∨ 2100000000000000000 < a := by
  rw [← Bool.not_eq_true, rt_iff]; omega
theorem rc_iff {a : Int} : rc a = true ↔ 0 ≤ a ∧ a ≤ 2100000000000000 := by simp [rc]
theorem rc_not {a : Int} : rc a = false ↔ a < 0 ∨ 2100000000000000 < a := by
  rw [← Bool.not_eq_true, rc_iff]; omega

/-- what is answered -/
def val (o : Option Int) : Int := o.getD 0
def err (o : Option Int) : Int := if o.isSome then 0 else 40
theorem val_some (v : Int) : val (some v) = v := rfl
theorem err_some (v : Int) : err (some v) = 0 := rfl
theorem val_none : val none = 0 := rfl
theorem err_none : err none = 40 := rfl

def addO (a b : Int) : Option Int := if rt a && rt b && rt (a + b) then some (a + b) else none
def subO (a b : Int) : Option Int := if rt a && rt b && decide (b ≤ a) then some (a - b) else none
/-- the sum of what is behind, and what is ahead -/
def sumGo (s : Int) : List Int → Option Int
  | [] => some s
  | a :: l => if rt a && rt (s + a) then sumGo (s + a) l else none
def sumO (l : List Int) : Option Int := sumGo 0 l
/-- the share, and what is answered for it -/
def shr (a b u : Int) : Int := a * b / u
def feeO (a b r : Int) : Option Int := if rt a && rt b && rt r && rt (shr a r 1000000) then addO b (shr a r 1000000) else none
def grossO (a b r : Int) : Option Int := (feeO a b r).bind (addO a)
def costO (r w : Int) : Option Int := if rc r && rc w && rc (shr r w 1000) then some (shr r w 1000) else none
def coinsO (a : Int) : Option Int := if rt a then some (a / 1000) else none
def restO (a : Int) : Option Int := if rt a then some (a % 1000) else none
def milliO (c : Int) : Option Int := if rc c then some (c * 1000) else none

theorem addO_yes {a b : Int} (h1 : rt a = true) (h2 : rt b = true) (h3 : rt (a + b) = true) : addO a b = some (a + b) := by simp [addO, h1, h2, h3]
theorem addO_no {a b : Int} (h : rt a = false ∨ rt b = false ∨ rt (a + b) = false) : addO a b = none := by
  unfold addO; rcases h with h | h | h <;> simp [h]
theorem sumO_two (a b : Int) : sumO [a, b] = addO a b := by
  unfold sumO sumGo sumGo sumGo addO
  rw [Int.zero_add]
  cases rt a <;> cases rt b <;> cases rt (a + b) <;> rfl
theorem sumO_three (a b c : Int) : sumO [a, b, c] = if rt a && rt b && rt (a + b) && rt c && rt (a + b + c) then some (a + b + c) else none := by
  unfold sumO sumGo sumGo sumGo sumGo
  rw [Int.zero_add]
  cases rt a <;> cases rt b <;> cases rt (a + b) <;> cases rt c <;> cases rt (a + b + c) <;> rfl
theorem subO_yes {a b : Int} (h1 : rt a = true) (h2 : rt b = true) (h3 : b ≤ a) : subO a b = some (a - b) := by simp [subO, h1, h2, h3]
theorem subO_no {a b : Int} (h : rt a = false ∨ rt b = false ∨ a < b) : subO a b = none := by
  unfold subO
  rcases h with h | h | h
  · simp [h]
  · simp [h]
  · have : decide (b ≤ a) = false := by simp; omega
    simp [this]
theorem sumGo_cons (s a : Int) (l : List Int) : sumGo s (a :: l) = if rt a && rt (s + a) then sumGo (s + a) l else none := rfl
theorem sumGo_add {s a : Int} {l : List Int} (hs : rt s = true) : sumGo s (a :: l) = (addO s a).bind fun t => sumGo t l := by
  rw [sumGo_cons, addO, hs]
  cases rt a <;> cases rt (s + a) <;> rfl
end Go.Proofs.Ytdgmnfhfnhiloaa
