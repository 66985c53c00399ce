/- The messages of WireKnown, and what the document says of them. No program in it. -/
import Derived.Test.YtdhmmllpioppfaaWCutM
import Derived.Test.YtdhmmllpioppfaaWMay
namespace Go.Proofs.Ytdhmmllpioppfaa.V

def k1 : Msg := ⟨18, [], [5], [], [], []⟩
def k2 : Msg := ⟨999, [], [], [], [120], [(1, [9])]⟩
def k3 : Msg := ⟨18, [], [-1], [], [], []⟩
def k1b : Bs := [0, 18, 0, 1, 0, 0, 0, 0, 0, 0, 0, 5, 0, 0]
def k2b : Bs := [3, 231, 0, 0, 0, 1, 120, 1, 1, 9]
def k3b : Bs := [0, 18, 0, 1, 255, 255, 255, 255, 255, 255, 255, 255, 0, 0]
theorem k1_enc : encR k1 = (k1b, 0) := by decide +kernel
theorem k2_enc : encR k2 = (k2b, 0) := by decide +kernel
theorem k3_enc : encR k3 = (k3b, 0) := by decide +kernel
theorem k3_fit : MFit k3 := ⟨by decide, by decide, fun _ h => by cases h⟩
theorem k3_dec : decR k3b = (k3, 0) := dec_enc k3_fit k3_enc
theorem few_nil : Few [] := ⟨by decide, fun i hi => by simp at hi⟩
theorem few_one (t : Nat) (b : Bs) (ht : t < 18446744073709551616) (hb : b.length ≤ 140737488355328) : Few [(t, b)] :=
  ⟨by simp, fun i hi => by
    have e : i = 0 := by simpa using hi
    subst e
    exact ⟨ht, hb⟩⟩
theorem few_two (t u : Nat) (b c : Bs) (ht : t < 18446744073709551616) (hb : b.length ≤ 140737488355328) (hu : u < 18446744073709551616) (hc : c.length ≤ 140737488355328) : Few [(t, b), (u, c)] :=
  ⟨by simp, fun i hi => by
    match i, hi with
    | 0, _ => exact ⟨ht, hb⟩
    | 1, _ => exact ⟨hu, hc⟩⟩
theorem k1_len : MLen k1 := ⟨by decide, by decide, by decide, by decide, by decide, few_nil⟩
theorem k2_len : MLen k2 := ⟨by decide, by decide, by decide, by decide, by decide, few_one _ _ (by decide) (by decide)⟩
theorem k3_len : MLen k3 := ⟨by decide, by decide, by decide, by decide, by decide, few_nil⟩

/-! refused -/
theorem may_tx {m : Msg} (h : 4096 < m.tx.length) : mayB m = false := by
  unfold mayB
  rw [show decide (m.tx.length ≤ 4096) = false by simpa using h]
  simp
theorem may_ch {m : Msg} (h : 100 < m.ch.length) : mayB m = false := by
  unfold mayB
  rw [show decide (m.ch.length ≤ 100) = false by simpa using h]
  simp
theorem rep_len {n : Nat} (h : n ≤ 140737488355328) : (List.replicate n (0 : UInt8)).length ≤ 140737488355328 := by
  rw [List.length_replicate]
  exact h
def r1 : Msg := ⟨18, [], [], [], [], []⟩
def r2 : Msg := ⟨1000, [], [], [], [], []⟩
def r3 : Msg := ⟨18, [], [1], [], [], [(2, [])]⟩
def r4 : Msg := ⟨18, [], [1], [], [], [(3, []), (1, [])]⟩
def r5 : Msg := ⟨35, [], [], [[110]], [], []⟩
def r6 : Msg := ⟨999, [], List.replicate 33 0, [], [], []⟩
def r7 : Msg := ⟨999, [], [], [], List.replicate 4097 0, []⟩
def r8 : Msg := ⟨999, List.replicate 101 0, [], [], [], []⟩
theorem r1_no : mayB r1 = false := by decide +kernel
theorem r2_no : mayB r2 = false := by decide +kernel
theorem r3_no : mayB r3 = false := by decide +kernel
theorem r4_no : mayB r4 = false := by decide +kernel
theorem r5_no : mayB r5 = false := by decide +kernel
theorem r6_no : mayB r6 = false := by decide +kernel
theorem r7_no : mayB r7 = false := may_tx (m := r7) (by show 4096 < (List.replicate 4097 (0 : UInt8)).length; rw [List.length_replicate]; omega)
theorem r8_no : mayB r8 = false := may_ch (m := r8) (by show 100 < (List.replicate 101 (0 : UInt8)).length; rw [List.length_replicate]; omega)
theorem r1_len : MLen r1 := ⟨by decide, by decide, by decide, by decide, by decide, few_nil⟩
theorem r2_len : MLen r2 := ⟨by decide, by decide, by decide, by decide, by decide, few_nil⟩
theorem r3_len : MLen r3 := ⟨by decide, by decide, by decide, by decide, by decide, few_one _ _ (by decide) (by decide)⟩
theorem r4_len : MLen r4 := ⟨by decide, by decide, by decide, by decide, by decide, few_two _ _ _ _ (by decide) (by decide) (by decide) (by decide)⟩
theorem r5_len : MLen r5 := ⟨by decide, by decide, by decide, by decide, by decide, few_nil⟩
theorem r6_len : MLen r6 := ⟨by decide, by simp [r6], by decide, by decide, by decide, few_nil⟩
theorem r7_len : MLen r7 := ⟨by decide, by decide, by decide, by decide, rep_len (by omega), few_nil⟩
theorem r8_len : MLen r8 := ⟨by decide, by decide, by decide, rep_len (by omega), by decide, few_nil⟩

/-! bytes that are refused -/
theorem d1_no : decR [0, 18, 0] = (noM, 80) := dec_none (by decide +kernel) (by decide)
theorem d2_no : decR [] = (noM, 80) := dec_none (by decide +kernel) (by decide)
theorem d3_no : decR (List.replicate 32769 0) = (noM, 3) := if_pos (by rw [List.length_replicate]; omega)
theorem d4_no : decR [3, 231, 0, 0, 0, 0, 2, 0] = (noM, 80) := by
  have h : readM [3, 231, 0, 0, 0, 0, 2, 0] = some ⟨999, [], [], [], [], [(2, [])]⟩ := by kernel_rfl
  have hm : mayB ⟨999, [], [], [], [], [(2, [])]⟩ = false := by decide +kernel
  unfold decR
  rw [if_neg (by decide), h]
  show (if mayB _ = true then _ else _) = _
  rw [if_neg (by rw [hm]; decide)]

/-! at the bounds -/
def lg (n : Nat) : Msg := ⟨999, List.replicate 100 0, List.replicate 32 0, [], List.replicate 4096 0, [(1, List.replicate n 0)]⟩
theorem lg_size (n : Nat) (h1 : 28304 ≤ n) (h2 : n ≤ 28305) : (msgB (lg n)).length = n + 4464 := by
  have e : formN n = 1 := by unfold formN; split <;> (try split) <;> omega
  have hn : (numsB (List.replicate 32 0)).length = 256 := by decide +kernel
  simp only [msgB, headB, lg, txt, termsB, streamB, recB, List.length_append, put_len, be_len, List.length_replicate, List.map_nil, List.flatten_nil, List.length_nil, List.map_cons, List.flatten_cons, e, hn]
  simp [formN, sizeN]
  omega
theorem lg_may (n : Nat) (h1 : 28304 ≤ n) (h2 : n ≤ 28305) : mayB (lg n) = true := by
  have e : formN n = 1 := by unfold formN; split <;> (try split) <;> omega
  have hs : (streamB [(1, List.replicate n (0 : UInt8))]).length = n + 4 := by
    simp only [streamB, recB, List.length_append, put_len, List.length_replicate, List.length_nil, List.map_nil, List.flatten_nil, List.map_cons, List.flatten_cons, e]
    simp [formN, sizeN]
    omega
  have hr : (streamR [(1, List.replicate n (0 : UInt8))]).2 = 0 := by
    unfold streamR
    rw [if_neg (by simp), if_neg (by simp [riseAll, risesB]), if_neg (by rw [hs]; omega)]
  have hf : fitB 999 32 0 = true := by decide +kernel
  unfold mayB
  show (fitB 999 (List.replicate 32 (0 : Int)).length 0 && (decide ((List.replicate 100 (0 : UInt8)).length ≤ 100) && (decide ((List.replicate 4096 (0 : UInt8)).length ≤ 4096) && (moreB [(1, List.replicate n (0 : UInt8))] && true)))) = true
  rw [List.length_replicate, List.length_replicate, List.length_replicate, hf]
  unfold moreB
  rw [hr]
  simp
theorem lg_len (n : Nat) (h2 : n ≤ 28305) : MLen (lg n) :=
  ⟨by show 999 < 65536; omega, by show (List.replicate 32 (0 : Int)).length ≤ _; rw [List.length_replicate]; omega, by show 0 ≤ _; omega, rep_len (by omega), rep_len (by omega), few_one _ _ (by omega) (rep_len (by omega))⟩
theorem lg_fit (n : Nat) (h2 : n ≤ 28305) : MFit (lg n) :=
  ⟨by show 999 < 65536; omega, fun x hx => by
    have e : x = 0 := (List.mem_replicate.1 (show x ∈ List.replicate 32 (0 : Int) from hx)).2
    omega, fun r hr => by
    have e : r = (1, List.replicate n (0 : UInt8)) := List.mem_singleton.1 (show r ∈ [(1, List.replicate n (0 : UInt8))] from hr)
    subst e
    exact ⟨by show 1 < _; omega, by show (List.replicate n (0 : UInt8)).length < _; rw [List.length_replicate]; omega⟩⟩
theorem lg_enc : encR (lg 28304) = (msgB (lg 28304), 0) := by
  unfold encR
  rw [if_neg (by rw [lg_may 28304 (by omega) (by omega)]; decide), if_neg (by rw [lg_size 28304 (by omega) (by omega)]; omega)]
theorem lg_dec : decR (msgB (lg 28304)) = (lg 28304, 0) := dec_enc (lg_fit 28304 (by omega)) lg_enc
theorem lg_over : encR (lg 28305) = ([], 3) := by
  unfold encR
  rw [if_neg (by rw [lg_may 28305 (by omega) (by omega)]; decide), if_pos (by rw [lg_size 28305 (by omega) (by omega)]; omega)]
end Go.Proofs.Ytdhmmllpioppfaa.V
