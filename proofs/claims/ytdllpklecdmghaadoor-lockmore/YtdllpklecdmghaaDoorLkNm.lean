/- The chapter's lock; what LockNeeds asks. -/
import Derived.Test.YtdllpklecdmghaaDoorLkPAll
import Derived.Test.YtdllpklecdmghaaDoorLkR
import Derived.Test.YtdllpklecdmghaaDoorLkGAll
import Derived.Test.YtdllpklecdmghaaDoorLkJ
namespace Go.Proofs.YtdllpklecdmghaaDoor
open Go.RowKit
open Lk (Lt Sp)

/-- the chapter's lock -/
def chB : Lt := .mk 5 [] 0 [.mk 2 [72, 110, 50, 59] 0 [], .mk 4 [] 6 []]
def chL : Lt := .mk 6 [] 0 [.mk 1 [80, 110, 49, 59] 0 [], chB]
def chT : Bs := [124, 50, 58, 115, 80, 110, 49, 59, 38, 50, 58, 112, 72, 110, 50, 59, 111, 54, 59]
theorem ch_right : Lk.right chL = true := by decide +kernel
theorem ch_wr : Lk.wr chL = chT := by
  have h6 : Lib.decDigits 6 = [54] := Lib.decDigits_one (by decide)
  have h2 : Lib.decDigits 2 = [50] := Lib.decDigits_one (by decide)
  unfold chL chB chT
  simp only [Lk.wr, Lk.wrs, List.length_cons, List.length_nil, Nat.zero_add, Nat.reduceAdd, show ((6 : Int)).toNat = 6 from rfl, h2, h6]
  rfl
theorem ch_rd : Lk.rdRes chT = some chL := (Lk.rdRes_iff chT chL).2 ⟨ch_right, ch_wr.symm⟩
theorem ch_wres : wrRes chL = (chT, 0) := by unfold wrRes; rw [if_pos ch_right, ch_wr]
theorem ch_same : Lk.same chL chL = true := (Lk.same_iff chL chL).2 rfl
theorem ch_smalls : Lk.smalls [.mk 1 [80, 110, 49, 59] 0 [], chB] = true ∧ Lk.smalls [.mk 2 [72, 110, 50, 59] 0 [], .mk 4 [] 6 []] = true := by decide +kernel
theorem ch_keys : (keysRes chL).length = 1 := by
  unfold keysRes
  rw [if_pos ch_right]
  decide +kernel
/-- what the chapter holds against it -/
def sp1 : Sp := ⟨[[83, 110, 49, 59, 116, 49, 58, 120]], [], [116, 49, 58, 120], 0, 0⟩
def sp2 : Sp := ⟨[[83, 110, 49, 59, 116, 49, 58, 120]], [], [116, 49, 58, 121], 0, 0⟩
def sp3 : Sp := ⟨[], [[110, 50, 59]], [116, 49, 58, 120], 0, 6⟩
def sp4 : Sp := ⟨[], [[110, 50, 59]], [116, 49, 58, 120], 0, 5⟩
theorem ch_o1 : opRes chL sp1 = true := by decide +kernel
theorem ch_o2 : opRes chL sp2 = false := by decide +kernel
theorem ch_o3 : opRes chL sp3 = true := by decide +kernel
theorem ch_o4 : opRes chL sp4 = false := by decide +kernel

/-- the names -/
def nmT (i : Nat) : Bs := [110, UInt8.ofNat (49 + i), 59]
theorem nm_is : ∀ i, i < 4 → Tm.deep (nmT i) = 1 ∧ Tm.pk (nmT i) = 80 :: nmT i ∧ Tm.deep (80 :: nmT i) = 2 ∧ Tm.deep (72 :: nmT i) = 2 ∧ verifyRes (80 :: nmT i) [116, 49, 58, 109] (83 :: (nmT i ++ [116, 49, 58, 109])) = true := by decide +kernel
/-- a name's signature is that one text -/
theorem ver_nm {i : Nat} (hi : i < 4) (x : Bs) : verifyRes (80 :: nmT i) [116, 49, 58, 109] x = decide (x = 83 :: (nmT i ++ [116, 49, 58, 109])) := by
  obtain ⟨h1, h2, _, _, h5⟩ := nm_is i hi
  by_cases e : x = 83 :: (nmT i ++ [116, 49, 58, 109])
  · rw [e, h5]
    simp
  · rw [decide_eq_false e]
    cases hv : verifyRes (80 :: nmT i) [116, 49, 58, 109] x with
    | false => rfl
    | true =>
      exfalso
      apply e
      unfold verifyRes at hv
      split at hv
      · rename_i hc
        obtain ⟨hd, hh⟩ := hc
        match x, hh with
        | c :: l, hh =>
          obtain rfl : c = 83 := by simpa using hh
          obtain ⟨k, q, a, b, hk, hpq, hp, hq, ha, hb64, _⟩ := kids_two hd (by decide)
          rw [hk] at hv
          simp only [Bool.and_eq_true, beq_iff_eq] at hv
          obtain ⟨rfl, hpk⟩ := hv
          have hi1 := (Tm.deep_is (l := nmT i) (by omega)).1
          rw [h1] at hi1
          have := (Tm.pk_inj k.length (x := []) (y := []) (Nat.le_refl _) hp hi1 (by omega) (by omega) (by rw [List.append_nil, List.append_nil, hpk, h2])).1
          rw [hpq, this]
      · cases hv
/-- the lock of LockNeeds -/
def ndL (i j : Nat) (n m : Int) : Lt := .mk 5 [] 0 [.mk 1 (80 :: nmT i) 0 [], .mk 2 (72 :: nmT j) 0 [], .mk 3 [] n [], .mk 4 [] m []]
theorem nd_right {i j : Nat} (hi : i < 4) (hj : j < 4) {n m : Int} (hn : 0 ≤ n ∧ n < 1000) (hm : 0 ≤ m ∧ m < 1000) : Lk.right (ndL i j n m) = true := by
  rw [Lk.right_is]
  obtain ⟨_, _, h3, _, _⟩ := nm_is i hi
  obtain ⟨_, _, _, h4, _⟩ := nm_is j hj
  refine ⟨?_, by unfold ndL; simp [Lk.size, Lk.sizes]⟩
  have e1 : Lk.fit (.mk 1 (80 :: nmT i) 0 []) = true := by
    unfold Lk.fit Lk.isKey
    simp [Lt.kind, Lt.n, Lt.kids, Lt.term, h3, Tm.isPk]
  have e2 : Lk.fit (.mk 2 (72 :: nmT j) 0 []) = true := by
    unfold Lk.fit Lk.isOp
    simp [Lt.kind, Lt.n, Lt.kids, Lt.term, h4]
  have e3 : Lk.fit (.mk 3 [] n []) = true := by
    unfold Lk.fit
    simp [Lt.kind, Lt.n, Lt.kids, Lt.term, hn.1, show n ≤ 1073741823 by omega]
  have e4 : Lk.fit (.mk 4 [] m []) = true := by
    unfold Lk.fit
    simp [Lt.kind, Lt.n, Lt.kids, Lt.term, hm.1, show m ≤ 1073741823 by omega]
  unfold ndL
  rw [Lk.ok, Lk.oks, Lk.oks, Lk.oks, Lk.oks, Lk.oks, Lk.ok, Lk.ok, Lk.ok, Lk.ok, e1, e2, e3, e4, Lk.oks]
  rfl
theorem nd_op {i j : Nat} (hi : i < 4) (hj : j < 4) {n m : Int} (hn : 0 ≤ n ∧ n < 1000) (hm : 0 ≤ m ∧ m < 1000) (sg pr : List Bs) (af ag : Int) :
    opRes (ndL i j n m) ⟨sg, pr, [116, 49, 58, 109], af, ag⟩ = (decide (sg.length ≤ 16) && decide (pr.length ≤ 16) && sg.any (fun x => decide (x = 83 :: (nmT i ++ [116, 49, 58, 109]))) && pr.any (fun x => decide (x = nmT j)) && decide (n ≤ af) && decide (m ≤ ag)) := by
  unfold opRes
  rw [nd_right hi hj hn hm]
  have e1 : Lk.opn verifyRes ⟨sg, pr, [116, 49, 58, 109], af, ag⟩ (.mk 1 (80 :: nmT i) 0 []) = sg.any (fun x => decide (x = 83 :: (nmT i ++ [116, 49, 58, 109]))) := by
    rw [Lk.opn, if_pos rfl]
    simp only [ver_nm hi]
  have e2 : Lk.opn verifyRes ⟨sg, pr, [116, 49, 58, 109], af, ag⟩ (.mk 2 (72 :: nmT j) 0 []) = pr.any (fun x => decide (x = nmT j)) := by
    rw [Lk.opn, if_neg (by decide), if_pos rfl]
    simp only [List.cons.injEq, true_and]
  unfold ndL
  rw [Lk.opn, if_neg (by decide), if_neg (by decide), if_neg (by decide), if_neg (by decide), if_pos rfl, Lk.opnAll, Lk.opnAll, Lk.opnAll, Lk.opnAll, Lk.opnAll, e1, e2, Lk.opn, Lk.opn, if_neg (by decide), if_neg (by decide), if_pos rfl, if_neg (by decide), if_neg (by decide), if_neg (by decide), if_pos rfl]
  simp only [Bool.true_and, Bool.and_true, Bool.and_assoc]
end Go.Proofs.YtdllpklecdmghaaDoor
