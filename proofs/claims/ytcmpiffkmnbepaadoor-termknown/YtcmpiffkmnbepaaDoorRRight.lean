/- Whether a text is a right term, how long and how deep, as the document reads it. -/
import Derived.Test.YtcmpiffkmnbepaaDoorRReadF
namespace Go.Proofs.YtcmpiffkmnbepaaDoor
open Go.RowKit

theorem deep_of_rd {l : Bs} (h : l.length ≤ 16384) : Tm.deep l = match Tm.rd 64 l with | some (d, []) => d | _ => 0 := by
  unfold Tm.deep
  rw [if_pos h]
  generalize Tm.rd 64 l = o
  match o with
  | none => rfl
  | some (d, []) => rfl
  | some (d, _ :: _) => rfl
theorem deep_long {l : Bs} (h : ¬ l.length ≤ 16384) : Tm.deep l = 0 := by unfold Tm.deep; rw [if_neg h]

theorem run_end (E D N F : Int) (kv : Value) (w : World) : Sem.run Tryd.prog (Instr.field 59 (cutV E D N F kv) 0) w = .ok (.int .i64 E) w := rfl
theorem run_deep (E D N F : Int) (kv : Value) (w : World) : Sem.run Tryd.prog (Instr.field 59 (cutV E D N F kv) 1) w = .ok (.int .i64 D) w := rfl

/-- the document's reading of a whole text -/
theorem read_whole (l : Bs) (w : World) (hl : l.length ≤ 16384) :
    Calls Tryd.prog 53 #[St l, .int .i64 0, .int .i64 64] w fun en w' => Below w.heap.size w w' ∧
      ∃ (E D N F : Int) (ao : Option Addr) (kn kc : Nat), en = .returned (cutV E D N F (.slice ao kn kc)) ∧ (E == (l.length : Int)) = (Tm.deep l != 0) ∧
        (Tm.deep l ≠ 0 → D = (Tm.deep l : Int) ∧ E = (l.length : Int) ∧ Told ⟨l.toArray⟩ 0 63 (Tm.deep l, []) N F (.slice ao kn kc) w.heap.size w') := by
  have hsz : (⟨l.toArray⟩ : ByteArray).size = l.length := st_size l
  refine (read_any 64 (by omega) ⟨l.toArray⟩ 0 w (by rw [hsz]; omega) (by omega)).mono ?_
  rintro e w' ⟨hb, hE⟩
  refine ⟨hb, ?_⟩
  have hr : rest ⟨l.toArray⟩ 0 = l := by simp [rest]
  rw [hr] at hE
  cases hrd : Tm.rd 64 l with
  | none =>
    obtain ⟨D, N, he⟩ := hE.none hrd
    have hd : Tm.deep l = 0 := by rw [deep_of_rd hl, hrd]
    refine ⟨-1, D, N, 0, none, 0, 0, he, ?_, fun h => absurd hd h⟩
    rw [hd]; simp
  | some x =>
    obtain ⟨d, r⟩ := x
    obtain ⟨N, F, ao, kn, kc, he, ht⟩ := hE.some hrd
    obtain ⟨q1, q2, q3, q4⟩ := Tm.rd_len hrd
    rw [hsz] at he
    refine ⟨_, _, N, F, ao, kn, kc, he, ?_, fun h => ?_⟩
    · cases r with
      | nil =>
        have hd : Tm.deep l = d := by rw [deep_of_rd hl, hrd]
        rw [hd]; simp; omega
      | cons c r =>
        have hd : Tm.deep l = 0 := by rw [deep_of_rd hl, hrd]
        rw [hd]; simp at q1 ⊢; omega
    · cases r with
      | nil =>
        have hd : Tm.deep l = d := by rw [deep_of_rd hl, hrd]
        rw [hd]
        exact ⟨rfl, by simp, ht⟩
      | cons c r =>
        have hd : Tm.deep l = 0 := by rw [deep_of_rd hl, hrd]
        exact absurd hd h

set_option maxHeartbeats 1000000 in
set_option maxRecDepth 100000 in
theorem rright_any (l : Bs) (w : World) : Calls Tryd.prog 52 #[St l] w fun en w' => en = .returned (.bool (Tm.deep l != 0)) ∧ Below w.heap.size w w' := by
  have hsz : (⟨l.toArray⟩ : ByteArray).size = l.length := st_size l
  by_cases hl : l.length ≤ 16384
  · have hl' : (l.length : Int) ≤ 16384 := by omega
    go_enter Tryd.func52, Tryd.ntmps52
    go_wp2_with fail
    refine (read_whole l _ hl).mono ?_
    rintro e w1 ⟨hb, E, D, N, F, ao, kn, kc, rfl, hE, _⟩
    have HB := hid hb
    have HE := hid hE
    clear hb hE
    go_wp2_with fail
    rw [run_end]
    go_wp2_with fail
    go_ret
    exact ⟨by rw [← HE.out]; rfl, HB.out⟩
  · have hl' : ¬ (l.length : Int) ≤ 16384 := by omega
    have HD := hid (deep_long hl)
    go_enter Tryd.func52, Tryd.ntmps52
    go_wp2_with fail
    go_ret
    exact ⟨by rw [HD.out]; rfl, Below.refl _ _⟩

set_option maxHeartbeats 1000000 in
set_option maxRecDepth 100000 in
theorem rsize_any (l : Bs) (w : World) : Calls Tryd.prog 17 #[St l] w fun en w' => en = .returned (.int .i64 (if Tm.deep l = 0 then 0 else (l.length : Int))) ∧ Below w.heap.size w w' := by
  have hsz : (⟨l.toArray⟩ : ByteArray).size = l.length := st_size l
  go_enter Tryd.func17, Tryd.ntmps17
  go_wp2_with fail
  refine (rright_any l _).mono ?_
  rintro e w1 ⟨rfl, hb⟩
  have HB := hid hb
  clear hb
  by_cases hd : Tm.deep l = 0
  · have HD := hid hd
    rw [hd]
    clear hd
    go_wp2_with fail
    go_ret
    exact ⟨by simp, HB.out⟩
  · have HD := hid hd
    rw [show (Tm.deep l != 0) = true by simpa using hd]
    clear hd
    go_wp2_with fail
    go_ret
    exact ⟨by first | rfl | (rw [if_neg HD.out]; rfl), HB.out⟩

set_option maxHeartbeats 1000000 in
set_option maxRecDepth 100000 in
theorem rdeep_any (l : Bs) (w : World) : Calls Tryd.prog 19 #[St l] w fun en w' => en = .returned (.int .i64 (Tm.deep l : Int)) ∧ Below w.heap.size w w' := by
  have hsz : (⟨l.toArray⟩ : ByteArray).size = l.length := st_size l
  go_enter Tryd.func19, Tryd.ntmps19
  go_wp2_with fail
  refine (rright_any l _).mono ?_
  rintro e w1 ⟨rfl, hb⟩
  have HB := hid hb
  clear hb
  by_cases hd : Tm.deep l = 0
  · have HD := hid hd
    rw [hd]
    clear hd
    go_wp2_with fail
    go_ret
    exact ⟨by rw [HD.out]; rfl, HB.out⟩
  · have HD := hid hd
    rw [show (Tm.deep l != 0) = true by simpa using hd]
    clear hd
    go_wp2_with fail
    refine (read_whole l _ (Tm.deep_is HD.out).2).mono ?_
    rintro e w2 ⟨hb, E, D, N, F, ao, kn, kc, rfl, _, hT⟩
    have HB2 := hid (HB.out.trans (hb.mono HB.out.size))
    have HDD := hid (hT HD.out).1
    clear hb hT
    go_wp2_with fail
    rw [run_deep]
    go_wp2_with fail
    go_ret
    exact ⟨by rw [HDD.out]; rfl, HB2.out⟩
end Go.Proofs.YtcmpiffkmnbepaaDoor
