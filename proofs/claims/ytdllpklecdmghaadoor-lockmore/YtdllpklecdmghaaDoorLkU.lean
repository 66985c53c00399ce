/- What the reading of a lock does: numbers, and what is none. -/
import Derived.Test.YtdllpklecdmghaaDoorLkT
namespace Go.Proofs.YtdllpklecdmghaaDoor
open Go.RowKit
open Lk (Lt)

theorem rs_low {pb tb rb p : Nat} {s : Bs} {w w' : World} (h : Rs pb tb rb p s w) (hB : Below w.heap.size w w') : Rs pb tb rb p s w' := ⟨(hB.block _ (lt_of_heap h.pc)).trans h.pc, (hB.block _ (lt_of_heap h.tc)).trans h.tc, (hB.block _ (lt_of_heap h.rc)).trans h.rc, h.pt, h.pr, h.tr⟩
/-- nothing was read: the result behind it -/
theorem none_told {pb tb rb p : Nat} {s r : Bs} {w w3 : World} (h : Rs pb tb rb p s w) (hf : Fr (rw1 w pb p) tb r w3) (v0 v1 v2 v3 : Value) (o : Obj) : ((setL w3 w.heap.size 0 v0 v1 v2 v3).alloc o).heap[w.heap.size]? = some (.cells #[v0, v1, v2, v3] 26 (0, 0)) ∧ Rs pb tb rb (p + 1) r ((setL w3 w.heap.size 0 v0 v1 v2 v3).alloc o) ∧ Fq pb tb w ((setL w3 w.heap.size 0 v0 v1 v2 v3).alloc o) := by
  obtain ⟨h1, h2, h3, h4⟩ := rw1_rs h
  have hp := lt_of_heap h.pc
  have ht := lt_of_heap h.tc
  have hr := lt_of_heap h.rc
  have hz : w3.heap[w.heap.size]? = some (.cells #[.int .u8 0, .string ⟨#[]⟩, .int .i64 0, .slice none 0 0] 26 (0, 0)) := by rw [hf.els _ (by omega)]; exact h3
  have hrs : Rs pb tb rb (p + 1) r w3 := ⟨by rw [hf.els _ h.pt]; exact h1.pc, hf.txt, by rw [hf.els _ (Ne.symm h.tr)]; exact h1.rc, h.pt, h.pr, h.tr⟩
  have hfq : Fq pb tb w w3 := ⟨fun g a b c => by rw [hf.els _ c]; exact h2.els g a b c, by rw [hf.size]; exact h2.size, hf.os.trans h2.os, hf.tape.trans h2.tape, hf.out.trans h2.out⟩
  obtain ⟨a1, a2⟩ := rs_setL hfq.size hrs (r := w.heap.size) (by omega) (by omega) (by omega) (Nat.le_refl _) hfq 0 v0 v1 v2 v3
  have hB := below_al (setL w3 w.heap.size 0 v0 v1 v2 v3) o
  have hs := setL_same hz 0 v0 v1 v2 v3
  exact ⟨(hB.block _ (lt_of_heap hs)).trans hs, rs_low a1 hB, a2.trans (Fq.below hB)⟩
/-- a lock of a number -/
def numR (k p : Nat) (s : Bs) : Lt × Bs × Nat := match Sc.nm 59 1073741823 s with
  | none => (.mk k [] (-1) [], s, p + 1)
  | some (n, r) => (.mk k [] (n : Int) [], r, p + 1)
set_option maxHeartbeats 8000000 in
theorem read_num {pb tb rb p : Nat} {s : Bs} {w : World} (h : Rs pb tb rb p s w) (hp : p < 64) (hs : s.length ≤ 140737488355328) (d k : Nat) (hk : k = Sc.kindOf (s.headD 0)) (h34 : k = 3 ∨ k = 4) (R : Lt × Bs × Nat) (hR : R = numR k p (s.drop 1)) : Calls Tryd.prog 32 #[.pointer (some ⟨pb, 0, none⟩), .pointer (some ⟨tb, 0, none⟩), .pointer (some ⟨rb, 0, none⟩)] w (RdE pb tb rb d w R) := by
  have hpl := lt_of_heap h.pc
  have c0 : w.cell? ⟨pb, 0, none⟩ = some (.int .i64 (p : Int)) := (cell_of_heap h.pc 0).trans rfl
  have f0 : w.frozen? ⟨pb, 0, none⟩ = false := frozen_of_heap h.pc 0
  obtain ⟨a1, a2⟩ := pA (p := p) (by omega)
  have hgt : ¬ (64 : Int) < ((p + 1 : Nat) : Int) := by omega
  have hne : ¬ pb = w.heap.size := by omega
  have HLT : Hid (Calls Tryd.prog 34 #[.pointer (some ⟨tb, 0, none⟩)] (rw1 w pb p) fun e w' => e = .returned (.int .u8 ((s.headD 0).toNat : Int)) ∧ Fr (rw1 w pb p) tb (s.drop 1) w') := hid (letter_fr (Fr.refl (rw1_rs h).1.tc))
  have HKD : Hid (∀ W, Calls Tryd.prog 33 #[.int .u8 ((s.headD 0).toNat : Int)] W fun e w' => e = .returned (.int .u8 (k : Int)) ∧ w' = W) := hid (fun W => by rw [hk]; exact kind_any _ W)
  have HRS := hid h
  have HSL : Hid ((s.drop 1).length ≤ 140737488355328) := hid (by rw [List.length_drop]; omega)
  have HRR := hid hR
  clear hR
  clear h hp hs hk
  generalize s.drop 1 = s1 at *
  generalize s.headD 0 = c at *
  go_enter Tryd.func32, Tryd.ntmps32
  go_wp2_with fail
  refine HLT.out.mono ?_
  rintro e w2 ⟨rfl, hf2⟩
  have HF2 := hid hf2
  clear hf2 HLT c0 f0
  go_wp2_with fail
  refine (HKD.out _).mono ?_
  rintro e w3 ⟨rfl, rfl⟩
  have HWB := hid (wb_of HRS.out HF2.out k)
  obtain ⟨lb, hlb⟩ : ∃ lb, lb = w3.heap.size := ⟨_, rfl⟩
  obtain ⟨W, hW⟩ : ∃ W, W = w3.alloc (.cells #[.int .u8 (k : Int), .string ⟨#[]⟩, .int .i64 0, .slice none 0 0] 26) := ⟨_, rfl⟩
  rw [← hlb, ← hW] at HWB
  have HNM : Hid (Calls Tryd.prog 36 #[.pointer (some ⟨tb, 0, none⟩), .int .u8 59, .int .i64 1073741823] W fun en w' => match Sc.nm 59 1073741823 s1 with
      | none => en = .returned (.int .i64 (-1)) ∧ Fr W tb s1 w'
      | some (n, x) => en = .returned (.int .i64 (n : Int)) ∧ Fr W tb x w') := hid (number_fr (Fr.refl HWB.out.rs.tc) 59 (by decide) 1073741823 (by decide) HSL.out)
  clear HKD HF2 HRS a1 a2 hgt hne hpl HSL
  have hk1 : (k : Int) = 3 ∨ (k : Int) = 4 := by omega
  clear h34
  have HN2 : Hid (Calls Tryd.prog 36 #[.pointer (some ⟨tb, 0, none⟩), .int .u8 59, .int .i64 1073741823] W fun en w' => ∃ (z : Int) (x : Bs), en = .returned (.int .i64 z) ∧ Fr W tb x w' ∧ R = (.mk k [] z [], x, p + 1)) := hid (HNM.out.mono (fun en w' hn => by
    have hR2 : R = numR k p s1 := HRR.out
    unfold numR at hR2
    cases hr : Sc.nm 59 1073741823 s1 with
    | none =>
      rw [hr] at hn hR2
      exact ⟨-1, s1, hn.1, hn.2, hR2⟩
    | some q =>
      obtain ⟨n, x⟩ := q
      rw [hr] at hn hR2
      exact ⟨(n : Int), x, hn.1, hn.2, hR2⟩))
  clear HNM HRR
  rcases hk1 with hk1 | hk1
  all_goals
    rw [hk1] at hW
    go_wp2_with fail
    rw [← hlb, ← hW]
    clear hlb hW
    refine HN2.out.mono ?_
    rintro e w4 ⟨z, x, rfl, hf4, hR⟩
    have HR := hid hR
    have HW5 := hid (HWB.out.fg (fg_fr hf4))
    clear hf4 HN2 HWB hR
    obtain ⟨⟨q0, q1, q2, q3, qf⟩, r0, r1, r2, r3, rf⟩ := HW5.out.cells
    have hln : ¬ lb = w.heap.size := by have := HW5.out.old; omega
    go_wp2_with fail
    have HT := HW5.out.told 2 (.int .i64 z) (.int .u8 (k : Int)) (St []) (.int .i64 z) (.slice none 0 0)
    have HL : lcs (.mk k [] z []) (.slice none 0 0) = #[.int .u8 (k : Int), St [], .int .i64 z, .slice none 0 0] := rfl
    rw [hk1] at HT HL
    rw [HR.out]
    refine bodyPost_ret (v := .agg #[.int .u8 _, St [], .int .i64 z, .slice none 0 0]) (ret_lock Tryd.results32 rfl HT.1) rfl ⟨.slice none 0 0, ?_, Kd.nil _ _ _, HT.2.1, HT.2.2⟩
    show _ = Ending.returned (.agg (lcs (.mk k [] z []) (.slice none 0 0)))
    rw [HL]
set_option maxHeartbeats 8000000 in
theorem lkread_none {pb tb rb p : Nat} {s : Bs} {w : World} (h : Rs pb tb rb p s w) (hp : p < 64) (hs : s.length ≤ 140737488355328) (d k : Nat) (hk : k = Sc.kindOf (s.headD 0)) (h0 : k = 0) : Calls Tryd.prog 32 #[.pointer (some ⟨pb, 0, none⟩), .pointer (some ⟨tb, 0, none⟩), .pointer (some ⟨rb, 0, none⟩)] w (RdE pb tb rb d w (.mk 0 [] 0 [], s.drop 1, p + 1)) := by
  have hpl := lt_of_heap h.pc
  have c0 : w.cell? ⟨pb, 0, none⟩ = some (.int .i64 (p : Int)) := (cell_of_heap h.pc 0).trans rfl
  have f0 : w.frozen? ⟨pb, 0, none⟩ = false := frozen_of_heap h.pc 0
  obtain ⟨a1, a2⟩ := pA (p := p) (by omega)
  have hgt : ¬ (64 : Int) < ((p + 1 : Nat) : Int) := by omega
  have hne : ¬ pb = w.heap.size := by omega
  have HLT : Hid (Calls Tryd.prog 34 #[.pointer (some ⟨tb, 0, none⟩)] (rw1 w pb p) fun e w' => e = .returned (.int .u8 ((s.headD 0).toNat : Int)) ∧ Fr (rw1 w pb p) tb (s.drop 1) w') := hid (letter_fr (Fr.refl (rw1_rs h).1.tc))
  have HKD : Hid (∀ W, Calls Tryd.prog 33 #[.int .u8 ((s.headD 0).toNat : Int)] W fun e w' => e = .returned (.int .u8 (k : Int)) ∧ w' = W) := hid (fun W => by rw [hk]; exact kind_any _ W)
  have HRS := hid h
  have HSL : Hid ((s.drop 1).length ≤ 140737488355328) := hid (by rw [List.length_drop]; omega)
  clear h hp hs hk
  generalize s.drop 1 = s1 at *
  generalize s.headD 0 = c at *
  go_enter Tryd.func32, Tryd.ntmps32
  go_wp2_with fail
  refine HLT.out.mono ?_
  rintro e w2 ⟨rfl, hf2⟩
  have HF2 := hid hf2
  clear hf2 HLT c0 f0
  go_wp2_with fail
  refine (HKD.out _).mono ?_
  rintro e w3 ⟨rfl, rfl⟩
  have HWB := hid (wb_of HRS.out HF2.out k)
  obtain ⟨lb, hlb⟩ : ∃ lb, lb = w3.heap.size := ⟨_, rfl⟩
  obtain ⟨W, hW⟩ : ∃ W, W = w3.alloc (.cells #[.int .u8 (k : Int), .string ⟨#[]⟩, .int .i64 0, .slice none 0 0] 26) := ⟨_, rfl⟩
  rw [← hlb, ← hW] at HWB
  have hz : w3.heap[w.heap.size]? = some (.cells #[.int .u8 0, .string ⟨#[]⟩, .int .i64 0, .slice none 0 0] 26 (0, 0)) := by
    have ho := HWB.out.old
    have h1 := rw1_rs HRS.out
    rw [HF2.out.els _ (by omega)]
    exact h1.2.2.1
  have q0 : w3.cell? ⟨w.heap.size, 0, none⟩ = some (.int .u8 0) := (cell_of_heap hz 0).trans rfl
  have q1 : w3.cell? ⟨w.heap.size, 1, none⟩ = some (.string ⟨#[]⟩) := (cell_of_heap hz 1).trans rfl
  have q2 : w3.cell? ⟨w.heap.size, 2, none⟩ = some (.int .i64 0) := (cell_of_heap hz 2).trans rfl
  have q3 : w3.cell? ⟨w.heap.size, 3, none⟩ = some (.slice none 0 0) := (cell_of_heap hz 3).trans rfl
  have qf : ∀ j, w3.frozen? ⟨w.heap.size, j, none⟩ = false := fun j => frozen_of_heap hz j
  have hln : w.heap.size < w3.heap.size := lt_of_heap hz
  have hk1 : (k : Int) = 0 := by omega
  rw [hk1] at hW
  have HT := hid (none_told HRS.out HF2.out)
  clear HKD HF2 HRS a1 a2 hgt hne hpl HSL hz h0 hlb
  go_wp2_with fail
  refine bodyPost_ret (v := .agg #[.int .u8 0, .string ⟨#[]⟩, .int .i64 0, .slice none 0 0]) (ret_lock Tryd.results32 rfl (HT.out _ _ _ _ _).1) rfl ⟨.slice none 0 0, rfl, Kd.nil _ _ _, (HT.out _ _ _ _ _).2.1, (HT.out _ _ _ _ _).2.2⟩
end Go.Proofs.YtdllpklecdmghaaDoor
