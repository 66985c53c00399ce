import Derived.Test.YtdllpklecdmghaaGreatDoorLkEAll
import Derived.Test.YtdllpklecdmghaaGreatDoorLkD
import Derived.Shelf.Abstract
/- Scanning: bytes, the kind of a letter. -/
namespace Go.Proofs.YtdllpklecdmghaaGreatDoor
open Go.RowKit
theorem noparts_any (b : Bool) (w : World) : Calls Tryz.prog 84 #[.bool b] w fun e w' => e = .returned (.int .i64 (if b then 0 else -1)) ∧ w' = w := by
  cases b with
  | true =>
    go_enter Tryz.func84, Tryz.ntmps84
    go_wp2_with fail
    go_ret
    exact ⟨rfl, rfl⟩
  | false =>
    go_enter Tryz.func84, Tryz.ntmps84
    go_wp2_with fail
    go_ret
    exact ⟨rfl, rfl⟩
theorem bytes_no (tb : Nat) (n : Int) (s : Bs) (hn : n < 0 ∨ (s.length : Int) < n) (w : World) (h : w.cell? ⟨tb, 0, none⟩ = some (St s)) : Calls Tryz.prog 85 #[.pointer (some ⟨tb, 0, none⟩), .int .i64 n] w fun e w' => e = .returned (.tuple #[St [], .bool false]) ∧ w' = w := by
  by_cases h0 : n < 0
  · clear hn
    go_enter Tryz.func85, Tryz.ntmps85
    go_wp2_with fail
    go_ret2
    exact ⟨rfl, rfl⟩
  · have h1 : (s.length : Int) < n := by omega
    clear hn
    go_enter Tryz.func85, Tryz.ntmps85
    go_wp2_with fail
    go_ret2
    exact ⟨rfl, rfl⟩
set_option maxHeartbeats 4000000 in
theorem bytes_yes (tb n : Nat) (s : Bs) (hn : n ≤ s.length) (w : World) (h : w.cell? ⟨tb, 0, none⟩ = some (St s)) (hf : w.frozen? ⟨tb, 0, none⟩ = false) : Calls Tryz.prog 85 #[.pointer (some ⟨tb, 0, none⟩), .int .i64 (n : Int)] w fun e w' => e = .returned (.tuple #[St (s.take n), .bool true]) ∧ w' = w.setCell ⟨tb, 0, none⟩ (St (s.drop n)) := by
  have h0 : ¬ (n : Int) < 0 := by omega
  have h1 : ¬ (s.length : Int) < (n : Int) := by omega
  have h2 : (n : Int) ≤ (s.length : Int) := by omega
  have h3 : (0 : Int) ≤ (n : Int) := by omega
  have ed := ex_drop s n
  have et := ex_take s n
  clear hn
  go_enter Tryz.func85, Tryz.ntmps85
  go_wp2_with fail
  go_ret2
  exact ⟨rfl, rfl⟩
theorem index_is (c : UInt8) : Lib.indexByte [115, 112, 97, 111, 38, 124] c = (Sc.kindOf c : Int) - 1 := by
  unfold Sc.kindOf
  simp only [Lib.indexByte]
  by_cases h1 : c = 115
  · subst h1; rfl
  by_cases h2 : c = 112
  · subst h2; rfl
  by_cases h3 : c = 97
  · subst h3; rfl
  by_cases h4 : c = 111
  · subst h4; rfl
  by_cases h5 : c = 38
  · subst h5; rfl
  by_cases h6 : c = 124
  · subst h6; rfl
  simp [h1, h2, h3, h4, h5, h6, Ne.symm h1, Ne.symm h2, Ne.symm h3, Ne.symm h4, Ne.symm h5, Ne.symm h6]
theorem kindOf_le (c : UInt8) : Sc.kindOf c ≤ 6 := by
  unfold Sc.kindOf
  repeat' split
  all_goals omega
set_option maxHeartbeats 4000000 in
theorem kind_any (c : UInt8) (w : World) : Calls Tryz.prog 41 #[.int .u8 (c.toNat : Int)] w fun e w' => e = .returned (.int .u8 (Sc.kindOf c : Int)) ∧ w' = w := by
  have HC : Hid (Calls Tryz.prog 61 #[.string ⟨#[115, 112, 97, 111, 38, 124]⟩, .int .u8 (c.toNat : Int)] w fun e w' => e = .returned (.int .i64 ((Sc.kindOf c : Int) - 1)) ∧ w' = w) := hid (by
    have h := Tryz.strings_IndexByte ⟨#[115, 112, 97, 111, 38, 124]⟩ (c.toNat : Int) w
    rw [show ((c.toNat : Int).toNat.toUInt8) = c by simp] at h
    have e : (⟨#[115, 112, 97, 111, 38, 124]⟩ : ByteArray).data.toList = [115, 112, 97, 111, 38, 124] := rfl
    rw [e, index_is] at h
    exact h)
  have hk := kindOf_le c
  generalize Sc.kindOf c = k at *
  go_enter Tryz.func41, Tryz.ntmps41
  go_wp2_with fail
  refine HC.out.mono ?_
  rintro e w1 ⟨rfl, rfl⟩
  clear HC
  by_cases h0 : k = 0
  · subst h0
    have hlt : ((0 : Nat) : Int) - 1 < 0 := by omega
    clear hk
    go_wp2_with fail
    go_ret
    exact ⟨rfl, rfl⟩
  · have hlt : ¬ (k : Int) - 1 < 0 := by omega
    have hc1 : IntKind.u8.wrap ((k : Int) - 1) = (k : Int) - 1 := by rw [IntKind.wrap_u8]; omega
    have hc2 : IntKind.u8.wrap (1 + ((k : Int) - 1)) = (k : Int) := by rw [IntKind.wrap_u8]; omega
    clear hk h0
    go_wp2_with fail
    go_ret
    exact ⟨rfl, rfl⟩
end Go.Proofs.YtdllpklecdmghaaGreatDoor
/- Scanning: what stands ahead of a term's parts. -/
namespace Go.Proofs.YtdllpklecdmghaaGreatDoor
open Go.RowKit
structure Fr (w : World) (tb : Nat) (r : Bs) (wr : World) : Prop where
  txt : wr.heap[tb]? = some (.cells #[St r] 56 (0, 0))
  els : ∀ g, g ≠ tb → wr.heap[g]? = w.heap[g]?
  size : wr.heap.size = w.heap.size
  os : wr.os = w.os
  tape : wr.tape = w.tape
  out : wr.output = w.output
theorem Fr.refl {w : World} {tb : Nat} {s : Bs} (h : w.heap[tb]? = some (.cells #[St s] 56 (0, 0))) : Fr w tb s w := ⟨h, fun _ _ => rfl, rfl, rfl, rfl, rfl⟩
theorem Fr.set {w : World} {tb : Nat} {s : Bs} {wr : World} (h : Fr w tb s wr) (r : Bs) : Fr w tb r (wr.setCell ⟨tb, 0, none⟩ (St r)) := by
  refine ⟨?_, fun g hg => ?_, ?_, h.os, h.tape, h.out⟩
  · rw [heap_setCell_same h.txt 0 (St r)]
    rfl
  · rw [Below.heap_setCell _ _ _ _ hg]
    exact h.els g hg
  · rw [← h.size]
    simp [World.setCell]
theorem Fr.cell {w : World} {tb : Nat} {s : Bs} {wr : World} (h : Fr w tb s wr) : wr.cell? ⟨tb, 0, none⟩ = some (St s) := (cell_of_heap h.txt 0).trans rfl
theorem Fr.frozen {w : World} {tb : Nat} {s : Bs} {wr : World} (h : Fr w tb s wr) : wr.frozen? ⟨tb, 0, none⟩ = false := frozen_of_heap h.txt 0
theorem letter_fr {w : World} {tb : Nat} {s : Bs} {wr : World} (h : Fr w tb s wr) : Calls Tryz.prog 42 #[.pointer (some ⟨tb, 0, none⟩)] wr fun e w' => e = .returned (.int .u8 ((s.headD 0).toNat : Int)) ∧ Fr w tb (s.drop 1) w' := by
  cases s with
  | nil =>
    refine (letter_nil tb wr h.cell).mono ?_
    rintro e w' ⟨rfl, rfl⟩
    exact ⟨rfl, h⟩
  | cons c r =>
    refine (letter_cons tb c r wr h.cell h.frozen).mono ?_
    rintro e w' ⟨rfl, rfl⟩
    exact ⟨rfl, h.set r⟩
theorem number_fr {w : World} {tb : Nat} {s : Bs} {wr : World} (h : Fr w tb s wr) (e : UInt8) (he : 57 < e.toNat) (most : Nat) (hm : most ≤ 9223372036854775807) (hs : s.length ≤ 140737488355328) : Calls Tryz.prog 45 #[.pointer (some ⟨tb, 0, none⟩), .int .u8 (e.toNat : Int), .int .i64 (most : Int)] wr fun en w' => match Sc.nm e most s with
    | none => en = .returned (.int .i64 (-1)) ∧ Fr w tb s w'
    | some (n, x) => en = .returned (.int .i64 (n : Int)) ∧ Fr w tb x w' := by
  refine (scnum_any tb e he most hm s hs wr h.cell h.frozen).mono ?_
  intro en w' hn
  unfold NmE at hn
  cases hr : Sc.nm e most s with
  | none =>
    rw [hr] at hn
    obtain ⟨rfl, rfl⟩ := hn
    exact ⟨rfl, h⟩
  | some q =>
    obtain ⟨n, x⟩ := q
    rw [hr] at hn
    obtain ⟨rfl, rfl⟩ := hn
    exact ⟨rfl, h.set x⟩
def HdE (w : World) (tb : Nat) (r : Option (Nat × Bs)) (e : Ending) (w' : World) : Prop := match r with
  | none => e = .returned (.int .i64 (-1)) ∧ ∃ x, Fr w tb x w'
  | some (n, x) => e = .returned (.int .i64 (n : Int)) ∧ Fr w tb x w'
theorem HdE.no {w : World} {tb : Nat} {r : Option (Nat × Bs)} (h : r = none) {x : Bs} {w' : World} (hf : Fr w tb x w') : HdE w tb r (.returned (.int .i64 (-1))) w' := by subst h; exact ⟨rfl, x, hf⟩
theorem HdE.yes {w : World} {tb n : Nat} {x : Bs} {r : Option (Nat × Bs)} (h : r = some (n, x)) {w' : World} (hf : Fr w tb x w') : HdE w tb r (.returned (.int .i64 (n : Int))) w' := by subst h; exact ⟨rfl, hf⟩
set_option maxHeartbeats 8000000 in
theorem head_any {w : World} {tb : Nat} {s : Bs} {wr : World} (h : Fr w tb s wr) (hs : s.length ≤ 140737488355328) : Calls Tryz.prog 64 #[.pointer (some ⟨tb, 0, none⟩)] wr (HdE w tb (Sc.hd s)) := by
  obtain ⟨c, hc⟩ : ∃ c, c = s.headD 0 := ⟨_, rfl⟩
  obtain ⟨r, hr⟩ : ∃ r, r = s.drop 1 := ⟨_, rfl⟩
  have HLT := hid (letter_fr h)
  rw [← hc, ← hr] at HLT
  have hrl : r.length ≤ 140737488355328 := by rw [hr, List.length_drop]; omega
  have HSC : Hid (s = [] ∧ c = 0 ∨ s = c :: r) := hid (by
    cases s with
    | nil => exact .inl ⟨rfl, hc⟩
    | cons a b => exact .inr (by rw [hc, hr]; rfl))
  have HRL := hid hrl
  clear hc hr hs h hrl
  generalize hRES : Sc.hd s = RES at *
  have HRES : Hid (Sc.hd s = RES) := hid hRES
  clear hRES
  by_cases c110 : c = 110
  · subst c110
    have HS : Hid (s = 110 :: r) := hid (by
      rcases HSC.out with ⟨_, e⟩ | e
      · exact absurd e (by decide)
      · exact e)
    go_enter Tryz.func64, Tryz.ntmps64
    go_wp2_with fail
    refine HLT.out.mono ?_
    rintro e w1 ⟨rfl, h1⟩
    have H1 := hid h1
    clear h1 HLT HSC
    go_wp2_with fail
    have HN : Hid (Calls Tryz.prog 45 #[.pointer (some ⟨tb, 0, none⟩), .int .u8 59, .int .i64 9223372036854775807] w1 fun en w' => match Sc.nm 59 9223372036854775807 r with
        | none => en = .returned (.int .i64 (-1)) ∧ Fr w tb r w'
        | some (n, x) => en = .returned (.int .i64 (n : Int)) ∧ Fr w tb x w') := hid (number_fr H1.out 59 (by decide) 9223372036854775807 (by decide) HRL.out)
    cases hn : Sc.nm 59 9223372036854775807 r with
    | none =>
      rw [hn] at HN
      refine HN.out.mono ?_
      rintro e w2 ⟨rfl, h2⟩
      have H2 := hid h2
      have HNN := hid hn
      clear h2 hn HN
      go_wp2_with fail
      refine (noparts_any false _).mono ?_
      rintro e w3 ⟨rfl, rfl⟩
      go_wp2_with fail
      go_ret
      exact HdE.no (by rw [← HRES.out, HS.out]; simp only [Sc.hd]; rw [if_pos trivial, HNN.out]) H2.out
    | some q =>
      obtain ⟨n, x⟩ := q
      rw [hn] at HN
      refine HN.out.mono ?_
      rintro e w2 ⟨rfl, h2⟩
      have H2 := hid h2
      have HNN := hid hn
      have hge : (0 : Int) ≤ (n : Int) := by omega
      clear h2 hn HN
      go_wp2_with fail
      refine (noparts_any true _).mono ?_
      rintro e w3 ⟨rfl, rfl⟩
      go_wp2_with fail
      go_ret
      exact HdE.yes (n := 0) (by rw [← HRES.out, HS.out]; simp only [Sc.hd]; rw [if_pos trivial, HNN.out]) H2.out
  have b110 : ¬ (c.toNat : Int) = 110 := fun h => c110 (UInt8.toNat_inj.1 (by simpa using Int.ofNat.inj h))
  by_cases c116 : c = 116
  · subst c116
    have HS : Hid (s = 116 :: r) := hid (by
      rcases HSC.out with ⟨_, e⟩ | e
      · exact absurd e (by decide)
      · exact e)
    go_enter Tryz.func64, Tryz.ntmps64
    go_wp2_with fail
    refine HLT.out.mono ?_
    rintro e w1 ⟨rfl, h1⟩
    have H1 := hid h1
    clear h1 HLT HSC
    go_wp2_with fail
    have HN : Hid (Calls Tryz.prog 45 #[.pointer (some ⟨tb, 0, none⟩), .int .u8 58, .int .i64 4096] w1 fun en w' => match Sc.nm 58 4096 r with
        | none => en = .returned (.int .i64 (-1)) ∧ Fr w tb r w'
        | some (n, x) => en = .returned (.int .i64 (n : Int)) ∧ Fr w tb x w') := hid (number_fr H1.out 58 (by decide) 4096 (by decide) HRL.out)
    cases hn : Sc.nm 58 4096 r with
    | none =>
      rw [hn] at HN
      refine HN.out.mono ?_
      rintro e w2 ⟨rfl, h2⟩
      have H2 := hid h2
      have HNN := hid hn
      clear h2 hn HN
      go_wp2_with fail
      refine (bytes_no tb (-1) r (.inl (by decide)) _ H2.out.cell).mono ?_
      rintro e w3 ⟨rfl, rfl⟩
      go_wp2_with fail
      refine (noparts_any false _).mono ?_
      rintro e w3 ⟨rfl, rfl⟩
      go_wp2_with fail
      go_ret
      exact HdE.no (by rw [← HRES.out, HS.out]; simp only [Sc.hd]; rw [if_neg (by decide), if_pos trivial, HNN.out]) H2.out
    | some q =>
      obtain ⟨n, x⟩ := q
      rw [hn] at HN
      refine HN.out.mono ?_
      rintro e w2 ⟨rfl, h2⟩
      have H2 := hid h2
      have HNN := hid hn
      clear h2 hn HN
      go_wp2_with fail
      by_cases hx : n ≤ x.length
      · refine (bytes_yes tb n x hx _ H2.out.cell H2.out.frozen).mono ?_
        rintro e w3 ⟨rfl, rfl⟩
        have HX := hid hx
        clear hx
        go_wp2_with fail
        refine (noparts_any true _).mono ?_
        rintro e w3 ⟨rfl, rfl⟩
        go_wp2_with fail
        go_ret
        exact HdE.yes (n := 0) (by rw [← HRES.out, HS.out]; simp only [Sc.hd]; rw [if_neg (by decide), if_pos trivial, HNN.out]; simp only; rw [if_pos HX.out]) (H2.out.set _)
      · refine (bytes_no tb (n : Int) x (.inr (by omega)) _ H2.out.cell).mono ?_
        rintro e w3 ⟨rfl, rfl⟩
        have HX := hid hx
        clear hx
        go_wp2_with fail
        refine (noparts_any false _).mono ?_
        rintro e w3 ⟨rfl, rfl⟩
        go_wp2_with fail
        go_ret
        exact HdE.no (by rw [← HRES.out, HS.out]; simp only [Sc.hd]; rw [if_neg (by decide), if_pos trivial, HNN.out]; simp only; rw [if_neg HX.out]) H2.out
  have b116 : ¬ (c.toNat : Int) = 116 := fun h => c116 (UInt8.toNat_inj.1 (by simpa using Int.ofNat.inj h))
  by_cases c84 : c = 84
  · subst c84
    have HS : Hid (s = 84 :: r) := hid (by
      rcases HSC.out with ⟨_, e⟩ | e
      · exact absurd e (by decide)
      · exact e)
    go_enter Tryz.func64, Tryz.ntmps64
    go_wp2_with fail
    refine HLT.out.mono ?_
    rintro e w1 ⟨rfl, h1⟩
    have H1 := hid h1
    clear h1 HLT HSC
    go_wp2_with fail
    have HN : Hid (Calls Tryz.prog 45 #[.pointer (some ⟨tb, 0, none⟩), .int .u8 58, .int .i64 32] w1 fun en w' => match Sc.nm 58 32 r with
        | none => en = .returned (.int .i64 (-1)) ∧ Fr w tb r w'
        | some (n, x) => en = .returned (.int .i64 (n : Int)) ∧ Fr w tb x w') := hid (number_fr H1.out 58 (by decide) 32 (by decide) HRL.out)
    cases hn : Sc.nm 58 32 r with
    | none =>
      rw [hn] at HN
      refine HN.out.mono ?_
      rintro e w2 ⟨rfl, h2⟩
      have H2 := hid h2
      have HNN := hid hn
      clear h2 hn HN
      go_wp2_with fail
      go_ret
      exact HdE.no (by rw [← HRES.out, HS.out]; simp only [Sc.hd]; rw [if_neg (by decide), if_neg (by decide), if_pos trivial, HNN.out]) H2.out
    | some q =>
      obtain ⟨n, x⟩ := q
      rw [hn] at HN
      refine HN.out.mono ?_
      rintro e w2 ⟨rfl, h2⟩
      have H2 := hid h2
      have HNN := hid hn
      clear h2 hn HN
      go_wp2_with fail
      go_ret
      exact HdE.yes (n := n) (by rw [← HRES.out, HS.out]; simp only [Sc.hd]; rw [if_neg (by decide), if_neg (by decide), if_pos trivial, HNN.out]) H2.out
  have b84 : ¬ (c.toNat : Int) = 84 := fun h => c84 (UInt8.toNat_inj.1 (by simpa using Int.ofNat.inj h))
  by_cases c80 : c = 80
  · subst c80
    have HS : Hid (s = 80 :: r) := hid (by
      rcases HSC.out with ⟨_, e⟩ | e
      · exact absurd e (by decide)
      · exact e)
    go_enter Tryz.func64, Tryz.ntmps64
    go_wp2_with fail
    refine HLT.out.mono ?_
    rintro e w1 ⟨rfl, h1⟩
    have H1 := hid h1
    clear h1 HLT HSC
    go_wp2_with fail
    go_ret
    exact HdE.yes (n := 1) (by rw [← HRES.out, HS.out]; rfl) H1.out
  have b80 : ¬ (c.toNat : Int) = 80 := fun h => c80 (UInt8.toNat_inj.1 (by simpa using Int.ofNat.inj h))
  by_cases c72 : c = 72
  · subst c72
    have HS : Hid (s = 72 :: r) := hid (by
      rcases HSC.out with ⟨_, e⟩ | e
      · exact absurd e (by decide)
      · exact e)
    go_enter Tryz.func64, Tryz.ntmps64
    go_wp2_with fail
    refine HLT.out.mono ?_
    rintro e w1 ⟨rfl, h1⟩
    have H1 := hid h1
    clear h1 HLT HSC
    go_wp2_with fail
    go_ret
    exact HdE.yes (n := 1) (by rw [← HRES.out, HS.out]; rfl) H1.out
  have b72 : ¬ (c.toNat : Int) = 72 := fun h => c72 (UInt8.toNat_inj.1 (by simpa using Int.ofNat.inj h))
  by_cases c83 : c = 83
  · subst c83
    have HS : Hid (s = 83 :: r) := hid (by
      rcases HSC.out with ⟨_, e⟩ | e
      · exact absurd e (by decide)
      · exact e)
    go_enter Tryz.func64, Tryz.ntmps64
    go_wp2_with fail
    refine HLT.out.mono ?_
    rintro e w1 ⟨rfl, h1⟩
    have H1 := hid h1
    clear h1 HLT HSC
    go_wp2_with fail
    go_ret
    exact HdE.yes (n := 2) (by rw [← HRES.out, HS.out]; rfl) H1.out
  have b83 : ¬ (c.toNat : Int) = 83 := fun h => c83 (UInt8.toNat_inj.1 (by simpa using Int.ofNat.inj h))
  by_cases c66 : c = 66
  · subst c66
    have HS : Hid (s = 66 :: r) := hid (by
      rcases HSC.out with ⟨_, e⟩ | e
      · exact absurd e (by decide)
      · exact e)
    go_enter Tryz.func64, Tryz.ntmps64
    go_wp2_with fail
    refine HLT.out.mono ?_
    rintro e w1 ⟨rfl, h1⟩
    have H1 := hid h1
    clear h1 HLT HSC
    go_wp2_with fail
    go_ret
    exact HdE.yes (n := 2) (by rw [← HRES.out, HS.out]; rfl) H1.out
  have b66 : ¬ (c.toNat : Int) = 66 := fun h => c66 (UInt8.toNat_inj.1 (by simpa using Int.ofNat.inj h))
  by_cases c88 : c = 88
  · subst c88
    have HS : Hid (s = 88 :: r) := hid (by
      rcases HSC.out with ⟨_, e⟩ | e
      · exact absurd e (by decide)
      · exact e)
    go_enter Tryz.func64, Tryz.ntmps64
    go_wp2_with fail
    refine HLT.out.mono ?_
    rintro e w1 ⟨rfl, h1⟩
    have H1 := hid h1
    clear h1 HLT HSC
    go_wp2_with fail
    go_ret
    exact HdE.yes (n := 2) (by rw [← HRES.out, HS.out]; rfl) H1.out
  have b88 : ¬ (c.toNat : Int) = 88 := fun h => c88 (UInt8.toNat_inj.1 (by simpa using Int.ofNat.inj h))
  by_cases c68 : c = 68
  · subst c68
    have HS : Hid (s = 68 :: r) := hid (by
      rcases HSC.out with ⟨_, e⟩ | e
      · exact absurd e (by decide)
      · exact e)
    go_enter Tryz.func64, Tryz.ntmps64
    go_wp2_with fail
    refine HLT.out.mono ?_
    rintro e w1 ⟨rfl, h1⟩
    have H1 := hid h1
    clear h1 HLT HSC
    go_wp2_with fail
    go_ret
    exact HdE.yes (n := 2) (by rw [← HRES.out, HS.out]; rfl) H1.out
  have b68 : ¬ (c.toNat : Int) = 68 := fun h => c68 (UInt8.toNat_inj.1 (by simpa using Int.ofNat.inj h))
  by_cases c86 : c = 86
  · subst c86
    have HS : Hid (s = 86 :: r) := hid (by
      rcases HSC.out with ⟨_, e⟩ | e
      · exact absurd e (by decide)
      · exact e)
    go_enter Tryz.func64, Tryz.ntmps64
    go_wp2_with fail
    refine HLT.out.mono ?_
    rintro e w1 ⟨rfl, h1⟩
    have H1 := hid h1
    clear h1 HLT HSC
    go_wp2_with fail
    go_ret
    exact HdE.yes (n := 2) (by rw [← HRES.out, HS.out]; rfl) H1.out
  have b86 : ¬ (c.toNat : Int) = 86 := fun h => c86 (UInt8.toNat_inj.1 (by simpa using Int.ofNat.inj h))
  by_cases c87 : c = 87
  · subst c87
    have HS : Hid (s = 87 :: r) := hid (by
      rcases HSC.out with ⟨_, e⟩ | e
      · exact absurd e (by decide)
      · exact e)
    go_enter Tryz.func64, Tryz.ntmps64
    go_wp2_with fail
    refine HLT.out.mono ?_
    rintro e w1 ⟨rfl, h1⟩
    have H1 := hid h1
    clear h1 HLT HSC
    go_wp2_with fail
    go_ret
    exact HdE.yes (n := 2) (by rw [← HRES.out, HS.out]; rfl) H1.out
  have b87 : ¬ (c.toNat : Int) = 87 := fun h => c87 (UInt8.toNat_inj.1 (by simpa using Int.ofNat.inj h))
  by_cases c75 : c = 75
  · subst c75
    have HS : Hid (s = 75 :: r) := hid (by
      rcases HSC.out with ⟨_, e⟩ | e
      · exact absurd e (by decide)
      · exact e)
    go_enter Tryz.func64, Tryz.ntmps64
    go_wp2_with fail
    refine HLT.out.mono ?_
    rintro e w1 ⟨rfl, h1⟩
    have H1 := hid h1
    clear h1 HLT HSC
    go_wp2_with fail
    go_ret
    exact HdE.yes (n := 2) (by rw [← HRES.out, HS.out]; rfl) H1.out
  have b75 : ¬ (c.toNat : Int) = 75 := fun h => c75 (UInt8.toNat_inj.1 (by simpa using Int.ofNat.inj h))
  by_cases c76 : c = 76
  · subst c76
    have HS : Hid (s = 76 :: r) := hid (by
      rcases HSC.out with ⟨_, e⟩ | e
      · exact absurd e (by decide)
      · exact e)
    go_enter Tryz.func64, Tryz.ntmps64
    go_wp2_with fail
    refine HLT.out.mono ?_
    rintro e w1 ⟨rfl, h1⟩
    have H1 := hid h1
    clear h1 HLT HSC
    go_wp2_with fail
    go_ret
    exact HdE.yes (n := 2) (by rw [← HRES.out, HS.out]; rfl) H1.out
  have b76 : ¬ (c.toNat : Int) = 76 := fun h => c76 (UInt8.toNat_inj.1 (by simpa using Int.ofNat.inj h))
  have HN0 : Hid (RES = none) := hid (by
    rw [← HRES.out]
    rcases HSC.out with ⟨e, _⟩ | e
    · rw [e]
      rfl
    · rw [e]
      simp only [Sc.hd]
      rw [if_neg c110, if_neg c116, if_neg c84, if_neg (by simp [c80, c72]), if_neg (by simp [c83, c66, c88, c68, c86, c87, c75, c76])])
  clear c110 c116 c84 c80 c72 c83 c66 c88 c68 c86 c87 c75 c76
  go_enter Tryz.func64, Tryz.ntmps64
  go_wp2_with fail
  refine HLT.out.mono ?_
  rintro e w1 ⟨rfl, h1⟩
  have H1 := hid h1
  clear h1 HLT HSC
  go_wp2_with fail
  go_ret
  exact HdE.no HN0.out H1.out
end Go.Proofs.YtdllpklecdmghaaGreatDoor
/- Scanning: a thing with parts within parts. -/
namespace Go.Proofs.YtdllpklecdmghaaGreatDoor
open Go.RowKit
theorem eg46 : ∀ args w, (callFunc 64 args).run Tryz.prog w = .ok (.enter 64 args) w := Go.Proofs.enters_of Tryz.func64 (by kernel_rfl) rfl
theorem neA {o p : Nat} (ho : o ≤ 1000000) (hp : p ≤ 32) : IntKind.i64.wrap ((o : Int) + (p : Int)) = ((o + p : Nat) : Int) := by rw [IntKind.wrap_i64]; omega
theorem neB {o : Nat} (ho : o ≤ 1000032) (h1 : 0 < o) : IntKind.i64.wrap ((o : Int) - 1) = ((o - 1 : Nat) : Int) := by rw [IntKind.wrap_i64]; omega
theorem neC {o p : Nat} (ho : o ≤ 1000000) (hp : p ≤ 32) : wrap64 ((o : Int) + (p : Int)) = ((o + p : Nat) : Int) := wrap_nat (by omega) (by omega)
theorem neD {o : Nat} (ho : o ≤ 1000032) (h1 : 0 < o) : wrap64 ((o : Int) - 1) = ((o - 1 : Nat) : Int) := wrap_nat (by omega) (by omega)
theorem neF {o p : Nat} (ho : o ≤ 1000000) (hp : p ≤ 32) (h1 : 0 < o) : wrap64 ((o : Int) + (p : Int) - 1) = ((o + p - 1 : Nat) : Int) := wrap_nat (by omega) (by omega)
structure Ne (w : World) (tb : Nat) (s : Bs) (RES : Option Bs) (o : Nat) (r : Bs) (wr : World) : Prop where
  fr : Fr w tb r wr
  res : ∃ g, r.length < g ∧ RES = Sc.nest g o r
  le : r.length ≤ s.length
  few : o ≤ 1 + 32 * (s.length - r.length)
def NeE (w : World) (tb : Nat) (s : Bs) (r : Option Bs) (e : Ending) (w' : World) : Prop := match r with
  | none => e = .returned (St []) ∧ Fr w tb s w'
  | some x => e = .returned (St (s.take (s.length - x.length))) ∧ Fr w tb x w'
theorem NeE.no {w : World} {tb : Nat} {s : Bs} {r : Option Bs} {w' : World} (h : r = none) (hf : Fr w tb s w') : NeE w tb s r (.returned (St [])) w' := by subst h; exact ⟨rfl, hf⟩
theorem NeE.yes {w : World} {tb : Nat} {s x : Bs} {r : Option Bs} {w' : World} (h : r = some x) (hf : Fr w tb x w') : NeE w tb s r (.returned (St (s.take (s.length - x.length)))) w' := by subst h; exact ⟨rfl, hf⟩
theorem Ne.small {w : World} {tb : Nat} {s : Bs} {RES : Option Bs} {o : Nat} {r : Bs} {wr : World} (h : Ne w tb s RES o r wr) (hs : s.length ≤ 20000) : o ≤ 1000000 ∧ r.length ≤ 140737488355328 := ⟨by have := h.few; have := h.le; omega, by have := h.le; omega⟩
theorem Ne.stop {w : World} {tb : Nat} {s : Bs} {RES : Option Bs} {o : Nat} {r : Bs} {wr : World} (h : Ne w tb s RES (o + 1) r wr) (hd : Sc.hd r = none) : RES = none := by
  obtain ⟨g, hg, hr⟩ := h.res
  obtain ⟨g, rfl⟩ : ∃ k, g = k + 1 := ⟨g - 1, by omega⟩
  rw [hr, Sc.nest, hd]
theorem Ne.next {w : World} {tb : Nat} {s : Bs} {RES : Option Bs} {o p : Nat} {r x : Bs} {wr w' : World} (h : Ne w tb s RES (o + 1) r wr) (hd : Sc.hd r = some (p, x)) (hf : Fr w tb x w') : Ne w tb s RES (o + 1 + p - 1) x w' ∧ x.length < r.length ∧ p ≤ 32 := by
  obtain ⟨g, hg, hr⟩ := h.res
  obtain ⟨g, rfl⟩ : ∃ k, g = k + 1 := ⟨g - 1, by omega⟩
  have hl := Sc.hd_len hd
  have h1 := h.le
  have h2 := h.few
  refine ⟨⟨hf, ⟨g, by omega, ?_⟩, by omega, by omega⟩, hl⟩
  rw [hr, Sc.nest, hd, show o + 1 + p - 1 = o + p by omega]
theorem Ne.done {w : World} {tb : Nat} {s : Bs} {RES : Option Bs} {r : Bs} {wr : World} (h : Ne w tb s RES 0 r wr) : RES = some r ∧ IntKind.i64.wrap ((s.length : Int) - (r.length : Int)) = ((s.length - r.length : Nat) : Int) ∧ wrap64 ((s.length : Int) - (r.length : Int)) = ((s.length - r.length : Nat) : Int) ∨ 1000000 < s.length := by
  obtain ⟨g, hg, hr⟩ := h.res
  by_cases hs : s.length ≤ 1000000
  · left
    have := h.le
    refine ⟨?_, by rw [IntKind.wrap_i64]; omega, wrap_nat (by omega) (by omega)⟩
    rw [hr]
    cases g <;> rfl
  · right
    omega
set_option maxHeartbeats 8000000 in
theorem nested_any {w : World} {tb : Nat} {s : Bs} {wr : World} (h : Fr w tb s wr) (hs : s.length ≤ 20000) : Calls Tryz.prog 63 #[.pointer (some ⟨tb, 0, none⟩), .func (.func 64) #[.pointer (some ⟨tb, 0, none⟩)] #[]] wr (NeE w tb s (Sc.nest (s.length + 1) 1 s)) := by
  have eg := eg46
  have HN0 : Hid (Ne w tb s (Sc.nest (s.length + 1) 1 s) 1 s wr) := hid ⟨h, ⟨s.length + 1, by omega, rfl⟩, Nat.le_refl _, by omega⟩
  have c0 := h.cell
  have HSS := hid hs
  clear h hs
  generalize Sc.nest (s.length + 1) 1 s = RES at *
  go_enter Tryz.func63, Tryz.ntmps63
  go_wp2_with fail
  clear c0
  go_loopg [6] (s.length + 1) (fun gg v6 wx => ∃ (o : Nat) (r : Bs), gg = r.length + 1 ∧ v6 = .int .i64 (o : Int) ∧ Ne w tb s RES o r wx)
  case atStart => exact ⟨1, s, rfl, rfl, HN0.out⟩
  case round =>
    obtain ⟨o, r, rfl, rfl, hne⟩ := hrel
    cases o with
    | zero =>
      have hd := hne.done
      have hc := hne.fr.cell
      have HF := hid hne.fr
      obtain ⟨hd1, hd2, hd3⟩ : RES = some r ∧ IntKind.i64.wrap ((s.length : Int) - (r.length : Int)) = ((s.length - r.length : Nat) : Int) ∧ wrap64 ((s.length : Int) - (r.length : Int)) = ((s.length - r.length : Nat) : Int) := by
        rcases hd with h | h
        · exact h
        · exact absurd HSS.out (by omega)
      have hb1 : ((s.length - r.length : Nat) : Int) ≤ (s.length : Int) := by omega
      have hb0 : (0 : Int) ≤ ((s.length - r.length : Nat) : Int) := by omega
      have het := ex_take s (s.length - r.length)
      have HD := hid hd1
      clear hd hd1 hne HN0
      go_wp2_with fail
      go_ret
      exact NeE.yes HD.out HF.out
    | succ o =>
      obtain ⟨ho6, hrl⟩ := hne.small HSS.out
      have HCA := hid (head_any hne.fr hrl)
      have hpos : (0 : Int) < ((o + 1 : Nat) : Int) := by omega
      have HNE := hid hne
      have HO6 := hid ho6
      clear hne ho6 hrl HN0
      obtain ⟨o1, ho1⟩ : ∃ o1, o1 = o + 1 := ⟨_, rfl⟩
      rw [← ho1] at hpos ⊢
      have HO1 := hid ho1
      clear ho1
      cases hh : Sc.hd r with
      | none =>
        have HST := hid (HNE.out.stop hh)
        rw [hh] at HCA
        clear hh
        go_wp2_with fail
        refine HCA.out.mono ?_
        rintro e w2 ⟨rfl, x, hx⟩
        have hc := hx.cell
        have hfz := hx.frozen
        have HX := hid hx
        clear hx HCA
        go_wp2_with fail
        go_ret
        exact NeE.no HST.out (HX.out.set s)
      | some q =>
        obtain ⟨p, x⟩ := q
        rw [hh] at HCA
        have HH := hid hh
        clear hh
        go_wp2_with fail
        refine HCA.out.mono ?_
        rintro e w2 ⟨rfl, hx⟩
        obtain ⟨hn2, hlt, hp32⟩ := HNE.out.next HH.out hx
        rw [← HO1.out] at hn2
        have hop : o1 ≤ 1000000 := by rw [HO1.out]; exact HO6.out
        have hp0 : ¬ (p : Int) < 0 := by omega
        have a1 := neA hop hp32
        have a2 := neC hop hp32
        have a3 := neB (o := o1 + p) (by omega) (by have := HO1.out; omega)
        have a4 := neD (o := o1 + p) (by omega) (by have := HO1.out; omega)
        have HF := hid (neF hop hp32 (by have := HO1.out; omega))
        have HN2 := hid hn2
        have HLT := hid hlt
        clear hx hn2 hlt hp32 hop HCA
        go_wp2_with fail
        go_roundg (x.length + 1)
        case measure => exact Nat.succ_lt_succ HLT.out
        case rel => exact ⟨o1 + p - 1, x, rfl, congrArg (Value.int .i64) (by first | exact HF.out | rfl), HN2.out⟩
end Go.Proofs.YtdllpklecdmghaaGreatDoor
/- Scanning: the text of a term. -/
namespace Go.Proofs.YtdllpklecdmghaaGreatDoor
open Go.RowKit
structure Fg (w : World) (tb : Nat) (r : Bs) (wr : World) : Prop where
  txt : wr.heap[tb]? = some (.cells #[St r] 56 (0, 0))
  els : ∀ g, g < w.heap.size → g ≠ tb → wr.heap[g]? = w.heap[g]?
  size : w.heap.size ≤ wr.heap.size
  os : wr.os = w.os
  tape : wr.tape = w.tape
  out : wr.output = w.output
theorem piece_len (s : Bs) : (Sc.piece s).length ≤ s.length ∧ (Sc.piece s).length ≤ 16384 := by
  unfold Sc.piece
  split
  · simp
  · simp only [List.length_take]
    omega
theorem near_fg {w wn w' : World} {tb : Nat} {s r : Bs} (h : w.heap[tb]? = some (.cells #[St s] 56 (0, 0))) (hn : Below w.heap.size w wn) (hnb : wn.heap.size = w.heap.size + 1) (hf : Fr wn w.heap.size r w') : w'.cell? ⟨tb, 0, none⟩ = some (St s) ∧ w'.frozen? ⟨tb, 0, none⟩ = false ∧ ∀ x, Fg w tb x (w'.setCell ⟨tb, 0, none⟩ (St x)) := by
  have hlt := lt_of_heap h
  have hne : tb ≠ w.heap.size := by omega
  have h1 : w'.heap[tb]? = some (.cells #[St s] 56 (0, 0)) := by rw [hf.els tb hne, hn.block tb hlt]; exact h
  refine ⟨(cell_of_heap h1 0).trans rfl, frozen_of_heap h1 0, fun x => ⟨?_, fun g hg hgt => ?_, ?_, hf.os.trans hn.os, hf.tape.trans hn.tape, hf.out.trans hn.output⟩⟩
  · rw [heap_setCell_same h1 0 (St x)]
    rfl
  · rw [Below.heap_setCell _ _ _ _ hgt, hf.els g (by omega), hn.block g hg]
  · have : (w'.setCell ⟨tb, 0, none⟩ (St x)).heap.size = w'.heap.size := by simp [World.setCell]
    rw [this, hf.size, hnb]
    omega
theorem heap_alloc_size' (w : World) (o : Obj) : (w.alloc o).drew.heap.size = w.heap.size + 1 := by
  show (w.alloc o).heap.size = _
  simp
set_option maxHeartbeats 8000000 in
theorem term_any {w : World} {tb : Nat} {s : Bs} (h : w.heap[tb]? = some (.cells #[St s] 56 (0, 0))) (hs : s.length ≤ 140737488355328) : Calls Tryz.prog 44 #[.pointer (some ⟨tb, 0, none⟩)] w fun e w' => e = .returned (St (Sc.piece s)) ∧ Fg w tb (s.drop (Sc.piece s).length) w' := by
  have c0 : w.cell? ⟨tb, 0, none⟩ = some (St s) := (cell_of_heap h 0).trans rfl
  have HK : Hid (∀ o, (w.alloc o).cell? ⟨tb, 0, none⟩ = some (St s)) := hid (fun o => cell_later (below_al w o) c0)
  obtain ⟨T, hT⟩ : ∃ T, T = s.take 16384 := ⟨_, rfl⟩
  have HTL : Hid (T.length ≤ 20000) := hid (by rw [hT, List.length_take]; omega)
  have HPI : Hid (Sc.piece s = match Sc.nest (T.length + 1) 1 T with | none => [] | some r => T.take (T.length - r.length)) := hid (by rw [hT]; rfl)
  have HPL := hid (piece_len s)
  have HH := hid h
  have HSL := hid hs
  clear hs
  generalize Sc.piece s = P at *
  obtain ⟨m, hm⟩ : ∃ m, m = min s.length 16384 := ⟨_, rfl⟩
  have hmn : min (s.length : Int) 16384 = (m : Int) := by omega
  have hm0 : (0 : Int) ≤ (m : Int) := by omega
  have hm1 : (m : Int) ≤ (s.length : Int) := by omega
  have het : (⟨s.toArray⟩ : ByteArray).extract 0 m = ⟨T.toArray⟩ := by
    rw [ex_take, hT, hm]
    by_cases hle : s.length ≤ 16384
    · rw [Nat.min_eq_left hle, List.take_of_length_le (Nat.le_refl _), List.take_of_length_le hle]
    · rw [Nat.min_eq_right (by omega)]
  have HNB : Hid (Below w.heap.size w (w.alloc (.cells #[St T] 56)).drew) := hid (below_ad w _ 1)
  have HNZ : Hid ((w.alloc (.cells #[St T] 56)).drew.heap.size = w.heap.size + 1) := hid (heap_alloc_size' w _)
  have HNF : Hid (Fr (w.alloc (.cells #[St T] 56)).drew w.heap.size T (w.alloc (.cells #[St T] 56)).drew) := hid (Fr.refl (heap_alloc_new w _))
  have HCN : Hid (Calls Tryz.prog 63 #[.pointer (some ⟨w.heap.size, 0, none⟩), .func (.func 64) #[.pointer (some ⟨w.heap.size, 0, none⟩)] #[]] (w.alloc (.cells #[St T] 56)).drew fun e w' => e = .returned (St P) ∧ (w'.cell? ⟨tb, 0, none⟩ = some (St s) ∧ w'.frozen? ⟨tb, 0, none⟩ = false ∧ ∀ x, Fg w tb x (w'.setCell ⟨tb, 0, none⟩ (St x)))) := hid ((nested_any HNF.out HTL.out).mono (fun e w' hn => by
    have hp := HPI.out
    unfold NeE at hn
    cases hr : Sc.nest (T.length + 1) 1 T with
    | none =>
      rw [hr] at hn hp
      obtain ⟨rfl, hf⟩ := hn
      exact ⟨by rw [hp], near_fg h HNB.out HNZ.out hf⟩
    | some r =>
      rw [hr] at hn hp
      obtain ⟨rfl, hf⟩ := hn
      exact ⟨by rw [hp], near_fg h HNB.out HNZ.out hf⟩))
  have hpl0 : (0 : Int) ≤ (P.length : Int) := by omega
  have hpl1 : (P.length : Int) ≤ (s.length : Int) := by have := HPL.out.1; omega
  have hed := ex_drop s P.length
  clear hT hm h
  go_enter Tryz.func44, Tryz.ntmps44
  go_wp2_with fail
  go_region_held3 (fun wx => wx.cell? ⟨tb, 0, none⟩ = some (St s)) (first | exact c0 | exact HK.out _) (fail)
  all_goals
    rw [show Value.string { data := T.toArray } = St T from rfl]
    clear HNB HNZ HNF HK c0
    generalize (w.alloc (.cells #[St T] 56)).drew = wn at *
    go_wp2_with fail
    refine HCN.out.mono ?_
    rintro e w2 ⟨rfl, c1, f1, hfg⟩
    have HFG := hid hfg
    clear hfg HCN
    go_wp2_with fail
    go_ret
    exact ⟨rfl, HFG.out _⟩
end Go.Proofs.YtdllpklecdmghaaGreatDoor
