import Derived.Test.YtojnembakhhgiaaPwAll
import Derived.Test.YtojnembakhhgiaaNaAll
/- A disk that is not there. -/
namespace Go.Proofs.Ytojnembakhhgiaa
open Go.RowKit

theorem nready (w : World) : Calls Try.prog 36 #[.pointer none] w fun e w' => e = .returned (.int .i64 1) ∧ w' = w := by
  go_enter Try.func36, Try.ntmps36
  go_wp2_with fail
  go_ret
  exact ⟨rfl, rfl⟩
theorem nfind (w : World) (t : Bs) : Calls Try.prog 41 #[.pointer none, St t] w fun e w' => e = .returned (.tuple #[.pointer none, .int .i64 1]) ∧ w' = w := by
  have HR := hid (nready w)
  go_enter Try.func41, Try.ntmps41
  go_wp2_with fail
  refine HR.out.mono ?_
  rintro e w1 ⟨rfl, hw⟩
  subst hw
  go_wp2_with fail
  go_ret2
  exact ⟨rfl, rfl⟩
theorem ncreate (w : World) (t : Bs) : Calls Try.prog 11 #[.pointer none, St t] w fun e w' => e = .returned (.int .i64 1) ∧ Below w.heap.size w w' := by
  have HR := hid (nready ((w.alloc (.cells #[.pointer none] 29)).alloc (.cells #[St t] 9)))
  have HB : Hid (Below w.heap.size w ((w.alloc (.cells #[.pointer none] 29)).alloc (.cells #[St t] 9))) := hid (((Below.refl _ _).alloc (Nat.le_refl _) _).alloc (by simp) _)
  go_enter Try.func11, Try.ntmps11
  go_wp2_with fail
  refine HR.out.mono ?_
  rintro e w1 ⟨rfl, hw⟩
  subst hw
  go_wp2_with fail
  go_ret
  exact ⟨rfl, HB.out⟩
theorem nremove (w : World) (t : Bs) : Calls Try.prog 18 #[.pointer none, St t] w fun e w' => e = .returned (.int .i64 1) ∧ Below w.heap.size w w' := by
  have HR := hid (nfind ((w.alloc (.cells #[.pointer none] 29)).alloc (.cells #[St t] 9)) t)
  have HB : Hid (Below w.heap.size w ((w.alloc (.cells #[.pointer none] 29)).alloc (.cells #[St t] 9))) := hid (((Below.refl _ _).alloc (Nat.le_refl _) _).alloc (by simp) _)
  go_enter Try.func18, Try.ntmps18
  go_wp2_with fail
  refine HR.out.mono ?_
  rintro e w1 ⟨rfl, hw⟩
  subst hw
  go_wp2_with fail
  go_ret
  exact ⟨rfl, HB.out⟩
theorem nrename (w : World) (t to : Bs) : Calls Try.prog 19 #[.pointer none, St t, St to] w fun e w' => e = .returned (.int .i64 1) ∧ Below w.heap.size w w' := by
  have HR := hid (nfind (((w.alloc (.cells #[.pointer none] 29)).alloc (.cells #[St t] 9)).alloc (.cells #[St to] 9)) t)
  have HB : Hid (Below w.heap.size w (((w.alloc (.cells #[.pointer none] 29)).alloc (.cells #[St t] 9)).alloc (.cells #[St to] 9))) := hid ((((Below.refl _ _).alloc (Nat.le_refl _) _).alloc (by simp) _).alloc (by simp; omega) _)
  go_enter Try.func19, Try.ntmps19
  go_wp2_with fail
  refine HR.out.mono ?_
  rintro e w1 ⟨rfl, hw⟩
  subst hw
  go_wp2_with fail
  go_ret
  exact ⟨rfl, HB.out.alloc HB.out.size _⟩
theorem nwrite (w : World) (t : Bs) : Calls Try.prog 12 #[.pointer none, St t, .int .i64 0, .slice none 0 0] w fun e w' => e = .returned (.int .i64 1) ∧ Below w.heap.size w w' := by
  have HR := hid (nfind (((w.alloc (.cells #[.pointer none] 29)).alloc (.cells #[.int .i64 0] 3)).alloc (.cells #[.slice none 0 0] 23)) t)
  have HB : Hid (Below w.heap.size w (((w.alloc (.cells #[.pointer none] 29)).alloc (.cells #[.int .i64 0] 3)).alloc (.cells #[.slice none 0 0] 23))) := hid ((((Below.refl _ _).alloc (Nat.le_refl _) _).alloc (by simp) _).alloc (by simp; omega) _)
  go_enter Try.func12, Try.ntmps12
  go_wp2_with fail
  refine HR.out.mono ?_
  rintro e w1 ⟨rfl, hw⟩
  subst hw
  go_wp2_with fail
  go_ret
  exact ⟨rfl, HB.out.alloc HB.out.size _⟩
theorem nsync (w : World) (t : Bs) : Calls Try.prog 14 #[.pointer none, St t] w fun e w' => e = .returned (.int .i64 1) ∧ w' = w := by
  have HR := hid (nfind w t)
  go_enter Try.func14, Try.ntmps14
  go_wp2_with fail
  refine HR.out.mono ?_
  rintro e w1 ⟨rfl, hw⟩
  subst hw
  go_wp2_with fail
  go_ret
  exact ⟨rfl, rfl⟩
theorem nread (w : World) (t : Bs) : Calls Try.prog 13 #[.pointer none, St t, .int .i64 0] w fun e w' => e = .returned (.tuple #[.slice none 0 0, .int .i64 1]) ∧ w' = w := by
  have HR := hid (nfind w t)
  go_enter Try.func13, Try.ntmps13
  go_wp2_with fail
  refine HR.out.mono ?_
  rintro e w1 ⟨rfl, hw⟩
  subst hw
  go_wp2_with fail
  go_ret2
  exact ⟨rfl, rfl⟩
theorem nlen (w : World) (t : Bs) : Calls Try.prog 16 #[.pointer none, St t] w fun e w' => e = .returned (.tuple #[.int .i64 0, .int .i64 1]) ∧ w' = w := by
  have HR := hid (nfind w t)
  go_enter Try.func16, Try.ntmps16
  go_wp2_with fail
  refine HR.out.mono ?_
  rintro e w1 ⟨rfl, hw⟩
  subst hw
  go_wp2_with fail
  go_ret2
  exact ⟨rfl, rfl⟩
theorem nfail (w : World) : Calls Try.prog 10 #[.pointer none, .int .i64 0, .int .u64 0] w fun e w' => e = .returned (.tuple #[]) ∧ w' = w := by
  have HR := hid (nready w)
  go_enter Try.func10, Try.ntmps10
  go_wp2_with fail
  refine HR.out.mono ?_
  rintro e w1 ⟨rfl, hw⟩
  subst hw
  go_wp2_with fail
  refine bodyPost_ret (results_none rfl _ _ _) rfl ?_
  exact ⟨rfl, rfl⟩
theorem noff (w : World) : Calls Try.prog 15 #[.pointer none] w fun e w' => e = .returned (.bool false) ∧ w' = w := by
  go_enter Try.func15, Try.ntmps15
  go_wp2_with fail
  go_ret
  exact ⟨rfl, rfl⟩
theorem non (w : World) : Calls Try.prog 9 #[.pointer none] w fun e w' => e = .returned (.tuple #[]) ∧ w' = w := by
  have HR := hid (noff w)
  go_enter Try.func9, Try.ntmps9
  go_wp2_with fail
  refine HR.out.mono ?_
  rintro e w1 ⟨rfl, hw⟩
  subst hw
  go_wp2_with fail
  refine bodyPost_ret (results_none rfl _ _ _) rfl ?_
  exact ⟨rfl, rfl⟩
theorem nnames (w : World) : Calls Try.prog 22 #[.pointer none] w fun e w' => e = .returned (.slice none 0 0) ∧ w' = w := by
  have HR := hid (nready w)
  go_enter Try.func22, Try.ntmps22
  go_wp2_with fail
  refine HR.out.mono ?_
  rintro e w1 ⟨rfl, hw⟩
  subst hw
  go_wp2_with fail
  go_ret
  exact ⟨rfl, rfl⟩
theorem nused (w : World) : Calls Try.prog 20 #[.pointer none] w fun e w' => e = .returned (.int .i64 0) ∧ w' = w := by
  go_enter Try.func20, Try.ntmps20
  go_wp2_with fail
  go_ret
  exact ⟨rfl, rfl⟩
theorem nsteps (w : World) : Calls Try.prog 21 #[.pointer none] w fun e w' => e = .returned (.int .i64 0) ∧ w' = w := by
  go_enter Try.func21, Try.ntmps21
  go_wp2_with fail
  go_ret
  exact ⟨rfl, rfl⟩
theorem ncopy (w : World) : Calls Try.prog 24 #[.pointer none] w fun e w' => e = .returned (.pointer none) ∧ w' = w := by
  go_enter Try.func24, Try.ntmps24
  go_wp2_with fail
  go_ret
  exact ⟨rfl, rfl⟩
end Go.Proofs.Ytojnembakhhgiaa

/- The examples of the chapter, as states of a disk. -/
namespace Go.Proofs.Ytojnembakhhgiaa
open Go.RowKit

def kd0 : Ds := newD 2
def kd1 : Ds := (createD kd0 [102]).2
def kd2 : Ds := (createD kd1 [102]).2
def kd3 : Ds := (createD kd2 []).2
def kd4 : Ds := (writeD kd3 [102] 0 (List.replicate 256 (1 : UInt8))).2
def kd5 : Ds := (writeD kd4 [102] 2 (List.replicate 256 (1 : UInt8))).2
def kd6 : Ds := (writeD kd5 [102] 1 (List.replicate 256 (2 : UInt8))).2
def kd7 : Ds := (writeD kd6 [102] 2 (List.replicate 256 (1 : UInt8))).2
def kd8 : Ds := (writeD kd7 [102] 0 (List.replicate 257 (1 : UInt8))).2
def kd9 : Ds := (writeD kd8 [103] 0 []).2
def kd10 : Ds := (syncD kd9 [103]).2
def kd11 : Ds := (removeD kd10 [103]).2
def kd12 : Ds := (renameD kd11 [103] [104]).2
def kd13 : Ds := (renameD kd12 [102] []).2
def kd14 : Ds := (createD kd13 (List.replicate 101 (97 : UInt8))).2
theorem kd_is : (createD kd0 [102]).1 = 0 ∧ (createD kd1 [102]).1 = 90 ∧ (createD kd2 []).1 = 2 ∧ (writeD kd3 [102] 0 (List.replicate 256 (1 : UInt8))).1 = 0 ∧ (writeD kd4 [102] 2 (List.replicate 256 (1 : UInt8))).1 = 92 ∧ (writeD kd5 [102] 1 (List.replicate 256 (2 : UInt8))).1 = 0 ∧ (writeD kd6 [102] 2 (List.replicate 256 (1 : UInt8))).1 = 93 ∧ (writeD kd7 [102] 0 (List.replicate 257 (1 : UInt8))).1 = 2 ∧ (writeD kd8 [103] 0 []).1 = 91 ∧ (syncD kd9 [103]).1 = 91 ∧ (removeD kd10 [103]).1 = 91 ∧ (renameD kd11 [103] [104]).1 = 91 ∧ (renameD kd12 [102] []).1 = 2 ∧ (createD kd13 (List.replicate 101 (97 : UInt8))).1 = 2 ∧ usedN kd14 = 2 ∧ kd14.steps = 3 := by decide +kernel
theorem kd_small : Sm 1 kd0 ∧ Sm 1 kd1 ∧ Sm 1 kd2 ∧ Sm 1 kd3 ∧ Sm 1 kd4 ∧ Sm 1 kd5 ∧ Sm 1 kd6 ∧ Sm 1 kd7 ∧ Sm 1 kd8 ∧ Sm 1 kd9 ∧ Sm 1 kd10 ∧ Sm 1 kd11 ∧ Sm 1 kd12 ∧ Sm 1 kd13 := by
  unfold Sm
  decide +kernel
def ke0 : Ds := newD 9
def ke1 : Ds := (createD ke0 [102]).2
def ke2 : Ds := (writeD ke1 [102] 0 (List.replicate 256 (1 : UInt8))).2
def ke3 : Ds := (writeD ke2 [102] 1 (List.replicate 256 (2 : UInt8))).2
def ke4 : Ds := failD ke3 0 2
def ke5 : Ds := (syncD ke4 [102]).2
def ke6 : Ds := onD ke5
def ke7 : Ds := (renameD ke6 [102] [103]).2
def ke8 : Ds := (renameD ke7 [102] [103]).2
def ke9 : Ds := (renameD ke8 [103] [103]).2
theorem ke_is : (createD ke0 [102]).1 = 0 ∧ (writeD ke1 [102] 0 (List.replicate 256 (1 : UInt8))).1 = 0 ∧ (writeD ke2 [102] 1 (List.replicate 256 (2 : UInt8))).1 = 0 ∧ (syncD ke4 [102]).1 = 7 ∧ ke5.off = true ∧ readDk ke5 [102] 0 = ([], 7) ∧ namesD ke5 = [] ∧ lenD ke6 [102] = (2, 0) ∧ readDk ke6 [102] 0 = ((List.replicate 256 (0 : UInt8)), 0) ∧ readDk ke6 [102] 1 = ((List.replicate 256 (2 : UInt8)), 0) ∧ (renameD ke6 [102] [103]).1 = 0 ∧ (renameD ke7 [102] [103]).1 = 91 ∧ (renameD ke8 [103] [103]).1 = 0 ∧ ke9.off = false ∧ ke9.files.map Df.name = [[103]] ∧ ke9.steps = 5 := by decide +kernel
theorem ke_names : namesD ke9 = [[103]] := by
  obtain ⟨_, _, _, _, _, _, _, _, _, _, _, _, _, h1, h2, _⟩ := ke_is
  unfold namesD
  rw [h1, h2, if_neg (by decide)]
  exact sorted_of_perm (List.Perm.refl _) (by simp)
theorem ke_small : Sm 1 ke0 ∧ Sm 1 ke1 ∧ Sm 1 ke2 ∧ Sm 1 ke4 ∧ Sm 1 ke6 ∧ Sm 1 ke7 ∧ Sm 1 ke8 := by
  unfold Sm
  decide +kernel
/-- the disk of so many files -/
def nm2 (i : Nat) : Bs := [UInt8.ofNat (97 + i / 16), UInt8.ofNat (97 + i % 16)]
structure Mn (s : Ds) (x : Nat) : Prop where
  off : s.off = false
  set : s.set = false
  steps : s.steps = x
  next : s.next = x
  names : s.files.map Df.name = (List.range x).map nm2
theorem nm2_inj {i j : Nat} (hi : i < 256) (hj : j < 256) (h : nm2 i = nm2 j) : i = j := by
  unfold nm2 at h
  simp only [List.cons.injEq, and_true] at h
  have h1 := congrArg UInt8.toNat h.1
  have h2 := congrArg UInt8.toNat h.2
  rw [UInt8.toNat_ofNat', UInt8.toNat_ofNat'] at h1 h2
  omega
theorem mn_new : Mn (newD 1099511627776) 0 := ⟨rfl, rfl, rfl, rfl, rfl⟩
theorem Mn.create {s : Ds} {x : Nat} (h : Mn s x) (hx : x < 256) : (createD s (nm2 x)).1 = 0 ∧ Mn (createD s (nm2 x)).2 (x + 1) := by
  have hl : s.files.length = x := by have := congrArg List.length h.names; simpa using this
  have hno : findF s (nm2 x) = none := by
    cases e : findF s (nm2 x) with
    | none => rfl
    | some f =>
      obtain ⟨h1, h2⟩ := find_mem e
      have h3 : nm2 x ∈ s.files.map Df.name := List.mem_map.2 ⟨f, h1, h2⟩
      rw [h.names] at h3
      obtain ⟨i, hi, h4⟩ := List.mem_map.1 h3
      have hi' := List.mem_range.1 hi
      have := nm2_inj (by omega) hx h4
      omega
  have hst : stepD s = some { s with steps := s.steps + 1, inn := s.inn } := by
    unfold stepD
    rw [if_neg (by rw [h.set]; rintro ⟨e, _⟩; cases e), h.set]
    rfl
  unfold createD
  rw [if_neg (by rw [h.off]; decide), if_neg (by unfold named nm2; simp), hno, if_neg (by decide), if_neg (by omega)]
  unfold doD
  rw [hst]
  refine ⟨rfl, h.off, h.set, by show s.steps + 1 = _; rw [h.steps], by show s.next + 1 = _; rw [h.next], ?_⟩
  show (s.files ++ [_]).map Df.name = _
  rw [List.map_append, h.names, List.range_succ, List.map_append]
  rfl
theorem Mn.full {s : Ds} (h : Mn s 256) : (createD s [109, 111, 114, 101]).1 = 3 := by
  have hl : s.files.length = 256 := by have := congrArg List.length h.names; simpa using this
  have hno : findF s [109, 111, 114, 101] = none := by
    cases e : findF s [109, 111, 114, 101] with
    | none => rfl
    | some f =>
      obtain ⟨h1, h2⟩ := find_mem e
      have h3 : [109, 111, 114, 101] ∈ s.files.map Df.name := List.mem_map.2 ⟨f, h1, h2⟩
      rw [h.names] at h3
      obtain ⟨i, _, h4⟩ := List.mem_map.1 h3
      have := congrArg List.length h4
      simp [nm2] at this
  unfold createD
  rw [if_neg (by rw [h.off]; decide), if_neg (by decide), hno, if_neg (by decide), if_pos (by omega)]
theorem dp_used {K : Nat → Prop} {w : World} {d : Nat} {s : Ds} (h : Dp K w d s) : Calls Try.prog 20 #[.pointer (some ⟨d, 0, none⟩)] w fun e w' => e = .returned (.int .i64 (usedN s : Int)) ∧ Below w.heap.size w w' := by
  obtain ⟨mb, ms, h1, _⟩ := h.ex
  exact used_any w d s mb ms h1 h.qs
theorem dp_steps {K : Nat → Prop} {w : World} {d : Nat} {s : Ds} (h : Dp K w d s) : Calls Try.prog 21 #[.pointer (some ⟨d, 0, none⟩)] w fun e w' => e = .returned (.int .i64 (s.steps : Int)) ∧ w' = w := by
  obtain ⟨mb, ms, h1, _⟩ := h.ex
  exact steps_any w d s mb ms h1
theorem dp_off {K : Nat → Prop} {w : World} {d : Nat} {s : Ds} (h : Dp K w d s) : Calls Try.prog 15 #[.pointer (some ⟨d, 0, none⟩)] w fun e w' => e = .returned (.bool s.off) ∧ w' = w := by
  obtain ⟨mb, ms, h1, _⟩ := h.ex
  exact off_any w d s mb ms h1
theorem dp_names {K : Nat → Prop} {w : World} {d : Nat} {s : Ds} (h : Dp K w d s) : Calls Try.prog 22 #[.pointer (some ⟨d, 0, none⟩)] w fun e w' => ∃ v, e = .returned v ∧ w'.ownsRow w.heap.size 9 1 v (namesD s).length ((namesD s).map St) ∧ Below w.heap.size w w' := by
  obtain ⟨mb, ms, h1, _⟩ := h.ex
  exact names_any w d s mb ms h1
/-- bytes made and written -/
theorem kb_write {K : Nat → Prop} {W w1 : World} {d : Nat} {s : Ds} (h : Dp K W d s) (hs : Sm 1 s) (n : Bs) (hn : n.length ≤ 100) (p : Int) (hp : -9223372036854775808 ≤ p ∧ p < 9223372036854775808) (m : Nat) (hm : m ≤ 1000) (c : UInt8) (hB : Below W.heap.size W w1) (hb : w1.heap[W.heap.size]? = some (.cells (bcs (List.replicate m c)).toArray 5 (0, 0))) :
    Calls Try.prog 12 #[.pointer (some ⟨d, 0, none⟩), St n, .int .i64 p, .slice (some ⟨W.heap.size, 0, none⟩) m m] w1 fun e w' => e = .returned (.int .i64 ((writeD s n p (List.replicate m c)).1 : Int)) ∧ Dp K w' d (writeD s n p (List.replicate m c)).2 ∧ Kw K W w' := by
  have h1 := (h.grow hB).less (K' := fun g => K g ∨ g = W.heap.size) (fun g hg => by
    rcases hg with hg | hg
    · exact .inl hg
    · exact .inr ⟨by omega, by rw [hg]; exact lt_of_block hb⟩)
  have hbo : Bo w1 (.slice (some ⟨W.heap.size, 0, none⟩) m m) (List.replicate m c) := by
    have := (brOf hb).bo
    rw [List.length_replicate] at this
    exact this
  refine (dp_write h1 n (by omega) hs p hp _ _ hbo (fun g hg => by cases hg; exact .inr rfl) (by rw [List.length_replicate]; omega)).mono ?_
  rintro e w' ⟨he, a1, a2⟩
  exact ⟨he, a1.less (fun g hg => .inl hg), (below_kw hB (fun g hg => h.lt hg)).trans (a2.less (fun g hg => .inl hg))⟩
end Go.Proofs.Ytojnembakhhgiaa
