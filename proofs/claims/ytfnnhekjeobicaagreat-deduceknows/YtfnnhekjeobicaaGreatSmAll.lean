import Derived.Test.YtfnnhekjeobicaaGreatMindL
/- Whether terms are few and short. -/
namespace Go.Proofs.YtfnnhekjeobicaaGreat
open Go.RowKit

def lens (l : List Bs) : Nat := (l.map List.length).sum
theorem lens_step (l : List Bs) (i : Nat) (h : i < l.length) : lens (l.take (i + 1)) = lens (l.take i) + l[i].length := by
  unfold lens
  rw [List.take_succ_eq_append_getElem h, List.map_append, List.sum_append]
  simp only [List.map_cons, List.map_nil, List.sum_cons, List.sum_nil, Nat.add_zero]

set_option maxRecDepth 100000 in
set_option maxHeartbeats 2000000 in
theorem small_many (w : World) (ao : Option Addr) (cap : Nat) (l : List Bs) (hk : Texts w (.slice ao l.length cap) l) (hl : 40 < l.length) (hm : l.length ≤ maxLen) :
    Calls Tryz.prog 5 #[.slice ao l.length cap] w fun e w' => e = .returned (.bool false) ∧ w' = w := by
  obtain ⟨ao', cap', he, ht⟩ := hk
  cases he
  obtain ⟨g, o, rfl, hg, hc⟩ := ht (fun e => by rw [e] at hl; simp at hl)
  have HC := hid hc
  obtain ⟨N, hN⟩ : ∃ N, N = l.length := ⟨_, rfl⟩
  rw [← hN] at hl hm ⊢
  have HN := hid hN
  unfold maxLen at hm
  have hn1 : ¬ (N : Int) ≤ 40 := by omega
  have HN1 := hid hn1
  have HM := hid hm
  clear hN hc hm hl
  go_enter Tryz.func5, Tryz.ntmps5
  go_wp2_with fail
  go_loopg [3, 4] N (fun gg v3 v4 wr => ∃ (i : Nat) (x : Int), i ≤ N ∧ gg = N - i ∧ v3 = .int .i64 x ∧ v4 = .int .i64 (i : Int) ∧ wr = w)
  case atStart => exact ⟨0, _, by omega, rfl, rfl, rfl, rfl⟩
  case round =>
    obtain ⟨i, x, hi, rfl, rfl, rfl, rfl⟩ := hrel
    by_cases hil : i < N
    · have hi1 : (i : Int) < (N : Int) := by omega
      have HIL := hid hil
      have hiw : IntKind.i64.wrap ((i : Int) + 1) = (i : Int) + 1 := by have := HM.out; rw [IntKind.wrap_i64]; omega
      have hce := HC.out i (by rw [← HN.out]; exact hil)
      generalize l[i]'(by rw [← HN.out]; exact hil) = k at hce
      have hks : (⟨k.toArray⟩ : ByteArray).size = k.length := st_size k
      clear hi hil
      go_wp2_with fail
      go_roundg (N - (i + 1))
      case measure => have := HIL.out; omega
      case rel => exact ⟨i + 1, _, HIL.out, rfl, rfl, rfl, rfl⟩
    · have hi1 : ¬ (i : Int) < (N : Int) := by omega
      clear hi hil
      by_cases hx : x ≤ 700
      all_goals
        go_wp2_with fail
        go_ret
        exact ⟨by first | rfl | (show Ending.returned (.bool (decide ((N : Int) ≤ 40))) = _; rw [decide_eq_false (by have := HN1.out; omega)]), rfl⟩

set_option maxRecDepth 100000 in
set_option maxHeartbeats 2000000 in
theorem small_few (w : World) (ao : Option Addr) (cap : Nat) (l : List Bs) (hk : Texts w (.slice ao l.length cap) l) (hl : l.length ≤ 40) (hs : ∀ i (h : i < l.length), l[i].length ≤ 140737488355328) :
    Calls Tryz.prog 5 #[.slice ao l.length cap] w fun e w' => e = .returned (.bool (decide (lens l ≤ 700))) ∧ w' = w := by
  obtain ⟨ao', cap', he, ht⟩ := hk
  cases he
  have HC : Hid (∀ i (h : i < l.length), ∃ g o, ao = some ⟨g, o, none⟩ ∧ w.cell? ⟨g, o + i, none⟩ = some (St l[i])) := hid (fun i h => by
    obtain ⟨g, o, e, _, hc⟩ := ht (fun e => by rw [e] at h; simp at h)
    exact ⟨g, o, e, hc i h⟩)
  obtain ⟨N, hN⟩ : ∃ N, N = l.length := ⟨_, rfl⟩
  rw [← hN] at hl ⊢
  have HN := hid hN
  have HS := hid hs
  have hn1 : (N : Int) ≤ 40 := by omega
  have HM := hid hl
  clear hN hl ht hs
  go_enter Tryz.func5, Tryz.ntmps5
  go_wp2_with fail
  go_loopg [3, 4] N (fun gg v3 v4 wr => ∃ (i : Nat) (x : Nat), i ≤ N ∧ gg = N - i ∧ v3 = .int .i64 (x : Int) ∧ v4 = .int .i64 (i : Int) ∧ x = lens (l.take i) ∧ x ≤ i * 140737488355328 ∧ wr = w)
  case atStart => exact ⟨0, 0, by omega, rfl, rfl, rfl, rfl, by omega, rfl⟩
  case round =>
    obtain ⟨i, x, hi, rfl, rfl, rfl, hx, hxb, rfl⟩ := hrel
    have HX := hid hx
    have HXB := hid hxb
    by_cases hil : i < N
    · have hi1 : (i : Int) < (N : Int) := by omega
      have HIL := hid hil
      have hiw : IntKind.i64.wrap ((i : Int) + 1) = (i : Int) + 1 := by have := HM.out; rw [IntKind.wrap_i64]; omega
      have hlt : i < l.length := by rw [← HN.out]; exact hil
      obtain ⟨g, o, hao, hce⟩ := HC.out i hlt
      have HLS := hid (lens_step l i hlt)
      have HSI := hid (HS.out i hlt)
      generalize l[i] = k at hce HLS HSI
      subst hao
      have hks : (⟨k.toArray⟩ : ByteArray).size = k.length := st_size k
      have hw : IntKind.i64.wrap ((x : Int) + (k.length : Int)) = (x : Int) + (k.length : Int) := by
        have h1 := HSI.out; have h2 := HXB.out; have h3 := HM.out; have h4 := HIL.out; rw [IntKind.wrap_i64]; omega
      have HXN : Hid (x + k.length = lens (l.take (i + 1)) ∧ x + k.length ≤ (i + 1) * 140737488355328) := by
        apply hid; have h1 := HSI.out; have h2 := HXB.out; have h3 := HLS.out; have h4 := HX.out; omega
      clear hi hil hx hxb
      go_wp2_with fail
      go_roundg (N - (i + 1))
      case measure => have := HIL.out; omega
      case rel => exact ⟨i + 1, x + k.length, HIL.out, rfl, by go_num, by go_num, HXN.out.1, HXN.out.2, rfl⟩
    · have hi1 : ¬ (i : Int) < (N : Int) := by omega
      have HE : Hid (lens l = x) := by apply hid; rw [HX.out, List.take_of_length_le]; rw [← HN.out]; omega
      clear hi hil hx hxb
      by_cases hx : (x : Int) ≤ 700
      · have HD : Hid (decide (x ≤ 700) = true) := by apply hid; simp; omega
        go_wp2_with fail
        go_ret
        exact ⟨by rw [HE.out, HD.out]; first | rfl | (show Ending.returned (.bool (decide ((N : Int) ≤ 40))) = _; rw [decide_eq_true (by have := HM.out; omega)]), rfl⟩
      · have HD : Hid (decide (x ≤ 700) = false) := by apply hid; simp; omega
        go_wp2_with fail
        go_ret
        exact ⟨by rw [HE.out, HD.out]; rfl, rfl⟩
end Go.Proofs.YtfnnhekjeobicaaGreat

/- The law DeduceFresh. -/
namespace Go.Proofs.YtfnnhekjeobicaaGreat
open Go.RowKit Go.Maps Go.WideElems

def smallB (l : List Bs) : Bool := decide (l.length ≤ 40) && decide (lens l ≤ 700)
theorem small_any (w : World) (ao : Option Addr) (cap : Nat) (l : List Bs) (hk : Texts w (.slice ao l.length cap) l) (hm : l.length ≤ maxLen) (hs : ∀ i (h : i < l.length), l[i].length ≤ 140737488355328) :
    Calls Tryz.prog 5 #[.slice ao l.length cap] w fun e w' => e = .returned (.bool (smallB l)) ∧ w' = w := by
  unfold smallB
  by_cases h : l.length ≤ 40
  · rw [decide_eq_true h, Bool.true_and]; exact small_few w ao cap l hk h hs
  · rw [decide_eq_false h, Bool.false_and]; exact small_many w ao cap l hk (by omega) hm
theorem lens_mem {l : List Bs} {t : Bs} (h : t ∈ l) : t.length ≤ lens l := by
  unfold lens
  induction l with
  | nil => cases h
  | cons a l ih =>
    simp only [List.map_cons, List.sum_cons]
    rcases List.mem_cons.1 h with e | e
    · subst e; omega
    · have := ih e; omega
theorem lens_rights (l : List Bs) : lens (rights l) ≤ lens l := by
  unfold lens rights
  induction l with
  | nil => simp
  | cons a l ih =>
    rw [List.filter_cons]
    split <;> simp only [List.map_cons, List.sum_cons] <;> omega
theorem smallB_of {l : List Bs} (h : smallB l = true) : l.length ≤ 40 ∧ lens l ≤ 700 := by
  unfold smallB at h
  simpa using h
end Go.Proofs.YtfnnhekjeobicaaGreat

/- The law DeduceMore. -/
namespace Go.Proofs.YtfnnhekjeobicaaGreat
open Go.RowKit Go.Maps Go.WideElems

/-- what may be noted where three lists are heard -/
theorem uni_three (l more ask : List Bs) (h1 : lens l ≤ 700) (h2 : lens more ≤ 700) (h3 : lens ask ≤ 700) : ∃ U, Uni U ∧ (∀ t ∈ l, Tm.deep t ≠ 0 → t ∈ U) ∧ (∀ t ∈ more, Tm.deep t ≠ 0 → t ∈ U) ∧ (∀ t ∈ ask, Tm.deep t ≠ 0 → t ∈ U) := by
  have hR : ∀ t ∈ rights l ++ rights more ++ rights ask, Tm.deep t ≠ 0 := fun t ht => by
    have : ∀ k : List Bs, t ∈ rights k → Tm.deep t ≠ 0 := fun k hk => by
      have := (List.mem_filter.1 hk).2
      simpa using this
    simp only [List.mem_append] at ht
    rcases ht with (ht | ht) | ht
    · exact this _ ht
    · exact this _ ht
    · exact this _ ht
  obtain ⟨hU, hlU⟩ := uni_of hR (by
    have a1 := lens_rights l
    have a2 := lens_rights more
    have a3 := lens_rights ask
    unfold lens at a1 a2 a3 h1 h2 h3
    rw [List.map_append, List.map_append, List.sum_append, List.sum_append]
    omega)
  refine ⟨_, hU, fun t ht hd => hlU t ?_, fun t ht hd => hlU t ?_, fun t ht hd => hlU t ?_⟩
  · simp only [List.mem_append]; exact Or.inl (Or.inl (List.mem_filter.2 ⟨ht, by simpa using hd⟩))
  · simp only [List.mem_append]; exact Or.inl (Or.inr (List.mem_filter.2 ⟨ht, by simpa using hd⟩))
  · simp only [List.mem_append]; exact Or.inr (List.mem_filter.2 ⟨ht, by simpa using hd⟩)
end Go.Proofs.YtfnnhekjeobicaaGreat
