import Derived.Test.YtdhmmllpioppfaaGreatVRec
/- Unknown. -/
namespace Go.Proofs.YtdhmmllpioppfaaGreat.V
open Go.RowKit

theorem below_both {w0 w1 w2 : World} (h1 : Below w0.heap.size w0 w1) (h2 : Below w1.heap.size w1 w2) : Below w0.heap.size w0 w2 := h1.trans (h2.mono h1.size)
theorem any_take {L : List Rec} {p : Rec → Bool} {i : Nat} (h : ∀ j (hj : j < L.length), j < i → p L[j] = false) (hi : L.length ≤ i) : L.any p = false := by
  rw [List.any_eq_false]
  intro x hx
  obtain ⟨j, hj, rfl⟩ := List.getElem_of_mem hx
  simp [h j hj (by omega)]

set_option maxRecDepth 100000 in
set_option maxHeartbeats 4000000 in
theorem unknown_of (w : World) (v kv : Value) (L : List Rec) (has : Nat → Bool) (hL : Rcs w v L) (hm : L.length ≤ 140737488355328) (ht : ∀ i (h : i < L.length), L[i].1 < 18446744073709551616)
    (H : Calls Tryz.prog 66 #[kv] w fun e w1 => ∃ ak nk ck, e = .returned (.slice ak nk ck) ∧ Below w.heap.size w w1 ∧ Calls Tryz.prog 67 #[.slice ak nk ck] w1 fun e w2 => e = .returned (.tuple #[]) ∧ Below w.heap.size w w2 ∧ ∀ W (t : Nat), Below w2.heap.size w2 W → Calls Tryz.prog 68 #[.slice ak nk ck, .int .u64 (t : Int)] W fun e w' => ∃ i : Int, e = .returned (.tuple #[.int .i64 i, .bool (has t)]) ∧ Below W.heap.size W w') :
    Calls Tryz.prog 51 #[v, kv] w fun e w' => e = .returned (.bool (L.any fun r => r.1 % 2 == 0 && !has r.1)) ∧ Below w.heap.size w w' := by
  obtain ⟨al, cl, rfl⟩ := hL.shape
  have HL := hid hL
  have HT := hid ht
  obtain ⟨n, hn⟩ : ∃ n, n = L.length := ⟨_, rfl⟩
  rw [← hn] at hm ⊢
  have HN := hid hn
  have HH := hid H
  obtain ⟨A, hA⟩ : ∃ A, A = L.any fun r => r.1 % 2 == 0 && !has r.1 := ⟨_, rfl⟩
  rw [← hA]
  have HA := hid hA
  clear hL hn H hA ht
  go_enter Tryz.func51, Tryz.ntmps51
  go_wp2_with fail
  refine HH.out.mono ?_
  rintro e w1 ⟨ak, nk, ck, rfl, hb1, h2⟩
  have H2 := hid h2
  clear hb1 h2 HH
  go_wp2_with fail
  refine H2.out.mono ?_
  rintro e w2 ⟨rfl, hb2, h3⟩
  have H3 := hid h3
  have HB2 := hid hb2
  clear hb2 h3 H2
  go_wp2_with fail
  go_loopg [6, 7, 8, 15] n (fun gg v6 v7 v8 v15 wr => ∃ i : Nat, i ≤ n ∧ gg = n - i ∧ v15 = .int .i64 (i : Int) ∧ Below w2.heap.size w2 wr ∧ ∀ j (h : j < L.length), j < i → (L[j].1 % 2 == 0 && !has L[j].1) = false)
  case atStart => exact ⟨0, by omega, by omega, rfl, Below.refl _ _, fun j h hj => by omega⟩
  case round =>
    obtain ⟨i, hi, rfl, rfl, hbel, hall⟩ := hrel
    have HBE := hid hbel
    have HALL := hid hall
    clear hall
    by_cases hil : i < n
    · have hi1 : (i : Int) < (n : Int) := by omega
      have hiL : i < L.length := by rw [← HN.out]; exact hil
      have hbw : Below w.heap.size w wr := HB2.out.trans (hbel.mono HB2.out.size)
      obtain ⟨g, o, rfl, hg, _, hcap, hc⟩ := (HL.out.below hbw).at (fun e => by rw [e] at hiL; simp at hiL)
      rw [← HN.out] at hcap
      obtain ⟨bv, h1, h2, h3⟩ := hc i hiL
      obtain ⟨ab, cb, hbv⟩ := h3.shape
      subst hbv
      have HTI := hid (HT.out i hiL)
      have HNO : Hid ((L[i].1 % 2 == 0 && !has L[i].1) = false → ∀ j (h : j < L.length), j < i + 1 → (L[j].1 % 2 == 0 && !has L[j].1) = false) := hid (fun hx j h hj => by
        by_cases e : j = i
        · subst e; exact hx
        · exact HALL.out j h (by omega))
      have HYES : Hid ((L[i].1 % 2 == 0 && !has L[i].1) = true → A = true) := hid (fun hx => by
        rw [HA.out, List.any_eq_true]
        exact ⟨L[i], List.getElem_mem hiL, hx⟩)
      generalize L[i].2.length = ml at *
      generalize L[i].1 = t at *
      have HBA := hid (below_both HBE.out ((Below.refl wr.heap.size wr).alloc (Nat.le_refl _) (.cells #[.int .u64 (t : Int), .slice ab ml cb] 43)))
      have HC0 := hid (heap_alloc_new wr (.cells #[.int .u64 (t : Int), .slice ab ml cb] 43))
      clear hc h3 hbel hbw
      go_wp2_with fail
      refine (H3.out _ t HBA.out).mono ?_
      rintro e w3 ⟨ix, rfl, hb3⟩
      have hc3 : w3.heap[wr.heap.size]? = some (.cells #[.int .u64 (t : Int), .slice ab ml cb] 43 (0, 0)) := (hb3.block _ (by simp)).trans HC0.out
      have hd3 : w3.cell? ⟨wr.heap.size, 0, none⟩ = some (.int .u64 (t : Int)) := by rw [cell_of_heap hc3]; rfl
      have HB3 := hid (below_both HBA.out hb3)
      clear hb3 hc3 HBA HC0 h1 h2
      have ht64 := HTI.out
      by_cases hev : t % 2 = 0
      · have he1 : (t : Int) % 2 = 0 := by omega
        cases hh : has t with
        | true =>
          have HNN := hid (HNO.out (by simp [hh]))
          go_wp2_with fail
          go_roundg (n - (i + 1))
          case measure => omega
          case rel => exact ⟨i + 1, by omega, rfl, by go_num, HB3.out, HNN.out⟩
        | false =>
          have HYY := hid (HYES.out (by simp [hh, hev]))
          go_wp2_with fail
          go_ret
          exact ⟨by rw [HYY.out]; rfl, HB2.out.trans (HB3.out.mono HB2.out.size)⟩
      · have he1 : ¬ (t : Int) % 2 = 0 := by omega
        have he2 : (((t : Int) % 2) == 0) = false := by simpa using he1
        have HNN := hid (HNO.out (by simp [hev]))
        go_wp2_with fail
        go_roundg (n - (i + 1))
        case measure => omega
        case rel => exact ⟨i + 1, by omega, rfl, by go_num, HB3.out, HNN.out⟩
    · have hi1 : ¬ (i : Int) < (n : Int) := by omega
      go_wp2_with fail
      go_ret
      exact ⟨by rw [HA.out, any_take HALL.out (by rw [← HN.out]; omega)]; rfl, HB2.out.trans (HBE.out.mono HB2.out.size)⟩

theorem nil_yes41 (W : World) : (binOp BinOp.eql 104 (.slice none 0 0) (.slice none 0 0)).run Tryz.prog W = .ok (.bool true) W := by kernel_rfl
theorem nil_no41 (W : World) (a : Addr) (m c : Nat) : (binOp BinOp.eql 104 (.slice (some a) m c) (.slice none 0 0)).run Tryz.prog W = .ok (.bool false) W := by kernel_rfl
set_option maxHeartbeats 400000 in
theorem clone_none (w : World) : Calls Tryz.prog 66 #[.slice none 0 0] w fun e w' => e = .returned (.slice none 0 0) ∧ w' = w := by
  have hq := nil_yes41
  go_enter Tryz.func66, Tryz.ntmps66
  go_wp2_with fail
  go_ret
  exact ⟨rfl, rfl⟩
theorem Tryz.info41 : (Tryz.prog.info? 41).map (fun i => (i.zero, i.size, i.bytes)) = some (some (.int .u64 0), 1, 8) := by kernel_rfl
set_option maxHeartbeats 400000 in
set_option maxRecDepth 100000 in
theorem insertion_few (w : World) (a : Option Addr) (n c : Nat) (hn : n ≤ 1) : Calls Tryz.prog 90 #[.slice a n c, .int .i64 0, .int .i64 (n : Int)] w fun e w' => e = .returned (.tuple #[]) ∧ w' = w := by
  have hn1 : ¬ (1 : Int) < (n : Int) := by omega
  clear hn
  go_enter Tryz.func90, Tryz.ntmps90
  go_wp2_with fail
  go_loopg [6, 7] (1 : Nat) (fun gg v6 v7 wr => wr = w ∧ gg = 1 ∧ v6 = .int .i64 1)
  case atStart => exact ⟨rfl, rfl, rfl⟩
  case round =>
    obtain ⟨hwr, rfl, rfl⟩ := hrel
    subst hwr
    go_wp2_with fail
    refine bodyPost_end (results_none rfl _ _ _) rfl ?_
    exact ⟨rfl, rfl⟩
set_option maxHeartbeats 1000000 in
set_option maxRecDepth 100000 in
theorem pdq_few (w : World) (a : Option Addr) (n c : Nat) (l : Int) (hn : n ≤ 1) : Calls Tryz.prog 81 #[.slice a n c, .int .i64 0, .int .i64 (n : Int), .int .i64 l] w fun e w' => e = .returned (.tuple #[]) ∧ w' = w := by
  have HI := hid (insertion_few w a n c hn)
  have hn1 : (n : Int) ≤ 12 := by omega
  have hw : IntKind.i64.wrap ((n : Int) - 0) = (n : Int) := by rw [IntKind.wrap_i64]; omega
  go_enter Tryz.func81, Tryz.ntmps81
  go_wp2_with fail
  go_loopg [1, 2, 3, 8, 9, 10] (1 : Nat) (fun gg v1 v2 v3 v8 v9 v10 wr => wr = w ∧ gg = 1 ∧ v1 = .int .i64 0 ∧ v2 = .int .i64 (n : Int))
  case atStart => exact ⟨rfl, rfl, rfl, rfl⟩
  case round =>
    obtain ⟨hwr, rfl, rfl, rfl⟩ := hrel
    subst hwr
    go_wp2_with fail
    refine HI.out.mono ?_
    rintro e w1 ⟨rfl, hw1⟩
    subst hw1
    go_wp2_with fail
    refine bodyPost_ret (results_none rfl _ _ _) rfl ?_
    exact ⟨rfl, rfl⟩
set_option maxHeartbeats 1000000 in
set_option maxRecDepth 100000 in
theorem len_few (w : World) (n : Nat) (hn : n ≤ 1) : Calls Tryz.prog 82 #[.int .u64 (n : Int)] w fun e w' => (∃ l : Int, e = .returned (.int .i64 l)) ∧ w' = w := by
  have h : n = 0 ∨ n = 1 := by omega
  rcases h with rfl | rfl
  all_goals
    go_enter Tryz.func82, Tryz.ntmps82
    go_wp2
    go_ret
    exact ⟨⟨_, rfl⟩, rfl⟩
set_option maxHeartbeats 1000000 in
set_option maxRecDepth 100000 in
theorem sort_few (w : World) (a : Option Addr) (n c : Nat) (hn : n ≤ 1) : Calls Tryz.prog 67 #[.slice a n c] w fun e w' => e = .returned (.tuple #[]) ∧ w' = w := by
  have HLN := hid (len_few w n hn)
  have HPD := hid (fun l => pdq_few w a n c l hn)
  have hw : IntKind.u64.wrap (n : Int) = (n : Int) := by rw [IntKind.wrap_u64]; omega
  go_enter Tryz.func67, Tryz.ntmps67
  go_wp2_with fail
  refine HLN.out.mono ?_
  rintro e w1 ⟨⟨l, rfl⟩, hw1⟩
  subst hw1
  go_wp2_with fail
  refine (HPD.out l).mono ?_
  rintro e w1' ⟨rfl, hw1⟩
  subst hw1
  go_wp2_with fail
  refine bodyPost_end (results_none rfl _ _ _) rfl ?_
  exact ⟨rfl, rfl⟩
set_option maxHeartbeats 1000000 in
set_option maxRecDepth 100000 in
theorem clone_one (w : World) (g o c k : Nat) (hc : w.cell? ⟨g, o, none⟩ = some (.int .u64 (k : Int))) : Calls Tryz.prog 66 #[.slice (some ⟨g, o, none⟩) 1 c] w fun e w' => ∃ g1 c1, e = .returned (.slice (some ⟨g1, 0, none⟩) 1 c1) ∧ g1 < w'.heap.size ∧ w'.cell? ⟨g1, 0, none⟩ = some (.int .u64 (k : Int)) ∧ Below w.heap.size w w' := by
  obtain ⟨i0, hi, hz0, hz1, hz2⟩ := info_get Tryz.info41
  have hown : (w.alloc (.cells #[] 41)).ownsRow w.heap.size 41 1 (.slice (some ⟨w.heap.size, 0, none⟩) 0 0) 0 [] := World.ownsRow_made w #[] 0 (Nat.le_refl _) (by unfold maxLen; omega) rfl
  have hb1 := (Below.refl w.heap.size w).alloc (Nat.le_refl _) (.cells #[] 41)
  have hgl : g < w.heap.size := by
    apply Classical.byContradiction
    intro hn
    unfold World.cell? at hc
    rw [Array.getElem?_eq_none (by show w.heap.size ≤ g; omega)] at hc
    cases hc
  obtain ⟨v', w', h4, h5, h6, _⟩ := run_append_own (P := Tryz.prog) (w.alloc (.cells #[] 41)) w.heap.size 104 104 41 i0 _ 1 8 Tryz.underlying104 hi hz0 hz1 hz2 rfl (by decide) _ 0 [] hown ⟨g, o, none⟩ 1 c [.int .u64 (k : Int)] rfl
    (fun j u hj => by
      have hj0 : j = 0 := by
        apply Classical.byContradiction
        intro hn
        rw [List.getElem?_eq_none (by simp; omega)] at hj
        cases hj
      subst hj0
      cases hj
      rw [add_plain, Nat.add_zero, ← hc]
      exact World.cell?_of_block (hb1.block g hgl))
    (fun u hu => by simp at hu; subst hu; rfl) (by unfold maxLen; omega) (by omega) hb1.size
  obtain ⟨g1, c1, hv', hg1, hcell⟩ : ∃ g1 c1, v' = .slice (some ⟨g1, 0, none⟩) 1 c1 ∧ g1 < w'.heap.size ∧ w'.cell? ⟨g1, 0, none⟩ = some (.int .u64 (k : Int)) := by
    have h5' := h5
    rcases h5.2 with ⟨_, e⟩ | ⟨g1, c1, cur, e1, e2, e3, _⟩
    · omega
    · refine ⟨g1, c1, by simpa using e1, lt_of_block e3, ?_⟩
      have := h5'.cells (g := g1) (by rw [e1]; rfl) 0 (.int .u64 (k : Int)) rfl
      simpa [Addr.add] using this
  subst hv'
  have HRUN : Hid (∀ ty, (Builtin.append_ #[104, 104] ty #[.slice (some ⟨w.heap.size, 0, none⟩) 0 0, .slice (some ⟨g, o, none⟩) 1 c]).run Tryz.prog (w.alloc (.cells #[] 41)) = .ok (.slice (some ⟨g1, 0, none⟩) 1 c1) w') := hid (fun ty => h4)
  have HB := hid (hb1.grown h6 hb1.size (fun k h => by cases h; exact Nat.le_refl _))
  have HG := hid hg1
  have HC := hid hcell
  have hq := fun W => nil_no41 W ⟨g, o, none⟩ 1 c
  clear h4 h5 h6 hown hb1 hg1 hcell hi hz0 hz1 hz2 i0
  go_enter Tryz.func66, Tryz.ntmps66
  go_wp2_with (first | (at_builtin; refine wpList_append_run rfl _ _ 104 rfl _ _ (.slice (some ⟨g1, 0, none⟩) 1 c1) w' rfl rfl HRUN.out ?_) | fail)
  go_ret
  exact ⟨g1, c1, rfl, HG.out, HC.out, HB.out⟩
set_option maxHeartbeats 1000000 in
set_option maxRecDepth 100000 in
theorem bin_none (w : World) (t : Nat) : Calls Tryz.prog 68 #[.slice none 0 0, .int .u64 (t : Int)] w fun e w' => e = .returned (.tuple #[.int .i64 0, .bool false]) ∧ w' = w := by
  go_enter Tryz.func68, Tryz.ntmps68
  go_wp2_with fail
  go_loopg [7, 8, 9] (1 : Nat) (fun gg v7 v8 v9 wr => wr = w ∧ gg = 1 ∧ v7 = .int .i64 0 ∧ v8 = .int .i64 0)
  case atStart => exact ⟨rfl, rfl, rfl, rfl⟩
  case round =>
    obtain ⟨hwr, rfl, rfl, rfl⟩ := hrel
    subst hwr
    go_wp2
    go_ret2
    exact ⟨rfl, rfl⟩
set_option maxHeartbeats 1000000 in
set_option maxRecDepth 100000 in
theorem less_any (a b : Nat) (w : World) : Calls Tryz.prog 83 #[.int .u64 (a : Int), .int .u64 (b : Int)] w fun e w' => e = .returned (.bool (decide (a < b))) ∧ w' = w := by
  by_cases h : a < b
  · rw [decide_eq_true h]
    have h1 : (a : Int) < (b : Int) := by omega
    go_enter Tryz.func83, Tryz.ntmps83
    go_wp2
    go_ret
    exact ⟨rfl, rfl⟩
  · rw [decide_eq_false h]
    have h1 : ¬ (a : Int) < (b : Int) := by omega
    go_enter Tryz.func83, Tryz.ntmps83
    go_wp2
    go_ret
    exact ⟨rfl, rfl⟩
end Go.Proofs.YtdhmmllpioppfaaGreat.V

/- Unknown, of none or one known. -/
namespace Go.Proofs.YtdhmmllpioppfaaGreat.V
open Go.RowKit

set_option maxHeartbeats 2000000 in
set_option maxRecDepth 100000 in
theorem bin_one (w : World) (g c k t : Nat) (hc : w.cell? ⟨g, 0, none⟩ = some (.int .u64 (k : Int))) : Calls Tryz.prog 68 #[.slice (some ⟨g, 0, none⟩) 1 c, .int .u64 (t : Int)] w fun e w' => (∃ i : Int, e = .returned (.tuple #[.int .i64 i, .bool (k == t)])) ∧ w' = w := by
  have HLS := hid (fun W => less_any k t W)
  rcases Nat.lt_trichotomy k t with h | h | h
  · have hkt : (k == t) = false := by simp; omega
    rw [decide_eq_true h] at HLS
    rw [hkt]
    clear hkt h
    go_enter Tryz.func68, Tryz.ntmps68
    go_wp2_with fail
    go_loopg [7, 8, 9] (2 : Nat) (fun gg v7 v8 v9 wr => wr = w ∧ ∃ i : Nat, i ≤ 1 ∧ gg = 2 - i ∧ v7 = .int .i64 (i : Int) ∧ v8 = .int .i64 1)
    case atStart => exact ⟨rfl, 0, by omega, rfl, rfl, rfl⟩
    case round =>
      obtain ⟨hwr, i, hi, rfl, rfl, rfl⟩ := hrel
      subst hwr
      have hi' : i = 0 ∨ i = 1 := by omega
      clear hi
      rcases hi' with rfl | rfl
      · go_wp2_with fail
        refine (HLS.out _).mono ?_
        rintro e w1 ⟨rfl, hw1⟩
        subst hw1
        go_wp2_with fail
        go_roundg (1 : Nat)
        case measure => omega
        case rel => exact ⟨rfl, 1, by omega, rfl, rfl, rfl⟩
      · go_wp2_with fail
        go_ret2
        exact ⟨⟨_, rfl⟩, rfl⟩
  · subst h
    have hkt : (k == k) = true := by simp
    have hll : ¬ k < k := by omega
    rw [decide_eq_false hll] at HLS
    rw [hkt]
    clear hkt hll
    go_enter Tryz.func68, Tryz.ntmps68
    go_wp2_with fail
    go_loopg [7, 8, 9] (2 : Nat) (fun gg v7 v8 v9 wr => wr = w ∧ ∃ i : Nat, i ≤ 1 ∧ gg = 1 + i ∧ v7 = .int .i64 0 ∧ v8 = .int .i64 (i : Int))
    case atStart => exact ⟨rfl, 1, by omega, rfl, rfl, rfl⟩
    case round =>
      obtain ⟨hwr, i, hi, rfl, rfl, rfl⟩ := hrel
      subst hwr
      have hi' : i = 0 ∨ i = 1 := by omega
      clear hi
      rcases hi' with rfl | rfl
      · go_wp2_with fail
        go_ret2
        exact ⟨⟨_, rfl⟩, rfl⟩
      · go_wp2_with fail
        refine (HLS.out _).mono ?_
        rintro e w1 ⟨rfl, hw1⟩
        subst hw1
        go_wp2_with fail
        go_roundg (1 : Nat)
        case measure => omega
        case rel => exact ⟨rfl, 0, by omega, rfl, rfl, rfl⟩
  · have hkt : (k == t) = false := by simp; omega
    have hkb : ((k : Int) == (t : Int)) = false := by simp; omega
    have hll : ¬ k < t := by omega
    rw [decide_eq_false hll] at HLS
    rw [hkt]
    clear hkt hll h
    go_enter Tryz.func68, Tryz.ntmps68
    go_wp2_with fail
    go_loopg [7, 8, 9] (2 : Nat) (fun gg v7 v8 v9 wr => wr = w ∧ ∃ i : Nat, i ≤ 1 ∧ gg = 1 + i ∧ v7 = .int .i64 0 ∧ v8 = .int .i64 (i : Int))
    case atStart => exact ⟨rfl, 1, by omega, rfl, rfl, rfl⟩
    case round =>
      obtain ⟨hwr, i, hi, rfl, rfl, rfl⟩ := hrel
      subst hwr
      have hi' : i = 0 ∨ i = 1 := by omega
      clear hi
      rcases hi' with rfl | rfl
      · go_wp2
        go_ret2
        exact ⟨⟨_, rfl⟩, rfl⟩
      · go_wp2_with fail
        refine (HLS.out _).mono ?_
        rintro e w1 ⟨rfl, hw1⟩
        subst hw1
        go_wp2_with fail
        go_roundg (1 : Nat)
        case measure => omega
        case rel => exact ⟨rfl, 0, by omega, rfl, rfl, rfl⟩

theorem unknown_none (w : World) (v : Value) (L : List Rec) (hL : Rcs w v L) (hm : L.length ≤ 140737488355328) (ht : ∀ i (h : i < L.length), L[i].1 < 18446744073709551616) :
    Calls Tryz.prog 51 #[v, .slice none 0 0] w fun e w' => e = .returned (.bool (L.any fun r => r.1 % 2 == 0 && !false)) ∧ Below w.heap.size w w' := by
  refine unknown_of w v _ L (fun _ => false) hL hm ht ?_
  refine (clone_none w).mono ?_
  rintro e w1 ⟨rfl, hw1⟩
  subst hw1
  refine ⟨none, 0, 0, rfl, Below.refl _ _, ?_⟩
  refine (sort_few w1 none 0 0 (by omega)).mono ?_
  rintro e w2 ⟨rfl, hw2⟩
  subst hw2
  refine ⟨rfl, Below.refl _ _, fun W t hb => ?_⟩
  refine (bin_none W t).mono ?_
  rintro e w3 ⟨rfl, hw3⟩
  subst hw3
  exact ⟨0, rfl, Below.refl _ _⟩
theorem unknown_one (w : World) (v : Value) (L : List Rec) (g o c k : Nat) (hc : w.cell? ⟨g, o, none⟩ = some (.int .u64 (k : Int))) (hL : Rcs w v L) (hm : L.length ≤ 140737488355328) (ht : ∀ i (h : i < L.length), L[i].1 < 18446744073709551616) :
    Calls Tryz.prog 51 #[v, .slice (some ⟨g, o, none⟩) 1 c] w fun e w' => e = .returned (.bool (L.any fun r => r.1 % 2 == 0 && !(k == r.1))) ∧ Below w.heap.size w w' := by
  refine unknown_of w v _ L (fun t => k == t) hL hm ht ?_
  refine (clone_one w g o c k hc).mono ?_
  rintro e w1 ⟨g1, c1, rfl, hg1, hc1, hb1⟩
  refine ⟨_, 1, c1, rfl, hb1, ?_⟩
  refine (sort_few w1 _ 1 c1 (by omega)).mono ?_
  rintro e w2 ⟨rfl, hw2⟩
  subst hw2
  refine ⟨rfl, hb1, fun W t hb => ?_⟩
  refine (bin_one W g1 c1 k t (by rw [← hc1]; exact World.cell?_of_block (hb.block g1 hg1))).mono ?_
  rintro e w3 ⟨⟨i, rfl⟩, hw3⟩
  subst hw3
  exact ⟨i, rfl, Below.refl _ _⟩
end Go.Proofs.YtdhmmllpioppfaaGreat.V

/- The document's Unknown where nothing is known. -/
namespace Go.Proofs.YtdhmmllpioppfaaGreat.V
open Go.RowKit

set_option maxRecDepth 100000 in
set_option maxHeartbeats 4000000 in
theorem runknown_none (w : World) (v : Value) (L : List Rec) (hL : Rcs w v L) (hm : L.length ≤ 140737488355328) (ht : ∀ i (h : i < L.length), L[i].1 < 18446744073709551616) :
    Calls Tryz.prog 41 #[v, .slice none 0 0] w fun e w' => e = .returned (.bool (L.any fun r => r.1 % 2 == 0)) ∧ Below w.heap.size w w' := by
  obtain ⟨al, cl, rfl⟩ := hL.shape
  have HL := hid hL
  have HT := hid ht
  obtain ⟨n, hn⟩ : ∃ n, n = L.length := ⟨_, rfl⟩
  rw [← hn] at hm ⊢
  have HN := hid hn
  obtain ⟨A, hA⟩ : ∃ A, A = L.any fun r => r.1 % 2 == 0 := ⟨_, rfl⟩
  rw [← hA]
  have HA := hid hA
  clear hL hn hA ht
  go_enter Tryz.func41, Tryz.ntmps41
  go_wp2_with fail
  go_loopg [5, 6, 7] n (fun gg v5 v6 v7 wr => ∃ i : Nat, i ≤ n ∧ gg = n - i ∧ v5 = .int .i64 (i : Int) ∧ Below w.heap.size w wr ∧ ∀ j (h : j < L.length), j < i → (L[j].1 % 2 == 0 && !false) = false)
  case atStart => exact ⟨0, by omega, by omega, rfl, Below.refl _ _, fun j h hj => by omega⟩
  case round =>
    obtain ⟨i, hi, rfl, rfl, hbel, hall⟩ := hrel
    have HBE := hid hbel
    have HALL := hid hall
    clear hall
    by_cases hil : i < n
    · have hi1 : (i : Int) < (n : Int) := by omega
      have hiL : i < L.length := by rw [← HN.out]; exact hil
      obtain ⟨g, o, rfl, hg, _, hcap, hc⟩ := (HL.out.below hbel).at (fun e => by rw [e] at hiL; simp at hiL)
      rw [← HN.out] at hcap
      obtain ⟨bv, h1, h2, h3⟩ := hc i hiL
      have HTI := hid (HT.out i hiL)
      have HNO : Hid ((L[i].1 % 2 == 0) = false → ∀ j (h : j < L.length), j < i + 1 → (L[j].1 % 2 == 0 && !false) = false) := hid (fun hx j h hj => by
        by_cases e : j = i
        · subst e; rw [hx]; rfl
        · exact HALL.out j h (by omega))
      have HYES : Hid ((L[i].1 % 2 == 0) = true → A = true) := hid (fun hx => by
        rw [HA.out, List.any_eq_true]
        exact ⟨L[i], List.getElem_mem hiL, hx⟩)
      generalize L[i].1 = t at *
      clear hc h3 h2 hbel
      have ht64 := HTI.out
      obtain ⟨w1, rfl⟩ : ∃ w1, w1 = wr := ⟨_, rfl⟩
      by_cases hev : t % 2 = 0
      · have he1 : (t : Int) % 2 = 0 := by omega
        have he2 : (((t : Int) % 2) == 1) = false := by rw [he1]; rfl
        have HYY := hid (HYES.out (by simp [hev]))
        go_wp2_with fail
        go_loopg [6, 7] 0 (fun gg v6 v7 wr => gg = 0 ∧ v6 = .bool false ∧ v7 = .int .i64 0 ∧ wr = w1)
        case atStart => exact ⟨rfl, rfl, rfl, rfl⟩
        case round =>
          obtain ⟨rfl, rfl, rfl, rfl⟩ := hrel
          go_wp2_with fail
          go_ret
          exact ⟨by rw [HYY.out]; rfl, HBE.out⟩
      · have he1 : (t : Int) % 2 = 1 := by omega
        have HNN := hid (HNO.out (by simp [hev]))
        go_wp2_with fail
        go_loopg [6, 7] 0 (fun gg v6 v7 wr => gg = 0 ∧ v6 = .bool true ∧ v7 = .int .i64 0 ∧ wr = w1)
        case atStart => exact ⟨rfl, rfl, rfl, rfl⟩
        case round =>
          obtain ⟨rfl, rfl, rfl, rfl⟩ := hrel
          go_wp2_with fail
          go_roundg (n - (i + 1))
          case measure => omega
          case rel => exact ⟨i + 1, by omega, rfl, by go_num, HBE.out, HNN.out⟩
    · have hi1 : ¬ (i : Int) < (n : Int) := by omega
      go_wp2_with fail
      go_ret
      have h9 := any_take (p := fun r => r.1 % 2 == 0 && !false) HALL.out (by rw [← HN.out]; omega)
      have h8 : A = false := by rw [HA.out]; simpa using h9
      exact ⟨by rw [h8]; rfl, HBE.out⟩
end Go.Proofs.YtdhmmllpioppfaaGreat.V
