/- Small calls of the laws: a number brought within bounds, whether a witness is large. -/
import Derived.Test.YtdllpklecdmghaaDoorKaAll
namespace Go.Proofs.YtdllpklecdmghaaDoor
open Go.RowKit
open Lk (Lt Sp)

theorem tmod_pick {i n : Int} (hn : 0 < n) : (i.tmod n + n).tmod n = i % n := by
  have h1 := Int.emod_nonneg i (show n ≠ 0 by omega)
  have h2 := Int.emod_lt_of_pos i hn
  have h3 : i.tmod n = i % n ∨ i.tmod n + n = i % n := by
    rw [Int.tmod_eq_emod]
    split
    · left; omega
    · right
      have : (n.natAbs : Int) = n := by omega
      omega
  rcases h3 with h3 | h3
  · rw [h3, Int.tmod_eq_emod_of_nonneg (by omega), Int.add_emod_right, Int.emod_emod]
  · rw [h3, Int.tmod_eq_emod_of_nonneg h1, Int.emod_emod]
theorem tmod_lt {i n : Int} (hn : 0 < n) : -n < i.tmod n ∧ i.tmod n < n := by
  have h1 := Int.emod_nonneg i (show n ≠ 0 by omega)
  have h2 := Int.emod_lt_of_pos i hn
  rw [Int.tmod_eq_emod]
  split
  · omega
  · have : (n.natAbs : Int) = n := by omega
    omega
set_option maxHeartbeats 4000000 in
theorem pick_any (i n : Int) (w : World) (hn : 0 < n ∧ n ≤ 1000000) : Calls Tryd.prog 26 #[.int .i64 i, .int .i64 n] w fun e w' => e = .returned (.int .i64 (i % n)) ∧ w' = w := by
  have h1 := tmod_lt (i := i) hn.1
  have h2 := tmod_pick (i := i) hn.1
  have h3 := Int.emod_nonneg i (show n ≠ 0 by omega)
  have h4 := Int.emod_lt_of_pos i hn.1
  obtain ⟨r, hr⟩ : ∃ r, r = i % n := ⟨_, rfl⟩
  rw [← hr] at h2 h3 h4 ⊢
  obtain ⟨t, ht⟩ : ∃ t, t = i.tmod n := ⟨_, rfl⟩
  rw [← ht] at h1 h2
  have e0 : i.tmod n = t := ht.symm
  have e1 : IntKind.i64.wrap t = t := by rw [IntKind.wrap_i64]; omega
  have e2 : IntKind.i64.wrap (t + n) = t + n := by rw [IntKind.wrap_i64]; omega
  have e3 : IntKind.i64.wrap r = r := by rw [IntKind.wrap_i64]; omega
  have hp : ¬ n ≤ 0 := by omega
  have hz : ¬ n = 0 := by omega
  clear ht hr h1 h3 h4 hn
  go_enter Tryd.func26, Tryd.ntmps26
  go_wp2_with fail
  go_ret
  exact ⟨rfl, rfl⟩
/-- is a witness large? What it says where it is not -/
def Sml (sg pr : List Bs) (msg : Bs) : Prop := sg.length ≤ 20 ∧ pr.length ≤ 20 ∧ msg.length ≤ 5000 ∧ (∀ x ∈ sg, x.length ≤ 5000) ∧ ∀ x ∈ pr, x.length ≤ 5000
/-- how that call ends -/
def LgE (sg pr : List Bs) (msg : Bs) (e : Ending) : Prop := (e = .returned (.bool false) ∧ Sml sg pr msg) ∨ e = .returned (.bool true)
def sumL : List Bs → Nat
  | [] => 0
  | x :: l => x.length + sumL l
theorem sumL_take : ∀ {l : List Bs} {i : Nat} (hi : i < l.length), sumL (l.take (i + 1)) = sumL (l.take i) + l[i].length
  | x :: l, 0, _ => by simp [sumL]
  | x :: l, i + 1, hi => by
    have := sumL_take (l := l) (i := i) (by simpa using hi)
    simp [sumL, this]
    omega
theorem sumL_mem : ∀ {l : List Bs} {x : Bs}, x ∈ l → x.length ≤ sumL l
  | y :: l, x, h => by
    rcases List.mem_cons.1 h with rfl | h
    · simp [sumL]
    · have := sumL_mem h
      simp [sumL]
      omega
theorem sumL_few : ∀ {l : List Bs} {k : Nat}, (∀ x ∈ l, x.length ≤ 140737488355328) → l.length ≤ k → sumL l ≤ k * 140737488355328
  | [], k, _, _ => by simp [sumL]
  | x :: l, k, h, hk => by
    obtain ⟨k, rfl⟩ : ∃ j, k = j + 1 := ⟨k - 1, by simp at hk; omega⟩
    have h1 := sumL_few (l := l) (k := k) (fun y hy => h y (by simp [hy])) (by simpa using hk)
    have h2 := h x (by simp)
    simp [sumL]
    omega
theorem sumL_take_le {l : List Bs} (i : Nat) : sumL (l.take i) ≤ sumL l := by
  induction l generalizing i with
  | nil => simp [sumL]
  | cons x l ih => cases i with
    | zero => simp [sumL]
    | succ i => have := ih i; simp [sumL]; omega
set_option maxHeartbeats 8000000 in
theorem large_any (sg pr : List Bs) (msg : Bs) (sa pa : Option Addr) (sc pc : Nat) (w : World) (hs : Texts w (.slice sa sg.length sc) sg) (hp : Texts w (.slice pa pr.length pc) pr) (l1 : sg.length ≤ 140737488355328) (l2 : pr.length ≤ 140737488355328) (l3 : msg.length ≤ 140737488355328) (l4 : ∀ x ∈ sg, x.length ≤ 140737488355328) (l5 : ∀ x ∈ pr, x.length ≤ 140737488355328) :
    Calls Tryd.prog 25 #[.agg #[.slice sa sg.length sc, .slice pa pr.length pc], St msg] w fun e w' => LgE sg pr msg e ∧ Below w.heap.size w w' := by
  obtain ⟨_, _, hv, hc⟩ := hs
  cases hv
  obtain ⟨_, _, hv, hd⟩ := hp
  cases hv
  obtain ⟨n1, hn1⟩ : ∃ n, n = sg.length := ⟨_, rfl⟩
  obtain ⟨n2, hn2⟩ : ∃ n, n = pr.length := ⟨_, rfl⟩
  rw [← hn1] at l1 ⊢
  rw [← hn2] at l2 ⊢
  obtain ⟨wB, hwB⟩ : ∃ wB, wB = w.alloc (.cells #[.slice sa n1 sc, .slice pa n2 pc] 43) := ⟨_, rfl⟩
  have c0 : wB.cell? ⟨w.heap.size, 0, none⟩ = some (.slice sa n1 sc) := by rw [hwB]; exact (cell_of_heap (heap_alloc_new w _) 0).trans rfl
  have c1 : wB.cell? ⟨w.heap.size, 1, none⟩ = some (.slice pa n2 pc) := by rw [hwB]; exact (cell_of_heap (heap_alloc_new w _) 1).trans rfl
  have HB := hid (show Below w.heap.size w wB from hwB ▸ below_al w _)
  have HN1 := hid hn1
  have HN2 := hid hn2
  have L1 := hid l1
  have L2 := hid l2
  have L3 := hid l3
  have L4 := hid l4
  have L5 := hid l5
  have HC := hid hc
  have HD := hid hd
  clear hn1 hn2 l1 l2 l3 l4 l5 hc hd
  go_enter Tryd.func25, Tryd.ntmps25
  go_wp2_with fail
  rw [← hwB]
  clear hwB
  go_loopg [5, 6] n1 (fun gg v5 v6 wr => ∃ (i : Nat) (z : Int), gg = n1 - i ∧ i ≤ n1 ∧ v5 = .int .i64 z ∧ v6 = .int .i64 (i : Int) ∧ wr = wB ∧ (n1 ≤ 20 → z = ((msg.length + sumL (sg.take i) : Nat) : Int)))
  case atStart => exact ⟨0, (msg.length : Int), rfl, Nat.zero_le _, rfl, rfl, rfl, fun _ => by simp [sumL]⟩
  case round =>
    obtain ⟨i, z, rfl, hi, rfl, rfl, rfl, hz⟩ := hrel
    have HZ := hid hz
    clear hz
    by_cases him : i < n1
    · have hik : i < sg.length := by have := HN1.out; omega
      obtain ⟨g, o, hg, hgl, hcs⟩ := HC.out (fun e => by rw [e] at hik; simp at hik)
      subst hg
      obtain ⟨x, hx⟩ : ∃ x, x = sg[i] := ⟨_, rfl⟩
      have e0 : wr.cell? ⟨g, o + i, none⟩ = some (St x) := by rw [hx]; exact cell_later HB.out (hcs i hik)
      have hiw : IntKind.i64.wrap ((i : Int) + 1) = ((i + 1 : Nat) : Int) := by rw [IntKind.wrap_i64]; have := L1.out; omega
      have hi0 : (0 : Int) ≤ (i : Int) := Int.natCast_nonneg _
      have hi1 : (i : Int) < (n1 : Int) := by omega
      have HI := hid him
      have HX : Hid (n1 ≤ 20 → IntKind.i64.wrap (z + (x.length : Int)) = ((msg.length + sumL (sg.take (i + 1)) : Nat) : Int)) := hid (fun h20 => by
        have h1 := HZ.out h20
        have h2 := sumL_take hik
        rw [← hx] at h2
        have h3 : sumL (sg.take (i + 1)) ≤ 20 * 140737488355328 := sumL_few (fun y hy => L4.out y (List.mem_of_mem_take hy)) (by rw [List.length_take]; have := HN1.out; omega)
        have h4 := L3.out
        rw [h2] at h3 ⊢
        rw [h1, IntKind.wrap_i64]
        omega)
      clear him hi hik hx hcs hgl HZ
      generalize hzz : IntKind.i64.wrap (z + (x.length : Int)) = z2 at *
      go_wp2_with fail
      go_roundg (n1 - (i + 1))
      case measure => have := HI.out; omega
      case rel => exact ⟨i + 1, _, rfl, HI.out, rfl, rfl, rfl, HX.out⟩
    · have hie : i = n1 := by omega
      subst hie
      have hin : ¬ (i : Int) < (i : Int) := by omega
      have HS : Hid (i ≤ 20 → z = ((msg.length + sumL sg : Nat) : Int)) := hid (fun h20 => by have h1 := HZ.out h20; rw [HN1.out, List.take_length] at h1; exact h1)
      clear hi him HZ
      go_wp2_with fail
      go_loopg [5, 7] n2 (fun gg v5 v7 wr2 => ∃ (j : Nat) (y : Int), gg = n2 - j ∧ j ≤ n2 ∧ v5 = .int .i64 y ∧ v7 = .int .i64 (j : Int) ∧ wr2 = wr ∧ (i ≤ 20 → n2 ≤ 20 → y = ((msg.length + sumL sg + sumL (pr.take j) : Nat) : Int)))
      case atStart => exact ⟨0, z, rfl, Nat.zero_le _, rfl, rfl, rfl, fun h _ => by rw [HS.out h]; simp [sumL]⟩
      case round =>
        obtain ⟨j, y, rfl, hj, rfl, rfl, hwe, hy⟩ := hrel
        have HY := hid hy
        clear hy
        subst hwe
        by_cases hjm : j < n2
        · have hjk : j < pr.length := by have := HN2.out; omega
          obtain ⟨g, o, hg, hgl, hcs⟩ := HD.out (fun e => by rw [e] at hjk; simp at hjk)
          subst hg
          obtain ⟨x, hx⟩ : ∃ x, x = pr[j] := ⟨_, rfl⟩
          have e0 : wr.cell? ⟨g, o + j, none⟩ = some (St x) := by rw [hx]; exact cell_later HB.out (hcs j hjk)
          have hiw : IntKind.i64.wrap ((j : Int) + 1) = ((j + 1 : Nat) : Int) := by rw [IntKind.wrap_i64]; have := L2.out; omega
          have hi0 : (0 : Int) ≤ (j : Int) := Int.natCast_nonneg _
          have hi1 : (j : Int) < (n2 : Int) := by omega
          have HJ := hid hjm
          have HX : Hid (i ≤ 20 → n2 ≤ 20 → IntKind.i64.wrap (y + (x.length : Int)) = ((msg.length + sumL sg + sumL (pr.take (j + 1)) : Nat) : Int)) := hid (fun h20 h21 => by
            have h1 := HY.out h20 h21
            have h2 := sumL_take hjk
            rw [← hx] at h2
            have h3 : sumL (pr.take (j + 1)) ≤ 20 * 140737488355328 := sumL_few (fun y hy => L5.out y (List.mem_of_mem_take hy)) (by rw [List.length_take]; have := HN2.out; omega)
            have h5 : sumL sg ≤ 20 * 140737488355328 := sumL_few L4.out (by have := HN1.out; omega)
            have h4 := L3.out
            rw [h2] at h3 ⊢
            rw [h1, IntKind.wrap_i64]
            omega)
          clear hjm hj hjk hx hcs hgl HY
          generalize hzz : IntKind.i64.wrap (y + (x.length : Int)) = y2 at *
          go_wp2_with fail
          go_roundg (n2 - (j + 1))
          case measure => have := HJ.out; omega
          case rel => exact ⟨j + 1, _, rfl, HJ.out, rfl, rfl, rfl, HX.out⟩
        · have hje : j = n2 := by omega
          subst hje
          have hjn : ¬ (j : Int) < (j : Int) := by omega
          have HE : Hid (i ≤ 20 → j ≤ 20 → y = ((msg.length + sumL sg + sumL pr : Nat) : Int)) := hid (fun h20 h21 => by have h1 := HY.out h20 h21; rw [HN2.out, List.take_length] at h1; exact h1)
          clear hj hjm HY HS
          by_cases b1 : i ≤ 20
          · have d1 : ¬ (20 : Int) < (i : Int) := by omega
            by_cases b2 : j ≤ 20
            · have d2 : ¬ (20 : Int) < (j : Int) := by omega
              have HF : Hid (decide ((5000 : Int) < y) = false → Sml sg pr msg) := hid (fun hf => by
                have h1 := HE.out b1 b2
                have h2 := of_decide_eq_false hf
                refine ⟨by have := HN1.out; omega, by have := HN2.out; omega, by omega, fun x hx => ?_, fun x hx => ?_⟩
                · have := sumL_mem hx; omega
                · have := sumL_mem hx; omega)
              clear b1 b2 HE
              go_wp2_with fail
              go_ret
              refine ⟨?_, HB.out⟩
              cases hc5 : decide ((5000 : Int) < y) with
              | false => exact .inl ⟨rfl, HF.out hc5⟩
              | true => exact .inr rfl
            · have d2 : (20 : Int) < (j : Int) := by omega
              clear b1 b2 HE
              go_wp2_with fail
              go_ret
              exact ⟨.inr rfl, HB.out⟩
          · have d1 : (20 : Int) < (i : Int) := by omega
            clear b1 HE
            go_wp2_with fail
            go_ret
            exact ⟨.inr rfl, HB.out⟩
end Go.Proofs.YtdllpklecdmghaaDoor
