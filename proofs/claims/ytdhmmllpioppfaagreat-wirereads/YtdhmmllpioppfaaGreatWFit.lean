/- May a message be? -/
import Derived.Test.YtdhmmllpioppfaaGreatWMath
import Derived.Test.YtdhmmllpioppfaaGreatVUnkAll
import Derived.Test.YtdhmmllpioppfaaGreatWRow
import Derived.Shelf.Abstract
namespace Go.Proofs.YtdhmmllpioppfaaGreat.V
open Go.RowKit

/-- numbers lie there -/
def Ns (w : World) (v : Value) (l : List Int) : Prop :=
  ∃ ao cap, v = .slice ao l.length cap ∧ (l ≠ [] → ∃ g o, ao = some ⟨g, o, none⟩ ∧ g < w.heap.size ∧ ∀ i (h : i < l.length), w.cell? ⟨g, o + i, none⟩ = some (.int .i64 l[i]))
/-- texts lie there -/
def Ts (w : World) (v : Value) (l : List Bs) : Prop :=
  ∃ ao cap, v = .slice ao l.length cap ∧ (l ≠ [] → ∃ g o, ao = some ⟨g, o, none⟩ ∧ g < w.heap.size ∧ ∀ i (h : i < l.length), w.cell? ⟨g, o + i, none⟩ = some (St l[i]))
theorem Ns.below {w w' : World} {v : Value} {l : List Int} (h : Ns w v l) (hb : Below w.heap.size w w') : Ns w' v l := by
  obtain ⟨ao, cap, e, h1⟩ := h
  refine ⟨ao, cap, e, fun hne => ?_⟩
  obtain ⟨g, o, e2, hlt, hc⟩ := h1 hne
  exact ⟨g, o, e2, Nat.lt_of_lt_of_le hlt hb.size, fun i hi => (hb.cell (p := ⟨g, o + i, none⟩) hlt).trans (hc i hi)⟩
theorem Ts.below {w w' : World} {v : Value} {l : List Bs} (h : Ts w v l) (hb : Below w.heap.size w w') : Ts w' v l := by
  obtain ⟨ao, cap, e, h1⟩ := h
  refine ⟨ao, cap, e, fun hne => ?_⟩
  obtain ⟨g, o, e2, hlt, hc⟩ := h1 hne
  exact ⟨g, o, e2, Nat.lt_of_lt_of_le hlt hb.size, fun i hi => (hb.cell (p := ⟨g, o + i, none⟩) hlt).trans (hc i hi)⟩
theorem Ts.cells {w : World} {ao : Option Addr} {kc n : Nat} {l : List Bs} (h : Ts w (.slice ao n kc) l) (i : Nat) (hi : i < l.length) : ∃ g o, ao = some ⟨g, o, none⟩ ∧ g < w.heap.size ∧ w.cell? ⟨g, o + i, none⟩ = some (St l[i]) := by
  obtain ⟨ao', cap', he, ht⟩ := h
  cases he
  obtain ⟨g, o, e, hg, hc⟩ := ht (fun e => by rw [e] at hi; simp at hi)
  exact ⟨g, o, e, hg, hc i hi⟩
theorem Ns.cells {w : World} {ao : Option Addr} {kc n : Nat} {l : List Int} (h : Ns w (.slice ao n kc) l) (i : Nat) (hi : i < l.length) : ∃ g o, ao = some ⟨g, o, none⟩ ∧ g < w.heap.size ∧ w.cell? ⟨g, o + i, none⟩ = some (.int .i64 l[i]) := by
  obtain ⟨ao', cap', he, ht⟩ := h
  cases he
  obtain ⟨g, o, e, hg, hc⟩ := ht (fun e => by rw [e] at hi; simp at hi)
  exact ⟨g, o, e, hg, hc i hi⟩
/-- a message's value -/
abbrev Mv (k : Nat) (ch : Bs) (nv tv : Value) (tx : Bs) (mv : Value) : Value := .agg #[.int .u16 (k : Int), St ch, nv, tv, St tx, mv]
/-- a message lies there -/
structure Ms (w : World) (nv tv mv : Value) (m : Msg) : Prop where
  ns : Ns w nv m.ns
  ts : Ts w tv m.ts
  mo : Rcs w mv m.mo
theorem Ms.below {w w' : World} {nv tv mv : Value} {m : Msg} (h : Ms w nv tv mv m) (hb : Below w.heap.size w w') : Ms w' nv tv mv m := ⟨h.ns.below hb, h.ts.below hb, h.mo.below hb⟩
theorem box_at {w w1 : World} {o : Obj} (hb : Below (w.alloc o).heap.size (w.alloc o) w1) : w1.heap[w.heap.size]? = some o := (hb.block _ (by simp)).trans (heap_alloc_new w o)
theorem box_below {w w1 : World} {o : Obj} (hb : Below (w.alloc o).heap.size (w.alloc o) w1) : Below w.heap.size w w1 := ((Below.refl w.heap.size w).alloc (Nat.le_refl _) o).trans (hb.mono (by simp))
theorem two_low {w w1 w2 : World} (h : Below w.heap.size w w1) (hb : Below w1.heap.size w1 w2) : Below w.heap.size w w2 := h.trans (hb.mono h.size)
set_option maxRecDepth 100000 in
set_option maxHeartbeats 2000000 in
theorem cfit_any (k : Nat) (hk : k < 65536) (ch tx : Bs) (an at' : Option Addr) (n cn t ct : Nat) (mv : Value) (w : World) :
    Calls Tryz.prog 31 #[Mv k ch (.slice an n cn) (.slice at' t ct) tx mv] w fun e w' => e = .returned (.bool (fitB k n t)) ∧ Below w.heap.size w w' := by
  unfold fitB
  have HC := hid (fun W => counts_any (k : Int) W)
  generalize cntK (k : Int) = c at HC
  obtain ⟨a, b, f⟩ := c
  simp only at HC ⊢
  have hk0 : (0 : Int) ≤ (k : Int) := by omega
  have hk1 : (k : Int) < 65536 := by omega
  cases f with
  | true =>
    simp only [if_true]
    by_cases h1 : (n : Int) = a
    · by_cases h2 : (t : Int) = b
      all_goals
        go_enter Tryz.func31, Tryz.ntmps31
        go_wp2_with fail
        refine (HC.out _).mono ?_
        rintro e w1 ⟨rfl, hb⟩
        have hx := box_at hb
        have HB := hid (box_below hb)
        have c2 : w1.cell? ⟨w.heap.size, 2, none⟩ = some (.slice an n cn) := by rw [cell_of_heap hx]; rfl
        have c3 : w1.cell? ⟨w.heap.size, 3, none⟩ = some (.slice at' t ct) := by rw [cell_of_heap hx]; rfl
        clear hb hx
        go_wp2_with fail
        go_ret
        exact ⟨by simp [h1, h2], HB.out⟩
    · go_enter Tryz.func31, Tryz.ntmps31
      go_wp2_with fail
      refine (HC.out _).mono ?_
      rintro e w1 ⟨rfl, hb⟩
      have hx := box_at hb
      have HB := hid (box_below hb)
      have c2 : w1.cell? ⟨w.heap.size, 2, none⟩ = some (.slice an n cn) := by rw [cell_of_heap hx]; rfl
      have c3 : w1.cell? ⟨w.heap.size, 3, none⟩ = some (.slice at' t ct) := by rw [cell_of_heap hx]; rfl
      clear hb hx
      go_wp2_with fail
      go_ret
      exact ⟨by simp [h1], HB.out⟩
  | false =>
    rw [if_neg (by decide)]
    have e0 : decide (k % 2 = 1) = decide ((k : Int) % 2 = 1) := by rw [Bool.eq_iff_iff]; simp; omega
    have e1 : decide (n ≤ 32) = decide ((n : Int) ≤ 32) := by rw [Bool.eq_iff_iff]; simp; omega
    have e2 : decide (t ≤ 32) = decide ((t : Int) ≤ 32) := by rw [Bool.eq_iff_iff]; simp; omega
    rw [e0, e1, e2]
    clear e0 e1 e2
    by_cases h1 : (k : Int) % 2 = 1
    · by_cases h2 : (n : Int) ≤ 32
      · by_cases h3 : (t : Int) ≤ 32
        all_goals
          go_enter Tryz.func31, Tryz.ntmps31
          go_wp2_with fail
          refine (HC.out _).mono ?_
          rintro e w1 ⟨rfl, hb⟩
          have hx := box_at hb
          have HB := hid (box_below hb)
          have c0 : w1.cell? ⟨w.heap.size, 0, none⟩ = some (.int .u16 (k : Int)) := by rw [cell_of_heap hx]; rfl
          have c2 : w1.cell? ⟨w.heap.size, 2, none⟩ = some (.slice an n cn) := by rw [cell_of_heap hx]; rfl
          have c3 : w1.cell? ⟨w.heap.size, 3, none⟩ = some (.slice at' t ct) := by rw [cell_of_heap hx]; rfl
          clear hb hx
          go_wp2_with fail
          go_ret
          exact ⟨by simp [h1, h2, h3], HB.out⟩
      · have hd : decide ((n : Int) ≤ 32) = false := by simpa using h2
        have HD := hid hd
        clear h2
        go_enter Tryz.func31, Tryz.ntmps31
        go_wp2_with fail
        refine (HC.out _).mono ?_
        rintro e w1 ⟨rfl, hb⟩
        have hx := box_at hb
        have HB := hid (box_below hb)
        have c0 : w1.cell? ⟨w.heap.size, 0, none⟩ = some (.int .u16 (k : Int)) := by rw [cell_of_heap hx]; rfl
        have c2 : w1.cell? ⟨w.heap.size, 2, none⟩ = some (.slice an n cn) := by rw [cell_of_heap hx]; rfl
        clear hb hx
        go_wp2_with fail
        go_ret
        exact ⟨by rw [HD.out]; simp [h1], HB.out⟩
    · have h1b : ((k : Int) % 2 == 1) = false := by simpa using h1
      go_enter Tryz.func31, Tryz.ntmps31
      go_wp2_with fail
      refine (HC.out _).mono ?_
      rintro e w1 ⟨rfl, hb⟩
      have hx := box_at hb
      have HB := hid (box_below hb)
      have c0 : w1.cell? ⟨w.heap.size, 0, none⟩ = some (.int .u16 (k : Int)) := by rw [cell_of_heap hx]; rfl
      clear hb hx
      go_wp2_with fail
      go_ret
      exact ⟨by simp [h1], HB.out⟩
set_option maxRecDepth 100000 in
set_option maxHeartbeats 2000000 in
theorem mfit_any (w : World) (v : Value) (L : List Rec) (hL : Rcs w v L) (hf : Few L) :
    Calls Tryz.prog 32 #[v] w fun e w' => e = .returned (.bool (moreB L)) ∧ Below w.heap.size w w' := by
  unfold moreB
  have HS := hid (stream_any w v L hL hf)
  have HU := hid (fun W (hb : Below w.heap.size w W) => unknown_none W v L (hL.below hb) hf.1 (fun i h => (hf.2 i h).1))
  simp only [Bool.not_false, Bool.and_true] at HU
  obtain ⟨av, cv, rfl⟩ := hL.shape
  clear hL hf
  generalize streamR L = s at HS
  obtain ⟨s1, s2⟩ := s
  generalize (L.any fun r => r.1 % 2 == 0) = u at HU
  by_cases h0 : s2 = 0
  · subst h0
    go_enter Tryz.func32, Tryz.ntmps32
    go_wp2_with fail
    refine HS.out.mono ?_
    rintro e w1 ⟨ao, cap, rfl, _, hb⟩
    have HB := hid hb
    have HU1 := hid (HU.out w1 hb)
    clear hb HS HU
    go_wp2_with (first | (go_at_call 51; refine HU1.out.mono ?_; rintro e w2 ⟨rfl, hb2⟩; have HB2 := hid (two_low HB.out hb2); clear hb2))
    go_ret
    exact ⟨by simp, HB2.out⟩
  · have h1 : ¬ (s2 : Int) = 0 := by omega
    have h2 : ((s2 : Int) == 0) = false := by simpa using h1
    go_enter Tryz.func32, Tryz.ntmps32
    go_wp2_with fail
    refine HS.out.mono ?_
    rintro e w1 ⟨ao, cap, rfl, _, hb⟩
    have HB := hid hb
    clear hb HS HU
    go_wp2_with fail
    go_ret
    exact ⟨by simp [h0], HB.out⟩
theorem right_st (t : Bs) (w : World) : Calls Tryz.prog 53 #[St t] w fun e w' => e = .returned (.bool (Tm.deep t != 0)) ∧ Below w.heap.size w w' := right_any ⟨t.toArray⟩ w
set_option maxRecDepth 100000 in
set_option maxHeartbeats 2000000 in
theorem wrong_any (t : Bs) (w : World) : Calls Tryz.prog 34 #[St t] w fun e w' => e = .returned (.bool (Tm.deep t == 0)) ∧ Below w.heap.size w w' := by
  have HR := hid (right_st t w)
  have e : (Tm.deep t == 0) = !(Tm.deep t != 0) := by simp [bne]
  rw [e]
  clear e
  generalize (Tm.deep t != 0) = b at HR
  go_enter Tryz.func34, Tryz.ntmps34
  go_wp2_with fail
  refine HR.out.mono ?_
  rintro e w1 ⟨rfl, hb⟩
  have HB := hid hb
  clear hb
  go_wp2_with fail
  go_ret
  exact ⟨rfl, HB.out⟩
theorem eg24 : ∀ args w, (callFunc 34 args).run Tryz.prog w = .ok (.enter 34 args) w := Go.Proofs.enters_of Tryz.func34 (by kernel_rfl) rfl
set_option maxRecDepth 100000 in
set_option maxHeartbeats 2000000 in
/-- where the first wrong term stands: -1 if there is none -/
theorem index_any (w : World) (ao : Option Addr) (cap : Nat) (ts : List Bs) (h : Ts w (.slice ao ts.length cap) ts) (hm : ts.length ≤ 140737488355328) :
    Calls Tryz.prog 52 #[.slice ao ts.length cap, .func (.func 34) #[] #[]] w fun e w' => (∃ j : Int, e = .returned (.int .i64 j) ∧ (decide (0 ≤ j) = ts.any (fun t => Tm.deep t == 0))) ∧ Below w.heap.size w w' := by
  have eg := eg24
  have HC : Hid (∀ i (h : i < ts.length), ∃ g o, ao = some ⟨g, o, none⟩ ∧ ∀ W, Below w.heap.size w W → W.cell? ⟨g, o + i, none⟩ = some (St ts[i])) := hid (fun i hi => by
    obtain ⟨g, o, e, hg, hc⟩ := h.cells i hi
    exact ⟨g, o, e, fun W hb => by rw [← hc]; exact World.cell?_of_block (hb.block g hg)⟩)
  obtain ⟨n, hn⟩ : ∃ n, n = ts.length := ⟨_, rfl⟩
  rw [← hn] at hm ⊢
  have HN := hid hn
  clear hn h
  go_enter Tryz.func52, Tryz.ntmps52
  go_wp2_with fail
  go_loopg [5, 8] n (fun gg _v5 v8 wr => ∃ i : Nat, i ≤ n ∧ gg = n - i ∧ v8 = .int .i64 (i : Int) ∧ Below w.heap.size w wr ∧ (ts.take i).any (fun t => Tm.deep t == 0) = false)
  case atStart => exact ⟨0, by omega, by omega, rfl, Below.refl _ _, by simp⟩
  case round =>
    obtain ⟨i, hi, rfl, rfl, hbel, hf⟩ := hrel
    have HBE := hid hbel
    have HF := hid hf
    clear hbel hf
    by_cases hil : i < n
    · have hi1 : (i : Int) < (n : Int) := by omega
      have hik : i < ts.length := by rw [← HN.out]; exact hil
      obtain ⟨g, o, hao, hce⟩ := HC.out i hik
      subst hao
      have hc1 := hce wr HBE.out
      have HST : Hid ((ts.take (i + 1)).any (fun t => Tm.deep t == 0) = ((ts.take i).any (fun t => Tm.deep t == 0) || (Tm.deep ts[i] == 0))) := hid (by rw [List.take_succ_eq_append_getElem hik, List.any_append]; simp)
      have HW := hid (fun W => wrong_any ts[i] W)
      have HAL : Hid ((Tm.deep ts[i] == 0) = true → ts.any (fun t => Tm.deep t == 0) = true) := hid (fun h => List.any_eq_true.2 ⟨ts[i], List.getElem_mem hik, h⟩)
      clear hce
      generalize (Tm.deep ts[i] == 0) = b at HW HST HAL
      generalize ts[i] = t at hc1 HW
      go_wp2_with fail
      refine (HW.out _).mono ?_
      rintro e w1 ⟨rfl, hb⟩
      have HB := hid (two_low HBE.out hb)
      clear hb
      cases b with
      | true =>
        go_wp2_with fail
        go_ret
        exact ⟨⟨_, rfl, by rw [HAL.out (by trivial)]; simp⟩, HB.out⟩
      | false =>
        go_wp2_with fail
        go_roundg (n - (i + 1))
        case measure => omega
        case rel => exact ⟨i + 1, by omega, rfl, by go_num, HB.out, by rw [HST.out, HF.out]; rfl⟩
    · have hi1 : ¬ (i : Int) < (n : Int) := by omega
      have HE : Hid (ts.take i = ts) := hid (List.take_of_length_le (by rw [← HN.out]; omega))
      go_wp2_with fail
      go_ret
      exact ⟨⟨_, rfl, by have := HF.out; rw [HE.out] at this; rw [this]; decide⟩, HBE.out⟩
set_option maxRecDepth 100000 in
set_option maxHeartbeats 2000000 in
theorem contains_any (w : World) (ao : Option Addr) (cap : Nat) (ts : List Bs) (h : Ts w (.slice ao ts.length cap) ts) (hm : ts.length ≤ 140737488355328) :
    Calls Tryz.prog 33 #[.slice ao ts.length cap, .func (.func 34) #[] #[]] w fun e w' => e = .returned (.bool (ts.any (fun t => Tm.deep t == 0))) ∧ Below w.heap.size w w' := by
  have HI := hid (index_any w ao cap ts h hm)
  clear h hm
  generalize ts.any (fun t => Tm.deep t == 0) = b at HI
  generalize ts.length = n at HI
  go_enter Tryz.func33, Tryz.ntmps33
  go_wp2_with fail
  refine HI.out.mono ?_
  rintro e w1 ⟨⟨j, rfl, hj⟩, hb⟩
  have HB := hid hb
  have HJ := hid hj
  clear hb hj
  go_wp2_with fail
  go_ret
  exact ⟨by rw [← HJ.out]; rfl, HB.out⟩
end Go.Proofs.YtdhmmllpioppfaaGreat.V
