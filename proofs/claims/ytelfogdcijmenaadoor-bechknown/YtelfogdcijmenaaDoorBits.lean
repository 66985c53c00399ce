/- Bits. -/
import Derived.Test.YtelfogdcijmenaaDoorBMath
import Derived.Test.YtelfogdcijmenaaDoorEnc
namespace Go.Proofs.YtelfogdcijmenaaDoor
open Go.RowKit

theorem or64 {a b : Nat} (k : Nat) (hb : b < 2 ^ k) (ha : a * 2 ^ k + b < 9223372036854775808) : bits .or .i64 ((a * 2 ^ k : Nat) : Int) (b : Int) = ((a * 2 ^ k + b : Nat) : Int) := by
  change IntKind.i64.wrap ((BitVec.ofInt 64 ((a * 2 ^ k : Nat) : Int) ||| BitVec.ofInt 64 (b : Int)).toNat : Int) = _
  have e : ∀ x : Nat, x < 9223372036854775808 → (BitVec.ofInt 64 (x : Int)).toNat = x := fun x hx => by simp; omega
  have h2 := Nat.two_pow_add_eq_or_of_lt (i := k) (b := b) hb a
  rw [Nat.mul_comm] at h2
  rw [BitVec.toNat_or, e _ (by omega), e _ (by omega), ← h2, IntKind.wrap_i64]
  omega
theorem and64 {a : Nat} (k : Nat) (hk : k ≤ 62) (ha : a < 9223372036854775808) : bits .and .i64 (a : Int) ((2 ^ k - 1 : Nat) : Int) = ((a % 2 ^ k : Nat) : Int) := by
  change IntKind.i64.wrap ((BitVec.ofInt 64 (a : Int) &&& BitVec.ofInt 64 ((2 ^ k - 1 : Nat) : Int)).toNat : Int) = _
  have e : ∀ x : Nat, x < 9223372036854775808 → (BitVec.ofInt 64 (x : Int)).toNat = x := fun x hx => by simp; omega
  have hp : 2 ^ k ≤ 2 ^ 62 := Nat.pow_le_pow_right (by omega) hk
  have hm := Nat.mod_le a (2 ^ k)
  rw [BitVec.toNat_and, e _ ha, e _ (by omega), Nat.and_two_pow_sub_one_eq_mod, IntKind.wrap_i64]
  omega
theorem wrap_small (n : Nat) (h : n < 9223372036854775808) : wrap64 (n : Int) = (n : Int) := by unfold wrap64; omega
theorem mask64 (K : Nat) (h : K ≤ 15) : wrap64 (wrap64 (2 ^ K) - 1) = ((2 ^ K - 1 : Nat) : Int) := by
  have hp : 2 ^ K ≤ 2 ^ 15 := Nat.pow_le_pow_right (by omega) h
  have h1 : 1 ≤ 2 ^ K := Nat.two_pow_pos K
  have e1 : ((2 : Int) ^ K) = ((2 ^ K : Nat) : Int) := by simp
  have e2 : (((2 ^ K : Nat) : Int) - 1) = ((2 ^ K - 1 : Nat) : Int) := by omega
  rw [e1, wrap_small _ (by omega), e2, wrap_small _ (by omega)]
theorem cut_len (t : Nat) : ∀ (k : Nat) (R : Bs), (cutN t k R).length = k := by
  intro k
  induction k with
  | zero => intro R; rfl
  | succ k ih => intro R; simp [cutN, ih]
theorem cut_le (t : Nat) (R : Bs) : (cutB t R).length ≤ R.length := by
  unfold cutB
  rw [cut_len]
  exact Nat.div_le_self _ _
theorem box_kept {w w' : World} {B p n : Nat} {cs : Array Value} {v : Value} {o : Obj} {xs : List Value} (hbx : w.heap[p]? = some (.cells cs 3 (0, 0))) (how : w.ownsRow B 5 1 v n xs) (hg : (w.alloc o).grownBy w' v.ownBlock) : w'.heap[p]? = some (.cells cs 3 (0, 0)) := by
  have hlt := lt_of_block hbx
  rw [hg.block p (by simp; omega) (fun e => ?_)]
  · exact (Below.heap_alloc w o p hlt).trans hbx
  · rcases how.2 with ⟨h3, _⟩ | ⟨g, cap, cur, h3, h4, h5, _⟩
    · rw [h3] at e; cases e
    · rw [h3] at e
      cases e
      rw [hbx] at h5
      cases h5
theorem eg45 : ∀ args w, (callFunc 45 args).run Tryd.prog w = .ok (.enter 45 args) w := enters_of Tryd.func45 (by kernel_rfl) rfl
set_option maxHeartbeats 1000000 in
theorem over_any (c : UInt8) (F g : Nat) (w : World) (hF : 1 ≤ F ∧ F ≤ 8) (hc : w.cell? ⟨g, 0, none⟩ = some (.int .i64 (F : Int))) : Calls Tryd.prog 45 #[By c, .pointer (some ⟨g, 0, none⟩)] w fun e w' => e = .returned (.bool (overB F c)) ∧ w' = w := by
  have h8 : F = 1 ∨ F = 2 ∨ F = 3 ∨ F = 4 ∨ F = 5 ∨ F = 6 ∨ F = 7 ∨ F = 8 := by omega
  have HB : Hid (overB F c = decide (((2 ^ F : Nat) : Int) ≤ (c.toNat : Int))) := hid (by unfold overB; apply decide_eq_decide.2; omega)
  unfold By
  have hn8 : (c.toNat : Int) < 256 := by have := c.toNat_lt; omega
  generalize c.toNat = n at *
  rcases h8 with rfl | rfl | rfl | rfl | rfl | rfl | rfl | rfl
  all_goals
    go_enter Tryd.func45, Tryd.ntmps45
    go_wp2_with fail
    go_ret
    rw [HB.out]
    exact ⟨rfl, rfl⟩
theorem has_over (b : Bs) (v : Value) (F g : Nat) (w : World) (hs : Sl w v b) (hm : b.length ≤ 140737488355328) (hF : 1 ≤ F ∧ F ≤ 8) (hc : w.cell? ⟨g, 0, none⟩ = some (.int .i64 (F : Int))) : Calls Tryd.prog 22 #[v, .func (.func 45) #[] #[.pointer (some ⟨g, 0, none⟩)]] w fun e w' => e = .returned (.bool (b.any (overB F))) ∧ w' = w :=
  has_row v b (overB F) 45 #[.pointer (some ⟨g, 0, none⟩)] w hs hm eg45 (fun c => over_any c F g w hF hc)
/-- what Bits answers -/
abbrev cutted (ao : Option Addr) (cap : Nat) (r : Bs × Nat) : Ending := .returned (.tuple #[.slice ao r.1.length cap, .int .i64 (r.2 : Int)])
theorem bits_arg {b : Bs} {f t : Int} {pad : Bool} (h : f < 1 ∨ 8 < f ∨ t < 1 ∨ 8 < t) : bitsR b f t pad = ([], 2) := by unfold bitsR; rw [if_pos h]
set_option maxRecDepth 100000 in
set_option maxHeartbeats 8000000 in
theorem bits_bad (b : Bs) (v : Value) (f t : Int) (pad : Bool) (w : World) (hs : Sl w v b) (h : f < 1 ∨ 8 < f ∨ t < 1 ∨ 8 < t) :
    Calls Tryd.prog 14 #[v, .int .i64 f, .int .i64 t, .bool pad] w fun e w' => e = .returned (.tuple #[.slice none 0 0, .int .i64 2]) ∧ Below w.heap.size w w' := by
  obtain ⟨av, cv, rfl⟩ := hs.shape
  have HB := hid ((Below.refl w.heap.size w).alloc (Nat.le_refl _) (.cells #[.int .i64 f] 3))
  have hmf : ∀ (fn : Fn) (first cap : Array Value) (w : World), (Instr.makeFunc fn first cap).run Tryd.prog w = .ok (.func fn first cap) w := fun _ _ _ _ => rfl
  by_cases h1 : f < 1
  · go_enter Tryd.func14, Tryd.ntmps14
    go_wp2_with fail
    go_ret2
    exact ⟨rfl, HB.out⟩
  · by_cases h2 : 8 < f
    · go_enter Tryd.func14, Tryd.ntmps14
      go_wp2_with fail
      go_ret2
      exact ⟨rfl, HB.out⟩
    · by_cases h3 : t < 1
      · go_enter Tryd.func14, Tryd.ntmps14
        go_wp2_with fail
        go_ret2
        exact ⟨rfl, HB.out⟩
      · have h4 : 8 < t := by omega
        go_enter Tryd.func14, Tryd.ntmps14
        go_wp2_with fail
        go_ret2
        exact ⟨rfl, HB.out⟩
set_option maxRecDepth 100000 in
set_option maxHeartbeats 8000000 in
theorem bits_good (b : Bs) (v : Value) (F N : Nat) (pad : Bool) (w : World) (hs : Sl w v b) (hF : 1 ≤ F ∧ F ≤ 8) (hN : 1 ≤ N ∧ N ≤ 8) (hm : b.length ≤ 1000000000) :
    Calls Tryd.prog 14 #[v, .int .i64 (F : Int), .int .i64 (N : Int), .bool pad] w fun e w' => ∃ ao cap, e = cutted ao cap (bitsB b F N pad) ∧ w'.ownsRow w.heap.size 5 1 (.slice ao (bitsB b F N pad).1.length cap) (bitsB b F N pad).1.length (bcs (bitsB b F N pad).1) ∧ Below w.heap.size w w' := by
  have HB0 := hid ((Below.refl w.heap.size w).alloc (Nat.le_refl _) (.cells #[.int .i64 (F : Int)] 3))
  have hn0 := heap_alloc_new w (.cells #[.int .i64 (F : Int)] 3)
  have hc0 : (w.alloc (.cells #[.int .i64 (F : Int)] 3)).cell? ⟨w.heap.size, 0, none⟩ = some (.int .i64 (F : Int)) := by rw [cell_of_heap hn0]; rfl
  have HH := hid (has_over b v F w.heap.size _ (hs.below HB0.out) (by omega) hF hc0)
  have HS := hid hs
  obtain ⟨av, cv, rfl⟩ := hs.shape
  have hmf : ∀ (fn : Fn) (first cap : Array Value) (w : World), (Instr.makeFunc fn first cap).run Tryd.prog w = .ok (.func fn first cap) w := fun _ _ _ _ => rfl
  obtain ⟨A, hA⟩ : ∃ A, A = bitsB b F N pad := ⟨_, rfl⟩
  rw [← hA]
  have HA := hid hA
  obtain ⟨n, hn⟩ : ∃ n, n = b.length := ⟨_, rfl⟩
  rw [← hn] at hm HH ⊢
  have HN := hid hn
  obtain ⟨bo, hbo⟩ : ∃ bo, bo = b.any (overB F) := ⟨_, rfl⟩
  rw [← hbo] at HH
  have HBO := hid hbo
  have f1 : ¬ (F : Int) < 1 := by omega
  have f2 : ¬ (8 : Int) < (F : Int) := by omega
  have t1 : ¬ (N : Int) < 1 := by omega
  have t2 : ¬ (8 : Int) < (N : Int) := by omega
  have HN0 := hid hn0
  clear hs hA hn hbo hn0 hc0
  go_enter Tryd.func14, Tryd.ntmps14
  go_wp2_with fail
  refine HH.out.mono ?_
  rintro e w1 ⟨rfl, hw1⟩
  subst hw1
  cases bo with
  | true =>
    have HZ : Hid (A = ([], 50)) := hid (by rw [HA.out]; unfold bitsB; rw [if_pos HBO.out.symm])
    go_wp2_with fail
    go_ret2
    refine ⟨none, 0, ?_⟩
    rw [HZ.out]
    exact ⟨rfl, own_none _ _, HB0.out⟩
  | false =>
    have HLT : Hid (∀ i (h : i < b.length), b[i].toNat < 2 ^ F) := hid (fun i h => by
      have h1 := List.any_eq_false.1 HBO.out.symm b[i] (List.getElem_mem h)
      simpa [overB] using h1)
    go_wp2_with fail
    clear HH hmf
    generalize hw0 : w.alloc (.cells #[.int .i64 (F : Int)] 3) = w0 at *
    go_loopg [10, 11, 12, 14, 34] n (fun gg v10 v11 v12 v14 v34 wr => ∃ (i : Nat) (a : Option Addr) (c : Nat) (xs r : Bs), i ≤ n ∧ gg = n - i ∧ v34 = .int .i64 (i : Int) ∧ v10 = .slice a xs.length c ∧ v11 = .int .i64 (numB r : Int) ∧ v12 = .int .i64 (r.length : Int) ∧ Hid (xs = cutB N (rowB F (b.take i))) ∧ Hid (r = restB N (rowB F (b.take i))) ∧ wr.ownsRow w.heap.size 5 1 (.slice a xs.length c) xs.length (bcs xs) ∧ wr.heap[w.heap.size]? = some (.cells #[.int .i64 (F : Int)] 3 (0, 0)) ∧ Below w.heap.size w wr)
    case atStart => exact ⟨0, none, 0, [], [], by omega, by omega, rfl, rfl, rfl, rfl, hid (by rw [List.take_zero]; exact (cut_lt (by show 0 < N; omega)).1.symm), hid (by rw [List.take_zero]; exact (cut_lt (by show 0 < N; omega)).2.symm), own_none _ _, HN0.out, HB0.out⟩
    case round =>
      obtain ⟨i, a, c, xs, r, hi, rfl, rfl, rfl, rfl, rfl, hxs, hr, how, hbx, hbel⟩ := hrel
      by_cases hin : i < n
      · have hi1 : (i : Int) < (n : Int) := by omega
        have hib : i < b.length := by rw [← HN.out]; exact hin
        have hlt := HLT.out i hib
        obtain ⟨g, o, rfl, hg, hq, hcap, hcc⟩ := HS.out.at (fun e => by rw [e] at hib; simp at hib)
        have hck : wr.cell? ⟨g, o + i, none⟩ = some (By b[i]) := by rw [← hcc i hib]; exact World.cell?_of_block (hbel.block g hg)
        have hcb : wr.cell? ⟨w.heap.size, 0, none⟩ = some (.int .i64 (F : Int)) := by rw [cell_of_heap hbx]; rfl
        rw [← HN.out] at hcap
        have HTK : Hid (b.take (i + 1) = b.take i ++ [b[i]]) := hid (by rw [List.take_add_one, List.getElem?_eq_getElem hib]; rfl)
        generalize b[i] = x at *
        have hx8 := x.toNat_lt
        have hRB : Bit r := by rw [hr.out]; exact rest_bit (row_bit _ _)
        have hrl : r.length < N := by rw [hr.out]; exact rest_lt (by omega) _
        have hnr := num_lt hRB
        obtain ⟨L, hL⟩ : ∃ L, L = r ++ bitsOf F x.toNat := ⟨_, rfl⟩
        have hLl : L.length = r.length + F := by rw [hL, List.length_append, bits_len]
        have hLn : numB L = numB r * 2 ^ F + x.toNat := by rw [hL, num_app, bits_len, num_bits, Nat.mod_eq_of_lt hlt]
        have hLB : Bit L := fun y hy => by
          rw [hL] at hy
          rcases List.mem_append.1 hy with h | h
          · exact hRB y h
          · exact bits_bit _ _ y h
        have hLlt := num_lt hLB
        have hL15 : L.length ≤ 15 := by omega
        have hp15 : 2 ^ L.length ≤ 2 ^ 15 := Nat.pow_le_pow_right (by omega) hL15
        have hor := or64 (a := numB r) (b := x.toNat) F hlt (by rw [← hLn]; omega)
        rw [← hLn] at hor
        have hsm1 := wrap_small (numB r * 2 ^ F) (by omega)
        have hsm2 := wrap_small L.length (by omega)
        have hcs1 : ((numB r * 2 ^ F : Nat) : Int) = (numB r : Int) * 2 ^ F := by simp
        have hcs2 : (L.length : Int) = (r.length : Int) + (F : Int) := by rw [hLl]; simp
        have HE1 : Hid (bits .or .i64 (wrap64 ((numB r : Int) * 2 ^ F)) (x.toNat : Int) = (numB L : Int)) := hid (by rw [← hcs1, hsm1]; exact hor)
        have HE2 : Hid (wrap64 ((r.length : Int) + (F : Int)) = (L.length : Int)) := hid (by rw [← hcs2]; exact hsm2)
        have HCU : Hid (cutB N (rowB F (b.take (i + 1))) = xs ++ cutB N L ∧ restB N (rowB F (b.take (i + 1))) = restB N L) := hid (by
          have h1 := cut_app (t := N) (by omega) (bitsOf F x.toNat) _ (rowB F (b.take i)) (Nat.le_refl _)
          have h2 : rowB F [x] = bitsOf F x.toNat := by unfold rowB; simp
          rw [HTK.out, row_app, h2, h1.1, h1.2, ← hxs.out, ← hr.out, ← hL]
          exact ⟨rfl, rfl⟩)
        have HYB : Hid ((xs ++ cutB N L).length ≤ 8000000000) := hid (by
          rw [← HCU.out.1]
          refine Nat.le_trans (cut_le _ _) ?_
          rw [row_len, List.length_take]
          have h1 : F * min (i + 1) b.length ≤ 8 * b.length := Nat.mul_le_mul hF.2 (by omega)
          have := HN.out
          omega)
        have HLB := hid hLB
        have HHOW := hid how
        have HBX := hid hbx
        have HBE := hid hbel
        clear hsm1 hsm2 hcs1 hcs2 hcc hq hRB hrl hnr hL hLl hLn hLB hLlt hp15 hor how hbx hbel hxs hr hlt HTK
        generalize numB r = hr0 at *
        generalize r.length = rl at *
        go_wp2_with fail
        go_quiet (fail)
        go_wp2_with fail
        rw [HE1.out, HE2.out]
        clear HE1 HE2 hck
        have hbd : ∀ k, Below w.heap.size w (wr.drewN k) := fun k => below_drewN HBE.out k
        have HW2 : Hid (Below w.heap.size w (wr.drewN nq)) := hid (hbd nq)
        have HO2 : Hid ((wr.drewN nq).ownsRow w.heap.size 5 1 (.slice a xs.length c) xs.length (bcs xs)) := hid HHOW.out
        have HX2 : Hid ((wr.drewN nq).heap[w.heap.size]? = some (.cells #[.int .i64 (F : Int)] 3 (0, 0))) := hid HBX.out
        generalize wr.drewN nq = w2 at *
        clear HHOW HBX HBE hbd hcb
        go_loopg [10, 11, 12] L.length (fun gg v10 v11 v12 wr => ∃ (a : Option Addr) (c : Nat) (ys M : Bs), gg = M.length ∧ M.length ≤ 15 ∧ v10 = .slice a ys.length c ∧ v11 = .int .i64 (numB M : Int) ∧ v12 = .int .i64 (M.length : Int) ∧ Hid (ys ++ cutB N M = xs ++ cutB N L) ∧ Hid (restB N M = restB N L) ∧ Hid (Bit M) ∧ wr.ownsRow w.heap.size 5 1 (.slice a ys.length c) ys.length (bcs ys) ∧ wr.heap[w.heap.size]? = some (.cells #[.int .i64 (F : Int)] 3 (0, 0)) ∧ Below w.heap.size w wr)
        case atStart => exact ⟨a, c, xs, L, rfl, hL15, rfl, rfl, rfl, hid rfl, hid rfl, HLB, HO2.out, HX2.out, HW2.out⟩
        case round =>
          obtain ⟨a3, c3, ys, M, rfl, hM15, rfl, rfl, rfl, hcut, hrest, hbit, how, hbx, hbel⟩ := hrel
          clear HO2 HX2 HW2
          by_cases hMN : N ≤ M.length
          · obtain ⟨K, hK⟩ : ∃ K, M.length = K + N := ⟨M.length - N, by omega⟩
            have hge : (N : Int) ≤ ((K + N : Nat) : Int) := by omega
            have hcg := cut_ge (by omega : 0 < N) hMN
            have hsp : numB M = numB (M.take N) * 2 ^ K + numB (M.drop N) := by
              conv => lhs; rw [← List.take_append_drop N M]
              rw [num_app, List.length_drop, hK, Nat.add_sub_cancel]
            have hdl := num_lt (l := M.drop N) (fun y hy => hbit.out y (List.mem_of_mem_drop hy))
            have htl := num_lt (l := M.take N) (fun y hy => hbit.out y (List.mem_of_mem_take hy))
            have hMlt := num_lt hbit.out
            rw [List.length_drop, hK, Nat.add_sub_cancel] at hdl
            rw [List.length_take, Nat.min_eq_left hMN] at htl
            have h256 : numB (M.take N) < 256 := Nat.lt_of_lt_of_le htl (by have := Nat.pow_le_pow_right (n := 2) (by omega) hN.2; simpa using this)
            have hq1 : numB M / 2 ^ K = numB (M.take N) := by rw [hsp, Nat.add_comm, Nat.add_mul_div_right _ _ (Nat.two_pow_pos _), Nat.div_eq_of_lt hdl, Nat.zero_add]
            have hq2 : numB M % 2 ^ K = numB (M.drop N) := by rw [hsp, Nat.add_comm, Nat.add_mul_mod_self_right, Nat.mod_eq_of_lt hdl]
            have hp15 : 2 ^ M.length ≤ 2 ^ 15 := Nat.pow_le_pow_right (by omega) hM15
            have hand := and64 (a := numB M) K (by omega) (by omega)
            rw [hq2] at hand
            have hen : ((UInt8.ofNat (numB (M.take N))).toNat : Int) = (numB M : Int) / 2 ^ K % 256 := by
              have e1 : ((numB M : Int) / 2 ^ K) = ((numB M / 2 ^ K : Nat) : Int) := by simp
              rw [e1, hq1, UInt8.toNat_ofNat']
              omega
            have hys : ys.length + 1 ≤ 140737488355328 := by
              have h1 := congrArg List.length hcut.out
              have h2 := HYB.out
              rw [List.length_append] at h1
              omega
            have hbx9 := fun (w9 : World) o (hg9 : (wr.alloc o).grownBy w9 (Value.slice a3 ys.length c3).ownBlock) => box_kept hbx how hg9
            obtain ⟨a9, c9, w9, hr9, ho9, hg9, hp9⟩ := append_one how (UInt8.ofNat (numB (M.take N))) _ hen rfl hys hbel.size
            have HR9 := hid hr9
            have HO9 := hid ho9
            have HX9 := hid (hbx9 _ _ hg9)
            have HB9 := hid (one_below hbel how hg9 hbel.size)
            have HCUT : Hid ((ys ++ [UInt8.ofNat (numB (M.take N))]) ++ cutB N (M.drop N) = xs ++ cutB N L) := hid (by rw [← hcut.out, hcg.1, List.append_assoc]; rfl)
            have HREST : Hid (restB N (M.drop N) = restB N L) := hid (by rw [← hrest.out, hcg.2])
            have HBIT : Hid (Bit (M.drop N)) := hid (fun y hy => hbit.out y (List.mem_of_mem_drop hy))
            have HDL : Hid ((M.drop N).length = K) := hid (by rw [List.length_drop, hK, Nat.add_sub_cancel])
            have HAND := hid hand
            have hK15 : K ≤ 15 := by omega
            have HKM : Hid (K < M.length) := hid (by omega)
            rw [hK]
            obtain ⟨yl, hyl⟩ : ∃ yl, yl = ys.length := ⟨_, rfl⟩
            rw [← hyl] at HR9 HO9 ⊢
            have HYL := hid hyl
            have HE3 : Hid (bits .and .i64 (numB M : Int) (wrap64 (wrap64 (2 ^ K) - 1)) = (numB (M.drop N) : Int)) := hid (by rw [mask64 K hK15]; exact hand)
            clear hbx9 hys HAND hr9 ho9 hg9 hp9 hand hen hq1 hq2 hp15 h256 hdl htl hMlt hsp hcg hcut hrest hbit how hbx hbel hK hMN hM15 hyl
            generalize numB M = H at *
            go_wp2_with (first | (at_builtin; refine wpList_append_run rfl _ _ 22 rfl _ _ (.slice a9 (yl + 1) c9) w9 rfl rfl HR9.out ?_) | fail)
            rw [HE3.out]
            go_roundg K
            case measure => exact HKM.out
            case rel => exact ⟨a9, c9, ys ++ [UInt8.ofNat (numB (M.take N))], M.drop N, HDL.out.symm, by rw [HDL.out]; exact hK15, by rw [List.length_append, ← HYL.out]; rfl, rfl, by rw [HDL.out], HCUT, HREST, HBIT, by rw [List.length_append, ← HYL.out]; exact HO9.out, HX9.out, HB9.out⟩
          · have hlt2 : ¬ (N : Int) ≤ (M.length : Int) := by omega
            have hcl := cut_lt (t := N) (L := M) (by omega)
            have HXS : Hid (ys = cutB N (rowB F (b.take (i + 1)))) := hid (by rw [HCU.out.1, ← hcut.out, hcl.1, List.append_nil])
            have HRS : Hid (M = restB N (rowB F (b.take (i + 1)))) := hid (by rw [HCU.out.2, ← hrest.out, hcl.2])
            have HO9 := hid how
            have HX9 := hid hbx
            have HB9 := hid hbel
            clear how hbx hbel hcl hcut hrest hbit
            obtain ⟨yl, hyl⟩ : ∃ yl, yl = ys.length := ⟨_, rfl⟩
            obtain ⟨ml, hml⟩ : ∃ ml, ml = M.length := ⟨_, rfl⟩
            obtain ⟨H, hH⟩ : ∃ H, H = numB M := ⟨_, rfl⟩
            rw [← hyl] at HO9 ⊢
            rw [← hml] at hlt2 ⊢
            rw [← hH]
            have HYL := hid hyl
            have HML := hid hml
            have HH2 := hid hH
            clear hyl hml hH hMN hM15
            go_wp2_with fail
            go_roundg (n - (i + 1))
            case measure => omega
            case rel => exact ⟨i + 1, a3, c3, ys, M, by omega, rfl, by go_num, by rw [← HYL.out], by rw [← HH2.out], by rw [← HML.out], HXS, HRS, by rw [← HYL.out]; exact HO9.out, HX9.out, HB9.out⟩
      · have hi1 : ¬ (i : Int) < (n : Int) := by omega
        have hie : i = n := by omega
        subst hie
        rw [List.take_of_length_le (by rw [← HN.out]; exact Nat.le_refl _)] at hxs hr
        have hRB : Bit r := by rw [hr.out]; exact rest_bit (row_bit _ _)
        have hrl : r.length < N := by rw [hr.out]; exact rest_lt (by omega) _
        have hnr := num_lt hRB
        have hcb : wr.cell? ⟨w.heap.size, 0, none⟩ = some (.int .i64 (F : Int)) := by rw [cell_of_heap hbx]; rfl
        have hxl : xs.length ≤ 8000000000 := by
          rw [hxs.out]
          refine Nat.le_trans (cut_le _ _) ?_
          rw [row_len]
          have h1 : F * b.length ≤ 8 * b.length := Nat.mul_le_mul_right _ hF.2
          have := HN.out
          omega
        have HAE : Hid (A = if pad = true then (if r = [] then (xs, 0) else (xs ++ [UInt8.ofNat (numB r * 2 ^ (N - r.length))], 0)) else if F ≤ r.length ∨ numB r ≠ 0 then ([], 50) else (xs, 0)) := hid (by
          rw [HA.out]
          unfold bitsB
          rw [if_neg (by rw [← HBO.out]; decide), ← hxs.out, ← hr.out])
        have HR0 : Hid (r = [] ↔ r.length = 0) := hid List.length_eq_zero_iff.symm
        have HO9 := hid how
        have HB9 := hid hbel
        clear hxs hr hRB hbx HLT HBO HA hbel
        cases pad with
        | true =>
          rw [if_pos rfl] at HAE
          by_cases h0 : r.length = 0
          · rw [if_pos (HR0.out.2 h0)] at HAE
            have hgt : ¬ (0 : Int) < (r.length : Int) := by omega
            obtain ⟨yl, hyl⟩ : ∃ yl, yl = xs.length := ⟨_, rfl⟩
            rw [← hyl] at HO9 ⊢
            have HYL := hid hyl
            generalize r.length = rl at *
            generalize numB r = H at *
            clear hyl how hxl
            go_wp2_with fail
            go_ret2
            refine ⟨a, c, ?_⟩
            rw [HAE.out]
            simp only [cutted, ← HYL.out]
            exact ⟨rfl, HO9.out, HB9.out⟩
          · rw [if_neg (fun e => h0 (HR0.out.1 e))] at HAE
            have hgt : (0 : Int) < (r.length : Int) := by omega
            obtain ⟨E, hE⟩ : ∃ E, N = r.length + E := ⟨N - r.length, by omega⟩
            have hE8 : E ≤ 8 := by omega
            have hmul : numB r * 2 ^ E < 2 ^ N := by
              have := Nat.mul_lt_mul_of_pos_right hnr (Nat.two_pow_pos E)
              rw [← Nat.pow_add, ← hE] at this
              exact this
            have h256 : numB r * 2 ^ E < 256 := Nat.lt_of_lt_of_le hmul (by have := Nat.pow_le_pow_right (n := 2) (by omega) hN.2; simpa using this)
            have hen : ((UInt8.ofNat (numB r * 2 ^ E)).toNat : Int) = wrap64 ((numB r : Int) * 2 ^ E) % 256 := by
              have e1 : ((numB r : Int) * 2 ^ E) = ((numB r * 2 ^ E : Nat) : Int) := by simp
              rw [e1, wrap_small _ (by omega), UInt8.toNat_ofNat']
              omega
            rw [hE, Nat.add_sub_cancel_left] at HAE
            obtain ⟨a9, c9, w9, hr9, ho9, hg9, hp9⟩ := append_one how (UInt8.ofNat (numB r * 2 ^ E)) _ hen rfl (by omega) HB9.out.size
            have HR9 := hid hr9
            have HO10 := hid ho9
            have HB10 := hid (one_below HB9.out how hg9 HB9.out.size)
            obtain ⟨yl, hyl⟩ : ∃ yl, yl = xs.length := ⟨_, rfl⟩
            rw [← hyl] at HR9 HO10 ⊢
            have HYL := hid hyl
            rw [hE]
            obtain ⟨rl, hrl2⟩ : ∃ rl, rl = r.length := ⟨_, rfl⟩
            rw [← hrl2] at hgt ⊢
            clear hr9 ho9 hg9 hp9 hen h256 hmul hE hyl how hxl hrl hnr h0 hrl2 HR0 HO9 t1 t2
            generalize numB r = H at *
            go_wp2_with (first | (at_builtin; refine wpList_append_run rfl _ _ 22 rfl _ _ (.slice a9 (yl + 1) c9) w9 rfl rfl HR9.out ?_) | fail)
            go_ret2
            refine ⟨a9, c9, ?_⟩
            rw [HAE.out]
            simp only [cutted, List.length_append, ← HYL.out]
            exact ⟨rfl, HO10.out, HB10.out⟩
        | false =>
          rw [if_neg (by decide)] at HAE
          obtain ⟨yl, hyl⟩ : ∃ yl, yl = xs.length := ⟨_, rfl⟩
          rw [← hyl] at HO9 ⊢
          have HYL := hid hyl
          have hrb : r.length ≤ 8 := by omega
          generalize r.length = rl at *
          generalize numB r = H at *
          clear hyl how hxl HR0
          by_cases h1 : F ≤ rl
          · rw [if_pos (Or.inl h1)] at HAE
            have e1 : (F : Int) ≤ (rl : Int) := by omega
            go_wp2_with fail
            go_ret2
            refine ⟨none, 0, ?_⟩
            rw [HAE.out]
            exact ⟨rfl, own_none _ _, HB9.out⟩
          · have e1 : ¬ (F : Int) ≤ (rl : Int) := by omega
            by_cases h2 : H = 0
            · rw [if_neg (by omega)] at HAE
              subst h2
              go_wp2_with fail
              go_ret2
              refine ⟨a, c, ?_⟩
              rw [HAE.out]
              simp only [cutted, ← HYL.out]
              exact ⟨rfl, HO9.out, HB9.out⟩
            · rw [if_pos (Or.inr h2)] at HAE
              have e2 : ((H : Int) == 0) = false := by simp; omega
              go_wp2_with fail
              go_ret2
              refine ⟨none, 0, ?_⟩
              rw [HAE.out]
              exact ⟨rfl, own_none _ _, HB9.out⟩
end Go.Proofs.YtelfogdcijmenaaDoor
