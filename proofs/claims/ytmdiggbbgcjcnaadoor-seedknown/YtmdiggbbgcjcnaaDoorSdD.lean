/- A store that is new, a copy, and what a store tells. -/
import Derived.Test.YtmdiggbbgcjcnaaDoorSdC
namespace Go.Proofs.YtmdiggbbgcjcnaaDoor
open Go.RowKit

theorem wpList_load_run {P : Program} {w : World} {ops : Array Oper} {rest : List Oper} {o : Oper} {a : Act} {Q : Exit → Act → World → Prop} (hgd : o.guard = none) (x : Operand) (t : TypeId)
    (ho : o.op = .load t x) (p v : Value) (hx : a.eval x = p) (hrun : (Instr.loadAt t p).run P w = .ok v w) (h : wpList P ops Q rest (a.put o.dst v) w) : wpList P ops Q (o :: rest) a w := by
  refine wpList_plain hgd fun K hK => ?_
  unfold Oper.wp
  simp [execOp, ho, hx, hrun, Result.andThen]
  exact hK _ _ h
theorem wpList_store_run {P : Program} {w w' : World} {ops : Array Oper} {rest : List Oper} {o : Oper} {a : Act} {Q : Exit → Act → World → Prop} (hgd : o.guard = none) (x y : Operand) (t : TypeId)
    (ho : o.op = .store t x y) (p v : Value) (hx : a.eval x = p) (hy : a.eval y = v) (hrun : (Instr.storeAt t p v).run P w = .ok () w') (h : wpList P ops Q rest (a.put o.dst undef) w') : wpList P ops Q (o :: rest) a w := by
  refine wpList_plain hgd fun K hK => ?_
  unfold Oper.wp
  simp [execOp, ho, hx, hy, hrun, Result.andThen]
  exact hK _ _ h

theorem z52 : (Tryd.prog.info? 52).map (fun i => (i.zero, i.size)) = some (some (.agg (.int .i64 0 :: rowL (fun _ => [])).toArray), 22) := by kernel_rfl

set_option maxHeartbeats 1000000 in
set_option maxRecDepth 100000 in
theorem new_any (w : World) : Calls Tryd.prog 11 #[] w fun e w' => e = .returned (.pointer (some ⟨w.heap.size, 0, none⟩)) ∧ w' = w.alloc (.cells (.int .i64 0 :: rowL (fun _ => [])).toArray 52) := by
  have hz := (zero_of_info z52).1
  generalize (.int .i64 0 :: rowL (fun _ => [])).toArray = A at hz ⊢
  go_enter Tryd.func11, Tryd.ntmps11
  go_wp2_with fail
  go_ret
  exact ⟨rfl, rfl⟩

set_option maxHeartbeats 1000000 in
set_option maxRecDepth 100000 in
theorem copy_any {w : World} {g c : Nat} {R : Nat → Bs} (h : Sto w g c R) : Calls Tryd.prog 17 #[.pointer (some ⟨g, 0, none⟩)] w fun e w' => e = .returned (.pointer (some ⟨w.heap.size, 0, none⟩)) ∧ w' = w.alloc (.cells (.int .i64 (c : Int) :: rowL R).toArray 52) := by
  have hz := (zero_of_info z52).1
  have hl := h.whole
  obtain ⟨Z, hZ⟩ : ∃ Z, Z = (.int .i64 0 :: rowL (fun _ => [])).toArray := ⟨_, rfl⟩
  obtain ⟨A, hA⟩ : ∃ A, A = (.int .i64 (c : Int) :: rowL R).toArray := ⟨_, rfl⟩
  have HZ : Hid (Z.size = A.size) := hid (by rw [hZ, hA]; simp [rowL_len])
  have HI : Hid ((Tryd.prog.info? 52).map (·.size) = some A.size) := hid (by rw [hA, List.size_toArray, List.length_cons, rowL_len]; exact i52)
  have H1 : Hid (A.all (·.oneCell') = true) := hid (by
    rw [hA]
    refine all_oneCell_toArray fun v hv => ?_
    rcases List.mem_cons.1 hv with e | e
    · subst e; rfl
    · exact rowL_one R v e)
  have hst : (Instr.storeAt 52 (.pointer (some ⟨w.heap.size, 0, none⟩)) (.agg A)).run Tryd.prog (w.alloc (.cells Z 52)) = .ok () (w.alloc (.cells A 52)) := run_storeAt_new w 52 Z A HI.out HZ.out H1.out
  rw [← hZ] at hz
  rw [← hA] at hl ⊢
  clear hZ hA HZ HI H1 h
  have HLD := hid hl
  have HST := hid hst
  clear hl hst
  go_enter Tryd.func17, Tryd.ntmps17
  go_wp2_with (first | (refine wpList_load_run rfl (.tmp 7) 52 rfl _ (.agg A) rfl HLD.out ?_) | (refine wpList_store_run rfl (.tmp 3) (.tmp 8) 52 rfl _ (.agg A) rfl rfl HST.out ?_) | fail)
  go_ret
  exact ⟨rfl, rfl⟩

theorem sto_new {w : World} {g c : Nat} {R : Nat → Bs} (h : g = w.heap.size) : Sto (w.alloc (.cells (.int .i64 (c : Int) :: rowL R).toArray 52)) g c R := by
  subst h; exact heap_alloc_new w _

theorem below_dr (w : World) : Below w.heap.size w w.drew := ⟨rfl, rfl, rfl, Nat.le_refl _, fun _ _ => rfl⟩
theorem mkr_len (R : Nat → Bs) (hR : ∀ k, (R k).length ≤ 20000) : ∀ n k a, (Sd.mkr R n k a).1.length ≤ 20000
  | 0, _, _ => by simp [Sd.mkr]
  | n + 1, k, a => by
    unfold Sd.mkr
    split
    · exact mkr_len R hR n _ _
    · split
      · exact hR k
      · exact mkr_len R hR n _ _
theorem mkr_le (R : Nat → Bs) : ∀ n k a, n + k ≤ 21 → (Sd.mkr R n k a).2 ≤ 20
  | 0, _, _, _ => by simp [Sd.mkr]
  | n + 1, k, a, h => by
    unfold Sd.mkr
    split
    · exact mkr_le R n _ _ (by omega)
    · split
      · show k ≤ 20; omega
      · exact mkr_le R n _ _ (by omega)

/-- what a store tells of a place -/
def getRes (c : Nat) (R : Nat → Bs) (i : Int) : Bs × Nat := if i < 1048576 - (c : Int) ∨ 1048575 < i then ([], 5) else Sd.fr stp (Sd.mkr R 21 0 (i.toNat - (1048576 - c))).2 i.toNat (Sd.mkr R 21 0 (i.toNat - (1048576 - c))).1

set_option maxHeartbeats 2000000 in
set_option maxRecDepth 100000 in
theorem get_any {w : World} {g c : Nat} {R : Nat → Bs} (i : Int) (h : Sto w g c R) (hc : c ≤ 1048576) (hR : ∀ k, (R k).length ≤ 20000) (hp : Pw w) : Calls Tryd.prog 15 #[.pointer (some ⟨g, 0, none⟩), .int .i64 i] w fun e w' => e = made (getRes c R i) ∧ Below w.heap.size w w' := by
  have HP := hid hp
  have HC26 : Hid (∀ W, Below w.heap.size w W → Calls Tryd.prog 26 #[.pointer (some ⟨g, 0, none⟩)] W fun e w' => e = .returned (.int .i64 (1048576 - (c : Int))) ∧ Below w.heap.size w w') := hid (fun W hW => (last_any (h.below hW).count hc).mono (fun e w' ⟨h1, h2⟩ => ⟨h1, by rw [h2]; exact hW⟩))
  have HC26p : Hid (Calls Tryd.prog 26 #[.pointer (some ⟨g, 0, none⟩)] w fun e w' => e = .returned (.int .i64 (1048576 - (c : Int))) ∧ w' = w) := hid (last_any h.count hc)
  clear hp
  by_cases h0 : i < 1048576 - (c : Int)
  · have HRS : Hid (getRes c R i = ([], 5)) := hid (by unfold getRes; rw [if_pos (Or.inl h0)])
    clear h hR hc HC26
    go_enter Tryd.func15, Tryd.ntmps15
    go_wp2_with fail
    refine HC26p.out.mono ?_
    rintro e w1 ⟨rfl, rfl⟩
    go_wp2_with fail
    go_ret2
    exact ⟨by rw [HRS.out]; rfl, Below.refl _ _⟩
  · by_cases h1 : 1048575 < i
    · have HRS : Hid (getRes c R i = ([], 5)) := hid (by unfold getRes; rw [if_pos (Or.inr h1)])
      clear h hR hc HC26
      go_enter Tryd.func15, Tryd.ntmps15
      go_wp2_with fail
      refine HC26p.out.mono ?_
      rintro e w1 ⟨rfl, rfl⟩
      go_wp2_with fail
      go_ret2
      exact ⟨by rw [HRS.out]; rfl, Below.refl _ _⟩
    · obtain ⟨n, rfl⟩ : ∃ n : Nat, i = (n : Int) := ⟨i.toNat, by omega⟩
      obtain ⟨a, ha⟩ : ∃ a, a = n - (1048576 - c) := ⟨_, rfl⟩
      have HRS : Hid (getRes c R n = Sd.fr stp (Sd.mkr R 21 0 a).2 n (Sd.mkr R 21 0 a).1) := hid (by unfold getRes; rw [if_neg (by omega), ha]; simp)
      have HLn := hid (mkr_len R hR 21 0 a)
      have HLe := hid (mkr_le R 21 0 a (by omega))
      have HN : Hid (n < 9223372036854775808) := hid (by omega)
      have HMK : Hid (∀ W, Below w.heap.size w W → Calls Tryd.prog 30 #[.agg (rowL R).toArray, .int .i64 (a : Int)] W fun e w' => e = .returned (.tuple #[St (Sd.mkr R 21 0 a).1, .int .i64 ((Sd.mkr R 21 0 a).2 : Int)]) ∧ Below w.heap.size w w') := hid (fun W hW => (maker_any R a (by omega) W).mono (fun e w' ⟨q1, q2⟩ => ⟨q1, hW.trans (q2.mono hW.size)⟩))
      have hwa : IntKind.i64.wrap ((n : Int) - (1048576 - (c : Int))) = (a : Int) := by rw [IntKind.wrap_i64]; omega
      have HRG : Hid (∀ W, Below w.heap.size w W → W.rangeAt g 1 (rowL R)) := hid (fun W hW => (h.below hW).range)
      have hi50 : (Tryd.prog.info? 50).map (·.size) = some (rowL R).length := by rw [rowL_len]; exact i50
      have hu50 := u50
      have hs0 := HRG.out w (Below.refl _ _)
      have HS0 := hid hs0
      clear h hR hc ha
      generalize Sd.mkr R 21 0 a = m at HRS HLn HLe HMK
      obtain ⟨x, k⟩ := m
      generalize rowL R = L at HMK HRG hi50 hs0 HS0
      have HI50 := hid hi50
      have HU50 := hid hu50
      clear hi50 hu50
      go_enter Tryd.func15, Tryd.ntmps15
      go_wp2_with fail
      refine HC26p.out.mono ?_
      rintro e w1 ⟨rfl, rfl⟩
      go_wp2_with fail
      have hi50 := HI50.out
      have hu50 := HU50.out
      go_region_held3 (fun W : World => W.rangeAt g 1 L) (first | exact hs0 | exact HRG.out _ (below_dr _) | exact HRG.out _ HXa.out | exact HRG.out _ HXb.out) (first | (go_at_call 26; refine (HC26.out _ (below_dr _)).mono ?_; rintro e xa ⟨rfl, hb⟩; have HXa := hid hb; clear hb) | (go_at_call 30; refine (HMK.out _ HXa.out).mono ?_; rintro e xb ⟨rfl, hb⟩; have HXb := hid hb; clear hb))
      clear hs0 hi50 hu50
      go_wp2_with fail
      refine (fresh_any x _ HLn.out).mono ?_
      rintro e w3 ⟨rfl, hb⟩
      have HB3 := hid (HXb.out.trans (hb.mono HXb.out.size))
      clear hb
      have HF := hid (from_any x k HLe.out n HN.out w3 (HP.out.below HB3.out))
      generalize Sd.fr stp k n x = F at HF HRS
      go_wp2_with fail
      refine HF.out.mono ?_
      rintro e w4 ⟨rfl, hb⟩
      have HB4 := hid (HB3.out.trans (hb.mono HB3.out.size))
      clear hb
      go_wp2_with fail
      go_ret2
      exact ⟨by rw [HRS.out]; rfl, HB4.out⟩
end Go.Proofs.YtmdiggbbgcjcnaaDoor
