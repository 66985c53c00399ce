/- One more secret is heard. -/
import Derived.Test.YtmdiggbbgcjcnaaDoorSdF
namespace Go.Proofs.YtmdiggbbgcjcnaaDoor
open Go.RowKit

theorem heap_setCells (b : Nat) (t : TypeId) : ∀ (vs pre old : List Value) (w : World), old.length = vs.length → w.heap[b]? = some (.cells (pre ++ old).toArray t (0, 0)) →
    (w.setCells b pre.length vs).heap[b]? = some (.cells (pre ++ vs).toArray t (0, 0))
  | [], pre, old, w, hl, h => by
    have : old = [] := List.eq_nil_of_length_eq_zero (by simpa using hl)
    subst this; exact h
  | v :: r, pre, [], _, hl, _ => by simp at hl
  | v :: r, pre, o :: old, w, hl, h => by
    have h1 : (w.setCell ⟨b, pre.length, none⟩ v).heap[b]? = some (.cells ((pre ++ [v]) ++ old).toArray t (0, 0)) := by
      simp [World.setCell, Array.getElem?_modify, h]
    have h2 := heap_setCells b t r (pre ++ [v]) old _ (by simpa using hl) h1
    have e : (pre ++ [v]).length = pre.length + 1 := by simp
    rw [e] at h2
    show ((w.setCell ⟨b, pre.length, none⟩ v).setCells b (pre.length + 1) r).heap[b]? = _
    rw [h2]; simp
theorem frx_setCells {B b : Nat} {w0 : World} : ∀ (vs : List Value) (o : Nat) (w : World), Frx B b w0 w → Frx B b w0 (w.setCells b o vs)
  | [], _, _, h => h
  | v :: r, o, _, h => frx_setCells r (o + 1) _ (h.setCell o v)
theorem frx_below {b : Nat} {w w' : World} (h : Below w.heap.size w w') : Frx w.heap.size b w w' := ⟨h.os, h.tape, h.output, h.size, fun k hk _ => h.block k hk⟩

theorem Sto.there {w : World} {g c : Nat} {R : Nat → Bs} (h : Sto w g c R) : w.there g 1 21 := fun j hj => by
  refine ⟨?_, by simp [World.frozen?, (show w.heap[g]? = _ from h)]⟩
  rw [h.range j _ (rowL_get R hj)]; rfl
theorem Sto.put {w0 w : World} {g c : Nat} {R : Nat → Bs} (h : Sto w g c R) (hf : Frx w0.heap.size g w0 w) (R' : Nat → Bs) (c' : Nat) :
    (Instr.storeAt 50 (.pointer (some ⟨g, 1, none⟩)) (.agg (rowL R').toArray)).run Tryd.prog w = .ok () (w.setCells g 1 (rowL R')) ∧
    (w.setCells g 1 (rowL R')).cell? ⟨g, 0, none⟩ = some (.int .i64 (c : Int)) ∧ (w.setCells g 1 (rowL R')).frozen? ⟨g, 0, none⟩ = false ∧
    Sto ((w.setCells g 1 (rowL R')).setCell ⟨g, 0, none⟩ (.int .i64 (c' : Int))) g c' R' ∧ Frx w0.heap.size g w0 ((w.setCells g 1 (rowL R')).setCell ⟨g, 0, none⟩ (.int .i64 (c' : Int))) := by
  have h1 : (w.setCells g 1 (rowL R')).heap[g]? = some (.cells (.int .i64 (c : Int) :: rowL R').toArray 52 (0, 0)) :=
    heap_setCells g 52 (rowL R') [.int .i64 (c : Int)] (rowL R) w (by rw [rowL_len, rowL_len]) h
  refine ⟨?_, (cell_of_heap h1 0).trans rfl, by simp [World.frozen?, h1], ?_, (frx_setCells _ _ _ hf).setCell _ _⟩
  · have := run_storeAt_mid (P := Tryd.prog) w g 1 50 (rowL R').toArray (by rw [List.size_toArray, rowL_len]; exact h.there) (by rw [List.size_toArray, rowL_len]; exact i50) (all_oneCell_toArray (rowL_one R'))
    simpa using this
  · unfold Sto
    simp [World.setCell, Array.getElem?_modify, h1]

/-- what Add answers, and what is kept behind it -/
def addF (c : Nat) (R : Nat → Bs) (i : Int) (t : Bs) : Nat × Nat × (Nat → Bs) :=
  if i < 0 ∨ i ≠ 1048575 - (c : Int) then (2, c, R) else if Tm.deep t = 0 then (10, c, R)
  else if okB R (Sd.low i.toNat) i.toNat t then (0, c + 1, addR R (Sd.low i.toNat) t) else (150, c, R)

set_option maxHeartbeats 2000000 in
set_option maxRecDepth 100000 in
theorem add_any {w : World} {g c : Nat} {R : Nat → Bs} (i : Int) (t : Bs) (h : Sto w g c R) (hc : c ≤ 1048576) (hp : Pw w) (hz : Tz w) :
    Calls Tryd.prog 13 #[.pointer (some ⟨g, 0, none⟩), .int .i64 i, St t] w fun e w' => e = .returned (.int .i64 ((addF c R i t).1 : Int)) ∧ Sto w' g (addF c R i t).2.1 (addF c R i t).2.2 ∧ Frx w.heap.size g w w' := by
  have HST0 := hid h
  have HC26 : Hid (Calls Tryd.prog 26 #[.pointer (some ⟨g, 0, none⟩)] w fun e w' => e = .returned (.int .i64 (1048576 - (c : Int))) ∧ w' = w) := hid (last_any h.count hc)
  have HP := hid hp
  have HZ := hid hz
  have hw1 : IntKind.i64.wrap (1048576 - (c : Int) - 1) = 1048575 - (c : Int) := by rw [IntKind.wrap_i64]; omega
  obtain ⟨r, hr⟩ : ∃ r, r = addF c R i t := ⟨_, rfl⟩
  have HR := hid hr
  rw [← hr]
  clear hr hp hz h
  by_cases h0 : i < 0
  · have HRS : Hid (r = (2, c, R)) := hid (by rw [HR.out, addF, if_pos (Or.inl h0)])
    clear hc
    go_enter Tryd.func13, Tryd.ntmps13
    go_wp2_with fail
    go_ret
    rw [HRS.out]
    exact ⟨rfl, HST0.out, Frx.refl _ _ _⟩
  · by_cases h1 : i = 1048575 - (c : Int)
    · obtain ⟨n, hn⟩ : ∃ n : Nat, i = (n : Int) := ⟨i.toNat, by omega⟩
      subst hn
      have HN : Hid (n < 1048576) := hid (by omega)
      have hRS0 : r = if Tm.deep t = 0 then (10, c, R) else if okB R (Sd.low n) n t then (0, c + 1, addR R (Sd.low n) t) else (150, c, R) := by
        rw [HR.out, addF, if_neg (by omega)]; simp
      by_cases hd : Tm.deep t = 0
      · have HRS : Hid (r = (10, c, R)) := hid (by rw [hRS0, if_pos hd])
        have HD := hid hd
        clear hd hRS0 hc
        go_enter Tryd.func13, Tryd.ntmps13
        go_wp2_with fail
        refine HC26.out.mono ?_
        rintro e w1 ⟨rfl, rfl⟩
        go_wp2_with fail
        refine (right_list t _).mono ?_
        rintro e w2 ⟨rfl, hb⟩
        have HB := hid hb
        clear hb
        rw [HD.out]
        go_wp2_with fail
        go_ret
        rw [HRS.out]
        exact ⟨rfl, HST0.out.below HB.out, frx_below HB.out⟩
      · have hRS1 : r = if okB R (Sd.low n) n t then (0, c + 1, addR R (Sd.low n) t) else (150, c, R) := by rw [hRS0, if_neg hd]
        have HD : Hid ((Tm.deep t != 0) = true) := hid (by simpa using hd)
        have HTL := hid (deep_len hd)
        have HCB : Hid (c < 1048576) := hid (by omega)
        clear hd hRS0 hc
        go_enter Tryd.func13, Tryd.ntmps13
        go_wp2_with fail
        refine HC26.out.mono ?_
        rintro e w1 ⟨rfl, rfl⟩
        go_wp2_with fail
        refine (right_list t _).mono ?_
        rintro e w2 ⟨rfl, hb⟩
        have HB := hid hb
        clear hb
        rw [HD.out]
        have HS2 := hid (HST0.out.below HB.out)
        have HLW := hid HS2.out.row
        have HWI := with_any R n t w2 HN.out HTL.out (HP.out.below HB.out) (HZ.out.below HB.out)
        rw [h1] at HWI
        have HWI := hid HWI
        have HZ50 := hid (zero_of_info z50).1
        generalize (rowL R).toArray = AR at HLW HWI
        go_wp2_with (first | (refine wpList_load_run rfl (.tmp 29) 50 rfl _ (.agg AR) rfl HLW.out ?_) | fail)
        refine HWI.out.mono ?_
        rintro e w3 ⟨rfl, hb3⟩
        have HB3 := hid (HB.out.trans (hb3.mono HB.out.size))
        clear hb3 HWI HLW
        have hzz := HZ50.out
        obtain ⟨Z, hZ⟩ : ∃ Z, Z = (rowL (fun _ => [])).toArray := ⟨_, rfl⟩
        have HZS : Hid (Z.size = 21) := hid (by rw [hZ, List.size_toArray, rowL_len])
        rw [← hZ] at hzz
        clear hZ
        have HST3 := hid (HST0.out.below HB3.out)
        cases hok : okB R (Sd.low n) n t with
        | true =>
          have HRS : Hid (r = (0, c + 1, addR R (Sd.low n) t)) := hid (by rw [hRS1, hok]; rfl)
          have hwr : withRes R n t = (addR R (Sd.low n) t, true) := by rw [withRes, hok]; rfl
          rw [hwr]
          clear hok hwr hRS1
          generalize addR R (Sd.low n) t = R2 at HRS ⊢
          have hst : (Instr.storeAt 50 (.pointer (some ⟨w3.heap.size, 0, none⟩)) (.agg (rowL R2).toArray)).run Tryd.prog (w3.alloc (.cells Z 50)) = .ok () (w3.alloc (.cells (rowL R2).toArray 50)) :=
            run_storeAt_new w3 50 Z _ (by rw [List.size_toArray, rowL_len]; exact i50) (by rw [HZS.out, List.size_toArray, rowL_len]) (all_oneCell_toArray (rowL_one R2))
          have hld : (Instr.loadAt 50 (.pointer (some ⟨w3.heap.size, 0, none⟩))).run Tryd.prog (w3.alloc (.cells (rowL R2).toArray 50)) = .ok (.agg (rowL R2).toArray) (w3.alloc (.cells (rowL R2).toArray 50)) :=
            run_loadAt_new w3 50 _ 21 22 u50 (by rw [List.size_toArray, rowL_len]; exact i50)
          have hf4 : Frx w1.heap.size g w1 (w3.alloc (.cells (rowL R2).toArray 50)) := frx_below (HB3.out.alloc HB3.out.size _)
          obtain ⟨hst2, hc0, hf0, hs5, hf5⟩ := Sto.put (HST3.out.below ((Below.refl _ w3).alloc (Nat.le_refl _) (.cells (rowL R2).toArray 50))) hf4 R2 (c + 1)
          have HST := hid hst
          have HLD := hid hld
          have HST2 := hid hst2
          have HS5 := hid hs5
          have HF5 := hid hf5
          have hw5 : IntKind.i64.wrap ((c : Int) + 1) = ((c + 1 : Nat) : Int) := by rw [IntKind.wrap_i64]; have := HCB.out; omega
          clear hst hld hst2 hs5 hf5 hf4
          generalize (w3.alloc (.cells (rowL R2).toArray 50)).setCells g 1 (rowL R2) = w5 at *
          generalize (rowL R2).toArray = AR2 at *
          go_wp2_with (first | (refine wpList_store_run rfl (.tmp 7) (.tmp 34) 50 rfl _ (.agg AR2) rfl rfl HST.out ?_) | (refine wpList_load_run rfl (.tmp 7) 50 rfl _ (.agg AR2) rfl HLD.out ?_) | (refine wpList_store_run rfl (.tmp 41) (.tmp 39) 50 rfl _ (.agg AR2) rfl rfl HST2.out ?_) | fail)
          go_ret
          rw [HRS.out]
          have hs := HS5.out
          have hf := HF5.out
          have e5 : (((c + 1 : Nat)) : Int) = (c : Int) + 1 := by omega
          rw [e5] at hs hf
          exact ⟨rfl, hs, hf⟩
        | false =>
          have HRS : Hid (r = (150, c, R)) := hid (by rw [hRS1, hok]; rfl)
          have hwr : withRes R n t = (fun _ => [], false) := by rw [withRes, hok]; rfl
          rw [hwr]
          clear hok hwr hRS1
          generalize (fun _ => ([] : Bs)) = R2 at HRS ⊢
          have hst : (Instr.storeAt 50 (.pointer (some ⟨w3.heap.size, 0, none⟩)) (.agg (rowL R2).toArray)).run Tryd.prog (w3.alloc (.cells Z 50)) = .ok () (w3.alloc (.cells (rowL R2).toArray 50)) :=
            run_storeAt_new w3 50 Z _ (by rw [List.size_toArray, rowL_len]; exact i50) (by rw [HZS.out, List.size_toArray, rowL_len]) (all_oneCell_toArray (rowL_one R2))
          have HST := hid hst
          have HB4 := hid (HB3.out.alloc HB3.out.size (.cells (rowL R2).toArray 50))
          clear hst
          generalize (rowL R2).toArray = AR2 at *
          go_wp2_with (first | (refine wpList_store_run rfl (.tmp 7) (.tmp 34) 50 rfl _ (.agg AR2) rfl rfl HST.out ?_) | fail)
          go_ret
          rw [HRS.out]
          exact ⟨rfl, HST0.out.below HB4.out, frx_below HB4.out⟩
    · have HRS : Hid (r = (2, c, R)) := hid (by rw [HR.out, addF, if_pos (Or.inr h1)])
      have h1' : (i == 1048575 - (c : Int)) = false := by simpa using h1
      clear hc
      go_enter Tryd.func13, Tryd.ntmps13
      go_wp2_with fail
      refine HC26.out.mono ?_
      rintro e w1 ⟨rfl, rfl⟩
      go_wp2_with fail
      go_ret
      rw [HRS.out]
      exact ⟨rfl, HST0.out, Frx.refl _ _ _⟩
end Go.Proofs.YtmdiggbbgcjcnaaDoor
