/- The program's Hex. -/
import Derived.Test.YtkeppcpplkdkaaaDoorDSum
import Derived.Laws.IdiomStrings
namespace Go.Proofs.YtkeppcpplkdkaaaDoor
open Go.RowKit

/-- the digits -/
def dgs : List UInt8 := [48, 49, 50, 51, 52, 53, 54, 55, 56, 57, 97, 98, 99, 100, 101, 102]
def dg (x : Int) : UInt8 := dgs.getD x.toNat 0
/-- bytes as digits -/
def hx (l : List Int) : Bs := l.flatMap fun x => [dg (x / 16), dg (x % 16)]
theorem hx_len (l : List Int) : (hx l).length = 2 * l.length := by
  induction l with
  | nil => rfl
  | cons x l ih => simp only [hx, List.flatMap_cons, List.length_append, List.length_cons, List.length_nil] at *; omega
theorem hx_snoc (l : List Int) (x : Int) : hx (l ++ [x]) = hx l ++ [dg (x / 16), dg (x % 16)] := by simp [hx]
theorem take_one (l : List Int) (n : Nat) (h : n < l.length) : l.take (n + 1) = l.take n ++ [l.getD n 0] := by
  rw [List.take_succ_eq_append_getElem h]; simp [List.getD, h]

theorem and15 : ∀ x : Fin 256, bits .and .u8 (x.val : Int) 15 = (x.val : Int) % 16 := by decide +kernel
theorem dg_get (x : Int) (h0 : 0 ≤ x) (h1 : x < 16) (h : x.toNat < ByteArray.size ⟨#[48, 49, 50, 51, 52, 53, 54, 55, 56, 57, 97, 98, 99, 100, 101, 102]⟩) : (⟨#[48, 49, 50, 51, 52, 53, 54, 55, 56, 57, 97, 98, 99, 100, 101, 102]⟩ : ByteArray)[x.toNat] = dg x := by
  obtain ⟨n, rfl⟩ : ∃ n : Nat, x = (n : Int) := ⟨x.toNat, by omega⟩
  rcases (by omega : n = 0 ∨ n = 1 ∨ n = 2 ∨ n = 3 ∨ n = 4 ∨ n = 5 ∨ n = 6 ∨ n = 7 ∨ n = 8 ∨ n = 9 ∨ n = 10 ∨ n = 11 ∨ n = 12 ∨ n = 13 ∨ n = 14 ∨ n = 15) with rfl | rfl | rfl | rfl | rfl | rfl | rfl | rfl | rfl | rfl | rfl | rfl | rfl | rfl | rfl | rfl <;> rfl
theorem Tryd.zero36 : (Tryd.prog.info? 36).map (·.zero) = some (some (.agg (bys (noughts 64)).toArray)) := by kernel_rfl
theorem zero36_run (w : World) : (zeroValue 36).run Tryd.prog w = .ok (.agg (bys (noughts 64)).toArray) w := by
  obtain ⟨i, hi, hz⟩ := Option.map_eq_some_iff.1 Tryd.zero36
  simp [zeroValue, typeInfo, hi, hz, go_sem]

set_option maxHeartbeats 4000000 in
set_option maxRecDepth 100000 in
theorem hex_any (w : World) (a : Option Addr) (cap : Nat) (c : Bs) (hs : Sz w a cap c) (hl : c.length < 1000000) (hkc : KC w) : Calls Tryd.prog 9 #[.slice a c.length cap] w fun en w' => en = .returned (.string ⟨(hx (outs (sumS c))).toArray⟩) ∧ Below w.heap.size w w' := by
  have HS := hid hs
  have HKC := hid hkc
  have HL := hid hl
  clear hs hkc hl
  have hz1 := zero36_run
  have hz2 := zero23_run
  obtain ⟨Z36, hZ36⟩ : ∃ Z, Z = bys (noughts 64) := ⟨_, rfl⟩
  obtain ⟨Z23, hZ23⟩ : ∃ Z, Z = bys (noughts 32) := ⟨_, rfl⟩
  rw [← hZ36] at hz1
  rw [← hZ23] at hz2
  have HZL : Hid (Z36.length = 64) := by apply hid; rw [hZ36]; rfl
  have HZS : Hid (Z23.toArray.size = 32) := by apply hid; rw [hZ23]; rfl
  clear hZ36 hZ23
  obtain ⟨n, hn⟩ : ∃ n, n = c.length := ⟨_, rfl⟩
  rw [← hn]
  have HN := hid hn
  clear hn
  have HC : Hid (Calls Tryd.prog 7 #[.slice a n cap] w fun en w' => en = .returned (vsum (sumS c)) ∧ Below w.heap.size w w') := by apply hid; rw [HN.out]; exact sum_any w a cap c HS.out HL.out HKC.out
  go_enter Tryd.func9, Tryd.ntmps9
  go_wp2_with fail
  refine HC.out.mono ?_
  rintro e w1 ⟨rfl, hb⟩
  have HB1 := hid hb
  clear hb HC
  have HO : Hid ((u8s (outs (sumS c))).toArray.size = 32) := hid rfl
  have HO1 : Hid ((u8s (outs (sumS c))).toArray.all (·.oneCell') = true) := hid (u8s_one _)
  unfold vsum
  obtain ⟨l, hl⟩ : ∃ l, l = outs (sumS c) := ⟨_, rfl⟩
  rw [← hl] at HO HO1 ⊢
  have HLL : Hid (l.length = 32) := by apply hid; rw [hl]; rfl
  have HRG : Hid (∀ x ∈ l, 0 ≤ x ∧ x < 256) := by apply hid; rw [hl]; exact outs_rng _
  have HEQ := hid hl
  clear hl
  have HOC : Hid (∀ i, i < 32 → (u8s l).toArray[i]? = some (.int .u8 (l.getD i 0))) := by
    apply hid; intro i hi; have := HLL.out; simp [show i < l.length by omega]
  generalize (u8s l).toArray = OO at HO HO1 HOC ⊢
  have HZ : Hid ((Tryd.prog.info? 23).map (·.size) = some OO.size) := by apply hid; rw [HO.out]; exact Tryd.size23
  go_wp2_with (refine wpList_store_arr _ rfl (.tmp 3) (.tmp 7) 23 rfl rfl w1.heap.size 23 Z23.toArray OO rfl rfl (heap_alloc_new w1 _) HZ.out (by rw [HZS.out, HO.out]) HO1.out ?_; rw [World.setRow_alloc_new])
  have HB2 : Hid (Below w.heap.size w ((w1.alloc (.cells OO 23)).alloc (.cells Z36.toArray 36))) := hid ((HB1.out.alloc HB1.out.size _).alloc (by have := HB1.out.size; simp; omega) _)
  have HG3 : Hid (((w1.alloc (.cells OO 23)).alloc (.cells Z36.toArray 36)).heap[w1.heap.size]? = some (.cells OO 23 (0, 0))) := by apply hid; rw [Below.heap_alloc _ _ _ (by simp)]; exact heap_alloc_new w1 _
  have HG4 : Hid (((w1.alloc (.cells OO 23)).alloc (.cells Z36.toArray 36)).heap[w1.heap.size + 1]? = some (.cells (splice Z36 0 (bys (hx (l.take 0)))).toArray 36 (0, 0))) := by
    apply hid; rw [show splice Z36 0 (bys (hx (l.take 0))) = Z36 from splice_nil _ _]
    have := heap_alloc_new (w1.alloc (.cells OO 23)) (.cells Z36.toArray 36); rw [show (w1.alloc (.cells OO 23)).heap.size = w1.heap.size + 1 by simp] at this; exact this
  have HW1 := hid HB1.out.size
  generalize (w1.alloc (.cells OO 23)).alloc (.cells Z36.toArray 36) = w2 at HB2 HG3 HG4 ⊢
  generalize w1.heap.size = g at HG3 HG4 HW1 ⊢
  clear hz1 hz2 HB1 HZ HO HO1
  go_loopg [8] 32 (fun gg vi wr => ∃ i : Nat, i ≤ 32 ∧ gg = 32 - i ∧ vi = .int .i64 (i : Int) ∧ Below w.heap.size w wr ∧ wr.heap[g]? = some (.cells OO 23 (0, 0)) ∧ wr.heap[g + 1]? = some (.cells (splice Z36 0 (bys (hx (l.take i)))).toArray 36 (0, 0)))
  case atStart => exact ⟨0, by omega, rfl, rfl, HB2.out, HG3.out, HG4.out⟩
  case round =>
    clear HB2 HG3 HG4
    obtain ⟨i, hi, rfl, rfl, hB, hG, hT⟩ := hrel
    have HB := hid hB
    have HG := hid hG
    have HT := hid hT
    clear hB hG hT
    by_cases hil : i < 32
    · obtain ⟨I, hI⟩ : ∃ I : Int, I = (i : Int) := ⟨_, rfl⟩
      have hi1 : I < 32 := by omega
      have hi0 : 0 ≤ I := by omega
      have hti : I.toNat = i := by omega
      have ht2 : (2 * I).toNat = 2 * i := by omega
      have ht3 : (2 * I + 1).toNat = 2 * i + 1 := by omega
      obtain ⟨x, hx0⟩ : ∃ x, x = l.getD i 0 := ⟨_, rfl⟩
      have hxr : 0 ≤ x ∧ x < 256 := by
        rw [hx0]; apply HRG.out; have := HLL.out; rw [List.getD_eq_getElem?_getD, List.getElem?_eq_getElem (by omega)]; exact List.getElem_mem _
      have hcx : wr.cell? ⟨g, i, none⟩ = some (.int .u8 x) := by rw [cell_of_heap HG.out, HOC.out i hil, hx0]
      have hand : bits .and .u8 x 15 = x % 16 := by
        have := and15 ⟨x.toNat, by omega⟩
        simp only [show ((x.toNat : Nat) : Int) = x by omega] at this
        exact this
      have hx0' := hxr.1
      have hx1' := hxr.2
      have HI := hid hI
      have HX := hid hx0
      rw [← hI]
      have HHL : Hid ((bys (hx (l.take i))).length = 2 * i) := by apply hid; rw [List.length_map, hx_len, List.length_take]; have := HLL.out; omega
      obtain ⟨v0, hv0⟩ : ∃ v, wr.cell? ⟨g + 1, 2 * i, none⟩ = some v := by
        rw [cell_of_heap HT.out]; exact ⟨_, Array.getElem?_eq_getElem (by rw [List.size_toArray, length_splice _ _ _ (by rw [HHL.out, HZL.out]; omega), HZL.out]; omega)⟩
      obtain ⟨v1, hv1⟩ : ∃ v, wr.cell? ⟨g + 1, 2 * i + 1, none⟩ = some v := by
        rw [cell_of_heap HT.out]; exact ⟨_, Array.getElem?_eq_getElem (by rw [List.size_toArray, length_splice _ _ _ (by rw [HHL.out, HZL.out]; omega), HZL.out]; omega)⟩
      have hfz := fun o => frozen_of_heap HT.out o
      clear hI hxr hx0
      go_wp2_with fail
      go_roundg (32 - (i + 1))
      case measure => omega
      case rel =>
        refine ⟨i + 1, by omega, rfl, by rw [HI.out]; rfl, ?_, ?_, ?_⟩
        · exact below_setCell (below_setCell HB.out (by have := HW1.out; omega)) (by have := HW1.out; omega)
        · rw [Below.heap_setCell _ _ _ _ (by simp), Below.heap_setCell _ _ _ _ (by simp)]; exact HG.out
        · rw [dg_get (x / 16) (by omega) (by omega) (by show _ < 16; omega), dg_get (x % 16) (by omega) (by omega) (by show _ < 16; omega)]
          have h1 := heap_setCell_same HT.out (2 * i) (.int .u8 ((dg (x / 16)).toNat : Int))
          have h2 := heap_setCell_same h1 (2 * i + 1) (.int .u8 ((dg (x % 16)).toNat : Int))
          rw [h2]
          have e1 : splice Z36 0 (bys (hx (l.take (i + 1)))) = splice Z36 0 (bys (hx (l.take i)) ++ [.int .u8 ((dg (x / 16)).toNat : Int)] ++ [.int .u8 ((dg (x % 16)).toNat : Int)]) := by
            rw [take_one l i (by rw [HLL.out]; omega), ← HX.out, hx_snoc]; simp [bys]
          rw [e1, ← splice_set (by rw [List.length_append, HHL.out, HZL.out]; simp; omega), ← splice_set (by rw [HHL.out, HZL.out]; omega)]
          rw [List.length_append, HHL.out, Nat.zero_add, List.length_singleton, Nat.zero_add]
    · have hil' : ¬ (i : Int) < 32 := by omega
      obtain rfl : i = 32 := by omega
      have hl32 : l.take 32 = l := List.take_of_length_le (by have := HLL.out; omega)
      have HLN : Hid ((hx l).length = 64) := by apply hid; rw [hx_len, HLL.out]
      have hcv : (convert 22 9 (.slice (some ⟨g + 1, 0, none⟩) 64 64)).run Tryd.prog wr = .ok (.string ⟨(hx l).toArray⟩) wr := by
        have h := run_convert_bytes_back (P := Tryd.prog) wr 22 9 5 ⟨g + 1, 0, none⟩ 64 (hx l) Tryd.underlying22 Tryd.underlying5 Tryd.underlying9 (fun j hj => by
          have hT := HT.out
          rw [hl32] at hT
          rw [add_off, cell_of_heap hT, List.getElem?_toArray, splice, List.take_zero, List.nil_append, List.getElem?_append_left (by simpa using hj)]
          simp [List.getElem?_eq_getElem hj])
        rw [HLN.out] at h
        exact h
      clear hil hi hl32
      go_wp2_with fail
      go_ret
      exact ⟨by rw [← HEQ.out]; rfl, HB.out⟩
end Go.Proofs.YtkeppcpplkdkaaaDoor
