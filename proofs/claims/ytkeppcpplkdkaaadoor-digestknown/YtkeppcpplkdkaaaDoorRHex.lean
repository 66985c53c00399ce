/- The document's Hex. -/
import Derived.Test.YtkeppcpplkdkaaaDoorRSum
namespace Go.Proofs.YtkeppcpplkdkaaaDoor
open Go.RowKit

/-- the digits as a text -/
abbrev Dg : ByteArray := ⟨#[48, 49, 50, 51, 52, 53, 54, 55, 56, 57, 97, 98, 99, 100, 101, 102]⟩

theorem dg_ext (x : Int) (h0 : 0 ≤ x) (h1 : x < 16) : Dg.extract x.toNat (x + 1).toNat = ⟨#[dg x]⟩ := by
  obtain ⟨n, rfl⟩ : ∃ n : Nat, x = (n : Int) := ⟨x.toNat, by omega⟩
  rcases (by omega : n = 0 ∨ n = 1 ∨ n = 2 ∨ n = 3 ∨ n = 4 ∨ n = 5 ∨ n = 6 ∨ n = 7 ∨ n = 8 ∨ n = 9 ∨ n = 10 ∨ n = 11 ∨ n = 12 ∨ n = 13 ∨ n = 14 ∨ n = 15) with rfl | rfl | rfl | rfl | rfl | rfl | rfl | rfl | rfl | rfl | rfl | rfl | rfl | rfl | rfl | rfl <;> decide +kernel
theorem slice_str (D : ByteArray) (hD : D.size = 16) (y : Int) (h0 : 0 ≤ y) (h1 : y < 16) (W : World) : (Instr.sliceAt 9 (.string D) (some (.int .i64 y)) (some (.int .i64 (y + 1))) none).run Tryd.prog W = .ok (.string (D.extract y.toNat (y + 1).toNat)) W := by
  have h2 : 0 ≤ y + 1 := by omega
  have h3 : y + 1 ≤ 16 := by omega
  have h4 : y ≤ ((y + 1).toNat : Int) := by omega
  simp [Instr.sliceAt, Instr.slice, Instr.sliceBounds, Instr.sliceBound, asIntOf, run_underlying Tryd.underlying9, hD, h0, h2, h3]
  intro h'; omega
theorem str_two (l : Bs) (a b : UInt8) : (⟨l.toArray⟩ : ByteArray) ++ ⟨#[a]⟩ ++ ⟨#[b]⟩ = ⟨(l ++ [a, b]).toArray⟩ := by
  rw [ByteArray.ext_iff]; simp
set_option maxHeartbeats 4000000 in
set_option maxRecDepth 100000 in
theorem rhex_any (w : World) (a : Option Addr) (cap : Nat) (c : Bs) (hs : Sz w a cap c) (hl : c.length < 10000) : Calls Tryd.prog 10 #[.slice a c.length cap] w fun en w' => en = .returned (.string ⟨(hx (outs (sumS c))).toArray⟩) ∧ Below w.heap.size w w' := by
  have HS := hid hs
  have HL := hid hl
  clear hs hl
  have hz2 := zero23_run
  obtain ⟨Z23, hZ23⟩ : ∃ Z, Z = bys (noughts 32) := ⟨_, rfl⟩
  rw [← hZ23] at hz2
  have HZS : Hid (Z23.toArray.size = 32) := by apply hid; rw [hZ23]; rfl
  clear hZ23
  obtain ⟨n, hn⟩ : ∃ n, n = c.length := ⟨_, rfl⟩
  rw [← hn]
  have HN := hid hn
  clear hn
  have HC : Hid (Calls Tryd.prog 8 #[.slice a n cap] w fun en w' => en = .returned (vsum (sumS c)) ∧ Below w.heap.size w w') := by apply hid; rw [HN.out]; exact rsum_any w a cap c HS.out HL.out
  go_enter Tryd.func10, Tryd.ntmps10
  go_wp2_with fail
  refine HC.out.mono ?_
  rintro e w1 ⟨rfl, hb⟩
  have HB1 := hid hb
  clear hb HC
  have HO : Hid ((u8s (outs (sumS c))).toArray.size = 32) := hid rfl
  have HO1 : Hid ((u8s (outs (sumS c))).toArray.all (·.oneCell') = true) := hid (u8s_one _)
  unfold vsum
  obtain ⟨l, hl⟩ : ∃ l, l = outs (sumS c) := ⟨_, rfl⟩
  rw [← hl] at HO HO1 ⊢
  have HLL : Hid (l.length = 32) := by apply hid; rw [hl]; rfl
  have HRG : Hid (∀ x ∈ l, 0 ≤ x ∧ x < 256) := by apply hid; rw [hl]; exact outs_rng _
  have HEQ := hid hl
  clear hl
  have HOC : Hid (∀ i, i < 32 → (u8s l).toArray[i]? = some (.int .u8 (l.getD i 0))) := by
    apply hid; intro i hi; have := HLL.out; simp [show i < l.length by omega]
  generalize (u8s l).toArray = OO at HO HO1 HOC ⊢
  have HZ : Hid ((Tryd.prog.info? 23).map (·.size) = some OO.size) := by apply hid; rw [HO.out]; exact Tryd.size23
  go_wp2_with (refine wpList_store_arr _ rfl (.tmp 3) (.tmp 10) 23 rfl rfl w1.heap.size 23 Z23.toArray OO rfl rfl (heap_alloc_new w1 _) HZ.out (by rw [HZS.out, HO.out]) HO1.out ?_; rw [World.setRow_alloc_new])
  have HB2 : Hid (Below w.heap.size w (w1.alloc (.cells OO 23))) := hid (HB1.out.alloc HB1.out.size _)
  have HG3 : Hid ((w1.alloc (.cells OO 23)).heap[w1.heap.size]? = some (.cells OO 23 (0, 0))) := hid (heap_alloc_new w1 _)
  generalize w1.alloc (.cells OO 23) = w2 at HB2 HG3 ⊢
  generalize w1.heap.size = g at HG3 ⊢
  clear hz2 HB1 HZ HO HO1
  obtain ⟨D, hD⟩ : ∃ D : ByteArray, D = Dg := ⟨_, rfl⟩
  have hDs : D.size = 16 := by rw [hD]; rfl
  have HDX : Hid (∀ y : Int, 0 ≤ y → y < 16 → D.extract y.toNat (y + 1).toNat = ⟨#[dg y]⟩) := by
    apply hid; intro y h0 h1; rw [hD]; exact dg_ext y h0 h1
  rw [show (⟨#[48, 49, 50, 51, 52, 53, 54, 55, 56, 57, 97, 98, 99, 100, 101, 102]⟩ : ByteArray) = D from hD.symm]
  clear hD
  go_loopg [4, 6] 32 (fun gg vo vi wr => ∃ i : Nat, i ≤ 32 ∧ gg = 32 - i ∧ vo = .string ⟨(hx (l.take i)).toArray⟩ ∧ vi = .int .i64 (i : Int) ∧ Below w.heap.size w wr ∧ wr.heap[g]? = some (.cells OO 23 (0, 0)))
  case atStart => exact ⟨0, by omega, rfl, rfl, rfl, HB2.out, HG3.out⟩
  case round =>
    clear HB2 HG3
    obtain ⟨i, hi, rfl, rfl, rfl, hB, hG⟩ := hrel
    have HB := hid hB
    have HG := hid hG
    clear hB hG
    by_cases hil : i < 32
    · have hi1 : (i : Int) < 32 := by omega
      obtain ⟨x, hx0⟩ : ∃ x, x = l.getD i 0 := ⟨_, rfl⟩
      have hxr : 0 ≤ x ∧ x < 256 := by
        rw [hx0]; apply HRG.out; have := HLL.out; rw [List.getD_eq_getElem?_getD, List.getElem?_eq_getElem (by omega)]; exact List.getElem_mem _
      have hcx : wr.cell? ⟨g, i, none⟩ = some (.int .u8 x) := by rw [cell_of_heap HG.out, HOC.out i hil, hx0]
      have hx0' := hxr.1
      have hx1' := hxr.2
      have HX := hid hx0
      have HIL := hid hil
      obtain ⟨o, ho⟩ : ∃ o : ByteArray, o = ⟨(hx (l.take i)).toArray⟩ := ⟨_, rfl⟩
      rw [← ho]
      have HOO := hid ho
      have hos : o.size = 2 * i := by rw [ho]; show (hx (l.take i)).toArray.size = _; rw [List.size_toArray, hx_len, List.length_take]; have := HLL.out; omega
      have hos1 : o.size ≤ 64 := by omega
      clear hos
      clear hxr hx0 hi hil ho
      go_wp2_with fail
      go_quiet (fail)
      go_wp2_with fail
      obtain ⟨y, hy⟩ : ∃ y, y = x / 16 := ⟨_, rfl⟩
      obtain ⟨z, hz⟩ : ∃ z, z = x % 16 := ⟨_, rfl⟩
      have hy0 : 0 ≤ y := by omega
      have hy1 : y < 16 := by omega
      have hz0 : 0 ≤ z := by omega
      have hz1 : z < 16 := by omega
      have hwy : IntKind.i64.wrap (y + 1) = y + 1 := by rw [IntKind.wrap_i64]; omega
      have hwz : IntKind.i64.wrap (z + 1) = z + 1 := by rw [IntKind.wrap_i64]; omega
      rw [← hy, ← hz]
      have HY := hid hy
      have HZ := hid hz
      clear hy hz hcx hx0' hx1'
      have HB8 := hid (below_drewN HB.out nq)
      have HG8 : Hid ((wr.drewN nq).heap[g]? = some (.cells OO 23 (0, 0))) := HG
      generalize wr.drewN nq = w8 at HB8 HG8 ⊢
      have hs1 : ∀ W, (Instr.sliceAt 9 (.string D) (some (.int .i64 y)) (some (.int .i64 (y + 1))) none).run Tryd.prog W = .ok (.string ⟨#[dg y]⟩) W := fun W => by
        rw [← HDX.out y hy0 hy1]; exact slice_str D hDs y hy0 hy1 W
      have hs2 : ∀ W, (Instr.sliceAt 9 (.string D) (some (.int .i64 z)) (some (.int .i64 (z + 1))) none).run Tryd.prog W = .ok (.string ⟨#[dg z]⟩) W := fun W => by
        rw [← HDX.out z hz0 hz1]; exact slice_str D hDs z hz0 hz1 W
      have hd1 : ∀ d : UInt8, ByteArray.size ⟨#[d]⟩ = 1 := fun d => rfl
      obtain ⟨p1, hp1⟩ : ∃ p1 : ByteArray, p1 = ⟨#[dg y]⟩ := ⟨_, rfl⟩
      obtain ⟨p2, hp2⟩ : ∃ p2 : ByteArray, p2 = ⟨#[dg z]⟩ := ⟨_, rfl⟩
      have ha1 : ∀ W, (Op.stringOp .add o p1).run Tryd.prog W = .ok (.string (o ++ p1)) W := fun W => run_string_add_sum W o p1 (by rw [hp1, hd1]; omega)
      have ha2 : ∀ W, (Op.stringOp .add (o ++ p1) p2).run Tryd.prog W = .ok (.string (o ++ p1 ++ p2)) W := fun W => run_string_add_sum W (o ++ p1) p2 (by rw [ByteArray.size_append, hp1, hp2, hd1, hd1]; omega)
      rw [← hp1] at hs1
      rw [← hp2] at hs2
      have HP1 := hid hp1
      have HP2 := hid hp2
      clear hp1 hp2 hd1
      go_quiet (fail)
      go_wp2_with fail
      go_roundg (32 - (i + 1))
      case measure => have := HIL.out; omega
      case rel =>
        refine ⟨i + 1, HIL.out, rfl, ?_, rfl, below_drewN HB8.out _, HG8.out⟩
        rw [take_one l i (by rw [HLL.out]; exact HIL.out), ← HX.out, hx_snoc, HOO.out, HP1.out, HP2.out, HY.out, HZ.out]
        exact congrArg Value.string (str_two _ _ _)
    · have hil' : ¬ (i : Int) < 32 := by omega
      obtain rfl : i = 32 := by omega
      have HL32 : Hid (l.take 32 = l) := hid (List.take_of_length_le (by have := HLL.out; omega))
      clear hil hi
      go_wp2_with fail
      go_ret
      refine ⟨?_, HB.out⟩
      rw [← HEQ.out]
      have := HL32.out
      show Ending.returned (.string ⟨(hx (l.take 32)).toArray⟩) = _
      rw [this]
end Go.Proofs.YtkeppcpplkdkaaaDoor
