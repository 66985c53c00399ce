/- What TermBuilds answers. -/
import Derived.Test.YtcmpiffkmnbepaaDoorRAgree
import Derived.Test.YtcmpiffkmnbepaaDoorWorks
namespace Go.Proofs.YtcmpiffkmnbepaaDoor
open Go.RowKit

/-- the five ops of two -/
def ops5 : List UInt8 := [68, 86, 75, 83, 66]
theorem ops5_two (j : Nat) (h : j < 5) : Tm.isTwo (ops5.getD j 0) = true := by
  match j, h with
  | 0, _ => rfl
  | 1, _ => rfl
  | 2, _ => rfl
  | 3, _ => rfl
  | 4, _ => rfl

/-- what the program made lies there -/
structure BB (w : World) (B : Nat) (a b : Bs) (W : World) : Prop where
  bel : Below w.heap.size w W
  op : ∀ j, j < 5 → W.cell? ⟨B, j, none⟩ = some (.int .u8 ((ops5.getD j 0).toNat : Int))
  hv : ∀ j, j < 5 → W.cell? ⟨B + 1, j, none⟩ = some (St (bRes (ops5.getD j 0) [] [a, b]).1)
  tl : ∀ j, j < 5 → W.cell? ⟨B + 1 + 1, j, none⟩ = some (.int .i64 ((bRes (ops5.getD j 0) [] [a, b]).2 : Int))
  sz : B + 1 + 1 < W.heap.size
theorem BB.below {w : World} {B : Nat} {a b : Bs} {W W' : World} (h : BB w B a b W) (hb : Below W.heap.size W W') : BB w B a b W' :=
  ⟨h.bel.trans (hb.mono h.bel.size), fun j hj => (hb.cell (p := ⟨B, j, none⟩) (by have := h.sz; show B < _; omega)).trans (h.op j hj), fun j hj => (hb.cell (p := ⟨B + 1, j, none⟩) (by have := h.sz; show B + 1 < _; omega)).trans (h.hv j hj),
    fun j hj => (hb.cell (p := ⟨B + 1 + 1, j, none⟩) h.sz).trans (h.tl j hj), Nat.lt_of_lt_of_le h.sz hb.size⟩
theorem BB.drewN {w : World} {B : Nat} {a b : Bs} {W : World} (h : BB w B a b W) (n : Nat) : BB w B a b (W.drewN n) :=
  h.below ⟨rfl, rfl, rfl, Nat.le_refl _, fun _ _ => rfl⟩
theorem BB.new {w w1 : World} {a b : Bs} (hb : Below w.heap.size w w1) : BB w w1.heap.size a b (World.alloc (World.alloc (World.alloc w1 (.cells #[.int .u8 68, .int .u8 86, .int .u8 75, .int .u8 83, .int .u8 66] 5))
      (.cells #[St (bRes 68 [] [a, b]).1, St (bRes 86 [] [a, b]).1, St (bRes 75 [] [a, b]).1, St (bRes 83 [] [a, b]).1, St (bRes 66 [] [a, b]).1] 22))
      (.cells #[.int .i64 ((bRes 68 [] [a, b]).2 : Int), .int .i64 ((bRes 86 [] [a, b]).2 : Int), .int .i64 ((bRes 75 [] [a, b]).2 : Int), .int .i64 ((bRes 83 [] [a, b]).2 : Int), .int .i64 ((bRes 66 [] [a, b]).2 : Int)] 33)) := by
  generalize hA : World.alloc w1 (.cells #[.int .u8 68, .int .u8 86, .int .u8 75, .int .u8 83, .int .u8 66] 5) = A
  have sA : A.heap.size = w1.heap.size + 1 := by rw [← hA]; simp
  have bA : Below w1.heap.size w1 A := by rw [← hA]; exact below_alloc_self' w1 _
  have cA : A.heap[w1.heap.size]? = some (.cells #[.int .u8 68, .int .u8 86, .int .u8 75, .int .u8 83, .int .u8 66] 5 (0, 0)) := by rw [← hA]; exact heap_alloc_new w1 _
  clear hA
  generalize hC : World.alloc A (.cells #[St (bRes 68 [] [a, b]).1, St (bRes 86 [] [a, b]).1, St (bRes 75 [] [a, b]).1, St (bRes 83 [] [a, b]).1, St (bRes 66 [] [a, b]).1] 22) = C
  have sC : C.heap.size = A.heap.size + 1 := by rw [← hC]; simp
  have bC : Below A.heap.size A C := by rw [← hC]; exact below_alloc_self' A _
  have cC : C.heap[A.heap.size]? = some (.cells #[St (bRes 68 [] [a, b]).1, St (bRes 86 [] [a, b]).1, St (bRes 75 [] [a, b]).1, St (bRes 83 [] [a, b]).1, St (bRes 66 [] [a, b]).1] 22 (0, 0)) := by rw [← hC]; exact heap_alloc_new A _
  clear hC
  have bD := below_alloc_self' C (.cells #[.int .i64 ((bRes 68 [] [a, b]).2 : Int), .int .i64 ((bRes 86 [] [a, b]).2 : Int), .int .i64 ((bRes 75 [] [a, b]).2 : Int), .int .i64 ((bRes 83 [] [a, b]).2 : Int), .int .i64 ((bRes 66 [] [a, b]).2 : Int)] 33)
  have cD := heap_alloc_new C (.cells #[.int .i64 ((bRes 68 [] [a, b]).2 : Int), .int .i64 ((bRes 86 [] [a, b]).2 : Int), .int .i64 ((bRes 75 [] [a, b]).2 : Int), .int .i64 ((bRes 83 [] [a, b]).2 : Int), .int .i64 ((bRes 66 [] [a, b]).2 : Int)] 33)
  rw [sA] at cC
  rw [sC, sA] at cD
  refine ⟨hb.trans ((bA.mono hb.size).trans ((bC.mono (by have := hb.size; omega)).trans (bD.mono (by have := hb.size; omega)))), fun j hj => ?_, fun j hj => ?_, fun j hj => ?_, by simp; omega⟩
  · rw [bD.cell (p := ⟨w1.heap.size, j, none⟩) (by show w1.heap.size < _; omega), bC.cell (p := ⟨w1.heap.size, j, none⟩) (by show w1.heap.size < _; omega), cell_of_heap cA]
    match j, hj with
    | 0, _ => rfl
    | 1, _ => rfl
    | 2, _ => rfl
    | 3, _ => rfl
    | 4, _ => rfl
  · rw [bD.cell (p := ⟨w1.heap.size + 1, j, none⟩) (by show w1.heap.size + 1 < _; omega), cell_of_heap cC]
    match j, hj with
    | 0, _ => rfl
    | 1, _ => rfl
    | 2, _ => rfl
    | 3, _ => rfl
    | 4, _ => rfl
  · rw [cell_of_heap cD]
    match j, hj with
    | 0, _ => rfl
    | 1, _ => rfl
    | 2, _ => rfl
    | 3, _ => rfl
    | 4, _ => rfl

set_option maxHeartbeats 4000000 in
set_option maxRecDepth 100000 in
theorem builds_small (a b : Bs) (w : World) (h1 : a.length ≤ 20000) (h2 : b.length ≤ 20000) :
    Calls Tryd.prog 5 #[St a, St b] w fun en w' => en = .returned (.bool true) ∧ Below w.heap.size w w' := by
  have hs1 : (⟨a.toArray⟩ : ByteArray).size = a.length := st_size a
  have hs2 : (⟨b.toArray⟩ : ByteArray).size = b.length := st_size b
  have l1 : ¬ (20000 : Int) < (a.length : Int) := by omega
  have l2 : ¬ (20000 : Int) < (b.length : Int) := by omega
  have HR1 := hid (oneRes_hash a)
  clear h1 h2
  go_enter Tryd.func5, Tryd.ntmps5
  go_wp2_with fail
  refine (hash_any a _).mono ?_
  rintro e w1 ⟨rfl, hb⟩
  have HB1 := hid hb
  clear hb
  go_wp2_with fail
  refine (child_any a b _).mono ?_
  rintro e w2 ⟨rfl, hb⟩
  have HB2 := hid (HB1.out.trans (hb.mono HB1.out.size))
  clear hb HB1
  go_wp2_with fail
  refine (join_any a b _).mono ?_
  rintro e w3 ⟨rfl, hb⟩
  have HB3 := hid (HB2.out.trans (hb.mono HB2.out.size))
  clear hb HB2
  go_wp2_with fail
  refine (bind_any a b _).mono ?_
  rintro e w4 ⟨rfl, hb⟩
  have HB4 := hid (HB3.out.trans (hb.mono HB3.out.size))
  clear hb HB3
  go_wp2_with fail
  refine (sign_any a b _).mono ?_
  rintro e w5 ⟨rfl, hb⟩
  have HB5 := hid (HB4.out.trans (hb.mono HB4.out.size))
  clear hb HB4
  go_wp2_with fail
  refine (box_any a b _).mono ?_
  rintro e w6 ⟨rfl, hb⟩
  have HB6 := hid (HB5.out.trans (hb.mono HB5.out.size))
  clear hb HB5
  go_wp2_with fail
  refine (pubs_any a _).mono ?_
  rintro e w7 ⟨rfl, hb⟩
  have HB7 := hid (HB6.out.trans (hb.mono HB6.out.size))
  clear hb HB6
  go_wp2_with fail
  refine (joints_any a b _).mono ?_
  rintro e w8 ⟨rfl, hb⟩
  have HB8 := hid (HB7.out.trans (hb.mono HB7.out.size))
  clear hb HB7
  go_wp2_with fail
  refine (bounds_any a b _).mono ?_
  rintro e w9 ⟨rfl, hb⟩
  have HB9 := hid (HB8.out.trans (hb.mono HB8.out.size))
  clear hb HB8
  go_wp2_with fail
  refine (agrees_any a b _).mono ?_
  rintro e w10 ⟨rfl, hb⟩
  have HB10 := hid (HB9.out.trans (hb.mono HB9.out.size))
  clear hb HB9
  go_wp2_with fail
  refine (rone_any 72 a _).mono ?_
  rintro e w11 ⟨rfl, hb⟩
  have HB11 := hid (HB10.out.trans (hb.mono HB10.out.size))
  clear hb HB10
  rw [HR1.out]
  go_wp2_with fail
  have HBB := hid (BB.new (a := a) (b := b) HB11.out)
  clear HB11
  generalize World.alloc (World.alloc (World.alloc w11 _) _) _ = W0 at HBB ⊢
  generalize w11.heap.size = B at HBB ⊢
  go_loopg [30] 5 (fun gg iv wr => ∃ j : Nat, j ≤ 5 ∧ gg = 5 - j ∧ iv = .int .i64 (j : Int) ∧ BB w B a b wr)
  case atStart => exact ⟨0, by omega, rfl, rfl, HBB.out⟩
  case round =>
    obtain ⟨j, hj, rfl, rfl, hbb⟩ := hrel
    have HBJ := hid hbb
    clear hbb HBB
    by_cases hjl : j < 5
    · have hjl' : (j : Int) < 5 := by omega
      have c0 := HBJ.out.op j hjl
      have HTW := hid (twoRes_two (ops5_two j hjl) a b)
      have HMS : Hid (5 - (j + 1) < 5 - j) := by apply hid; omega
      have HJS : Hid (j + 1 ≤ 5) := by apply hid; omega
      have HIV : Hid ((.int .i64 ((j : Int) + 1) : Value) = .int .i64 ((j + 1 : Nat) : Int)) := by apply hid; simp
      have HJL := hid hjl
      obtain ⟨op, hop⟩ : ∃ op, op = ops5.getD j 0 := ⟨_, rfl⟩
      rw [← hop] at c0 HTW
      have HOP := hid hop
      clear hop hjl
      go_wp2_with fail
      refine (rtwo_any op a b _).mono ?_
      rintro e wN ⟨rfl, hb⟩
      rw [HTW.out]
      have HBN := hid (HBJ.out.below hb)
      clear hb HBJ c0
      have c1 := HBN.out.hv j HJL.out
      have c2 := HBN.out.tl j HJL.out
      rw [← HOP.out] at c1 c2
      go_wp2_with fail
      go_roundg (5 - (j + 1))
      case measure => exact HMS.out
      case rel => exact ⟨j + 1, HJS.out, rfl, HIV.out, HBN.out⟩
    · have hjl' : ¬ (j : Int) < 5 := by omega
      go_wp2_with fail
      refine (rpubs_any a _).mono ?_
      rintro e w12 ⟨rfl, hb⟩
      have HB12 := hid (HBJ.out.bel.trans (hb.mono HBJ.out.bel.size))
      clear hb HBJ
      go_wp2_with fail
      refine (rjoints_any a b _).mono ?_
      rintro e w13 ⟨rfl, hb⟩
      have HB13 := hid (HB12.out.trans (hb.mono HB12.out.size))
      clear hb HB12
      go_wp2_with fail
      refine (rbounds_any a b _).mono ?_
      rintro e w14 ⟨rfl, hb⟩
      have HB14 := hid (HB13.out.trans (hb.mono HB13.out.size))
      clear hb HB13
      go_wp2_with fail
      refine (ragrees_any a b _).mono ?_
      rintro e w15 ⟨rfl, hb⟩
      have HB15 := hid (HB14.out.trans (hb.mono HB14.out.size))
      clear hb HB14
      go_wp2_with fail
      refine (works_any _).mono ?_
      rintro e w16 ⟨rfl, hb⟩
      have HB16 := hid (HB15.out.trans (hb.mono HB15.out.size))
      clear hb HB15
      go_wp2_with fail
      go_ret
      exact ⟨rfl, HB16.out⟩

set_option maxHeartbeats 2000000 in
set_option maxRecDepth 100000 in
theorem builds_any (a b : Bs) (w : World) (_ : a.length ≤ 140737488355328) (_ : b.length ≤ 140737488355328) :
    Calls Tryd.prog 5 #[St a, St b] w fun en w' => en = .returned (.bool true) ∧ Below w.heap.size w w' := by
  have hs1 : (⟨a.toArray⟩ : ByteArray).size = a.length := st_size a
  have hs2 : (⟨b.toArray⟩ : ByteArray).size = b.length := st_size b
  by_cases h1 : a.length ≤ 20000
  · by_cases h2 : b.length ≤ 20000
    · exact builds_small a b w h1 h2
    · have l1 : ¬ (20000 : Int) < (a.length : Int) := by omega
      have l2 : (20000 : Int) < (b.length : Int) := by omega
      go_enter Tryd.func5, Tryd.ntmps5
      go_wp2_with fail
      go_ret
      exact ⟨rfl, Below.refl _ _⟩
  · have l1 : (20000 : Int) < (a.length : Int) := by omega
    go_enter Tryd.func5, Tryd.ntmps5
    go_wp2_with fail
    go_ret
    exact ⟨rfl, Below.refl _ _⟩
end Go.Proofs.YtcmpiffkmnbepaaDoor
